/- The document's Path; Verify of both. -/
import Derived.Test.YtnibmkenbidnfabDoorJ4
namespace Go.Proofs.YtnibmkenbidnfabDoor
open Go.RowKit
set_option linter.unusedVariables false

/-- What Verify answers. -/
def verE (rt : List UInt8) (t i : Int) (A : List (List UInt8)) (x : List UInt8) : Int := if pathE t i A.length x.length ≠ 0 then pathE t i A.length x.length else if pathH t i A x = rt then 0 else 21
set_option maxRecDepth 100000 in
set_option maxHeartbeats 4000000 in
theorem verify26 (w : World) (rt : List UInt8) (hrt : rt.length = 32) (t i : Int) (A : List (List UInt8)) (a : Option Addr) (cap : Nat) (hA : HsAt w a cap A) (v : Value) (x : List UInt8) (hb : Bs w v x) (hl : Laid1 w) (hsz : 2 ≤ w.heap.size) :
    Calls Tryd.prog 10 #[.agg (hb32 rt), .agg #[.int .i64 t, .int .i64 i, .slice a A.length cap], v] w fun e w' => e = .returned (.int .i64 (verE rt t i A x)) ∧ Turn no w w' := by
  have sR := hb32_size hrt
  have iR := hb32_info hrt
  have lp := pathH_len t i A x
  have sP := hb32_size lp
  have oP := hb32_one (pathH t i A x)
  have iP := hb32_info lp
  obtain ⟨w0, hw0⟩ : ∃ w0, (w.alloc (.cells (hb32 rt) 25)).alloc (.cells #[.int .i64 t, .int .i64 i, .slice a A.length cap] 34) = w0 := ⟨_, rfl⟩
  have T0 : Turn no w w0 := by rw [← hw0]; exact ((Turn.refl no w).alloc _).alloc _
  have RR : Row w0 w.heap.size (hb32 rt) 25 := by rw [← hw0]; exact (Row.new w _ 25).alloc _
  have RP : Row w0 (w.heap.size + 1) #[.int .i64 t, .int .i64 i, .slice a A.length cap] 34 := by rw [← hw0]; exact Row.newAt _ _ _ _ (by simp)
  have hp := path25 w0 t i A a cap (hA.turn_no T0) v x (hb.turn_no T0) (hl.turn T0 (fun q => q)) (by have := T0.size; omega)
  obtain ⟨xa, xc, rfl⟩ := hb.slice
  have hzv := zero35v
  have HZ : Shut ((hb32 z32).size = 32) := hb32_size z32_len
  have hq : ∀ W, (Op.equalIn 10000 25 (.agg (hb32 (pathH t i A x))) (.agg (hb32 rt))).run Tryd.prog W = .ok (pathH t i A x == rt) W := fun W => eqIn35 W _ _ lp hrt
  have HQ := shut hq
  have HE : Shut (verE rt t i A x = if pathE t i A.length x.length ≠ 0 then pathE t i A.length x.length else if (pathH t i A x == rt) = true then 0 else 21) := by
    show _ = _
    unfold verE
    by_cases h : pathH t i A x = rt
    · rw [h]; simp
    · have h2 : (pathH t i A x == rt) = false := by simpa using h
      rw [h2]
      simp [h]
  generalize verE rt t i A x = VE at *
  generalize (pathH t i A x == rt) = bb at *
  generalize pathE t i A.length x.length = pe at *
  generalize hb32 (pathH t i A x) = PH at *
  generalize hb32 rt = RT at *
  generalize hb32 z32 = Z at *
  generalize A.length = n at *
  generalize x.length = m at *
  have p0 := RP.cell 0 _ rfl
  have p1 := RP.cell 1 _ rfl
  have p2 := RP.cell 2 _ rfl
  clear hA hb hq lp hl
  go_enter Tryd.func10, Tryd.ntmps10
  go_upto_region 1 with fail
  try rw [hw0]
  clear hw0
  go_upto_region 2 with (first | (go_at_call 28; refine hp.mono ?_; clear hp; rintro e w1 ⟨rfl, t1⟩) | (guard_target =~ wpList _ _ _ ({ dst := _, op := Op.store 25 _ _, .. } :: _) _ _; refine wpList_store_anyN rfl rfl 25 (.tmp 7) (.tmp 13) rfl _ PH rfl rfl 25 Z (Row.new _ Z 25) iP (by rw [HZ.out, sP]) oP ?_; intro w2 R2 t2))
  have T12 : Turn (fun q => q = w1.heap.size) w1 w2 := ((Turn.refl no w1).alloc _).of_no.trans t2 (fun _ _ e => e)
  have T02 : Turn no w0 w2 := t1.trans T12 (fun i hi e => by have := t1.size; omega)
  have RR2 := Row.turn RR T02 (fun q => q)
  have TT := T0.then_no T02
  clear p0 p1 p2 RR RP T0 T02 T12 t1 t2 hzv
  generalize w1.heap.size = g7 at *
  by_cases hpe : pe = 0
  · subst hpe
    have HE2 : Shut (VE = if bb = true then 0 else 21) := by show _ = _; rw [HE.out]; rfl
    have hq := HQ.out
    cases bb with
    | true =>
      go_wp2_with (first | (guard_target =~ wpList _ _ _ ({ dst := some 18, op := Op.load 25 _, .. } :: _) _ _; refine wpList_load_row rfl 25 (.tmp 7) rfl g7 rfl 25 PH _ _ R2 Tryd.underlying25 rfl iP ?_) | (guard_target =~ wpList _ _ _ ({ dst := some 19, op := Op.load 25 _, .. } :: _) _ _; refine wpList_load_row rfl 25 (.tmp 3) rfl w.heap.size rfl 25 RT _ _ RR2 Tryd.underlying25 rfl iR ?_))
      go_ret
      exact ⟨by rw [HE2.out]; rfl, TT⟩
    | false =>
      go_wp2_with (first | (guard_target =~ wpList _ _ _ ({ dst := some 18, op := Op.load 25 _, .. } :: _) _ _; refine wpList_load_row rfl 25 (.tmp 7) rfl g7 rfl 25 PH _ _ R2 Tryd.underlying25 rfl iP ?_) | (guard_target =~ wpList _ _ _ ({ dst := some 19, op := Op.load 25 _, .. } :: _) _ _; refine wpList_load_row rfl 25 (.tmp 3) rfl w.heap.size rfl 25 RT _ _ RR2 Tryd.underlying25 rfl iR ?_))
      go_ret
      exact ⟨by rw [HE2.out]; rfl, TT⟩
  · have HE2 : Shut (VE = pe) := by show _ = _; rw [HE.out, if_pos hpe]
    have hpe' : (pe != 0) = true := by simpa using hpe
    go_wp2_with fail
    go_ret
    exact ⟨by rw [HE2.out]; rfl, TT⟩
end Go.Proofs.YtnibmkenbidnfabDoor
