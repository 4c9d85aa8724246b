/- The document's Path; Verify of both. -/
import Derived.Test.YtieoomdbijpdhaaDoorJ4
namespace Go.Proofs.YtieoomdbijpdhaaDoor
open Go.RowKit
set_option linter.unusedVariables false

set_option maxRecDepth 100000 in
set_option maxHeartbeats 4000000 in
theorem rpath27 (w : World) (t i : Int) (A : List (List UInt8)) (a : Option Addr) (cap : Nat) (hA : HsAt w a cap A) (v : Value) (x : List UInt8) (hb : Bs w v x) (hl : Laid0 w) (hsz : 2 ≤ w.heap.size) :
    Calls Tryd.prog 16 #[.agg #[.int .i64 t, .int .i64 i, .slice a A.length cap], v] w fun e w' => e = .returned (.tuple #[.agg (hb32 (pathH t i A x)), .int .i64 (pathE t i A.length x.length)]) ∧ Turn no w w' := by
  obtain ⟨n, hn⟩ : ∃ n, Hid (A.length = n) := ⟨_, rfl⟩
  have hn' := hn.out
  have hb2 := hb
  obtain ⟨xa, xc, rfl⟩ := hb2.slice
  have HZ : Shut ((hb32 z32).size = 32) := hb32_size z32_len
  have HZo := shut (hb32_one z32)
  have iZ := hb32_info z32_len
  have hzv := zero35v
  have hbd := shut bld35
  have T0 : Turn no w ((w.alloc (.cells #[.int .i64 t, .int .i64 i, .slice a n cap] 57)).alloc (.cells (hb32 z32) 23)) := ((Turn.refl no w).alloc _).alloc _
  have RP : Row ((w.alloc (.cells #[.int .i64 t, .int .i64 i, .slice a n cap] 57)).alloc (.cells (hb32 z32) 23)) w.heap.size #[.int .i64 t, .int .i64 i, .slice a n cap] 57 := (Row.new w _ 57).alloc _
  have RZ : Row ((w.alloc (.cells #[.int .i64 t, .int .i64 i, .slice a n cap] 57)).alloc (.cells (hb32 z32) 23)) (w.heap.size + 1) (hb32 z32) 23 := Row.newAt _ _ _ _ (by simp)
  obtain ⟨w0, hw0⟩ : ∃ w0, (w.alloc (.cells #[.int .i64 t, .int .i64 i, .slice a n cap] 57)).alloc (.cells (hb32 z32) 23) = w0 := ⟨_, rfl⟩
  rw [hw0] at T0 RP RZ
  have hf := rfits_any w0 t i a n cap
  by_cases h1 : 1048576 < x.length
  · have he : pathE t i A.length x.length = 4 := if_pos h1
    have hp : pathH t i A x = z32 := by unfold pathH; rw [he]; rfl
    rw [he, hp, hn']
    generalize hb32 z32 = Z at *
    have h1' : (1048576 : Int) < (x.length : Int) := by omega
    generalize x.length = m at *
    clear hf hA hb hb2 he hp hn'
    go_enter Tryd.func16, Tryd.ntmps16
    go_upto_region 1 with fail
    try rw [hw0]
    clear hw0 hzv
    go_wp2_with (first | (guard_target =~ wpList _ _ _ ({ dst := _, op := Op.build 23 _, .. } :: _) _ _; refine wpList_buildG (by kernel_rfl) 23 rfl _ (hbd.out _) ?_) | (guard_target =~ wpList _ _ _ ({ dst := _, op := Op.store 23 _ _, .. } :: _) _ _; refine wpList_store_row rfl 23 (.tmp 4) (.tmp 13) rfl (w.heap.size + 1) Z rfl rfl 23 Z RZ iZ rfl HZo.out ?_))
    refine bodyPost_ret (v := .tuple #[.agg Z, .int .i64 4]) ?_ rfl ⟨rfl, T0.setRow _ _ (fun q => by omega)⟩
    exact results_cell_row_tmp (P := Tryd.prog) Tryd.results16 _ _ (w.heap.size + 1) 23 Z (0, 0) _ rfl (setRow_heap _ _ _ _ _ _ RZ) Tryd.underlying23 rfl iZ
  · have h1' : ¬ (1048576 : Int) < (x.length : Int) := by omega
    cases hfb : fitsB t i A.length with
    | false =>
      have he : pathE t i A.length x.length = 20 := by unfold pathE; rw [if_neg h1, hfb]; rfl
      have hp : pathH t i A x = z32 := by unfold pathH; rw [he]; rfl
      rw [he, hp, hn']
      rw [hn'] at hfb
      rw [hfb] at hf
      generalize hb32 z32 = Z at *
      generalize x.length = m at *
      have p0 := RP.cell 0 _ rfl
      have p1 := RP.cell 1 _ rfl
      have p2 := RP.cell 2 _ rfl
      clear hA hb hb2 he hp hn' hfb
      go_enter Tryd.func16, Tryd.ntmps16
      go_upto_region 1 with fail
      try rw [hw0]
      clear hw0 hzv
      go_wp2_with (first | (go_at_call 37; refine hf.mono ?_; clear hf; rintro e w2 ⟨rfl, t2⟩; have RZ2 := Row.turn RZ t2 (fun q => q); have T2 := T0.then_no t2) | (guard_target =~ wpList _ _ _ ({ dst := _, op := Op.build 23 _, .. } :: _) _ _; refine wpList_buildG (by kernel_rfl) 23 rfl _ (hbd.out _) ?_) | (guard_target =~ wpList _ _ _ ({ dst := _, op := Op.store 23 _ _, .. } :: _) _ _; refine wpList_store_row rfl 23 (.tmp 4) (.tmp 18) rfl (w.heap.size + 1) Z rfl rfl 23 Z RZ2 iZ rfl HZo.out ?_))
      refine bodyPost_ret (v := .tuple #[.agg Z, .int .i64 20]) ?_ rfl ⟨rfl, T2.setRow _ _ (fun q => by omega)⟩
      exact results_cell_row_tmp (P := Tryd.prog) Tryd.results16 _ _ (w.heap.size + 1) 23 Z (0, 0) _ rfl (setRow_heap _ _ _ _ _ _ RZ2) Tryd.underlying23 rfl iZ
    | true =>
      have he : pathE t i A.length x.length = 0 := by unfold pathE; rw [if_neg h1, hfb]; rfl
      have hp : pathH t i A x = hashOf (2 :: (numE t.toNat ++ upH t.toNat i.toNat A (hashOf (0 :: x)))) := by unfold pathH; rw [he]; rfl
      have hq := of_decide_eq_true hfb
      obtain ⟨tn, rfl⟩ : ∃ tn : Nat, t = (tn : Int) := ⟨t.toNat, by omega⟩
      obtain ⟨ix, rfl⟩ : ∃ ix : Nat, i = (ix : Int) := ⟨i.toNat, by omega⟩
      simp only [Int.toNat_natCast] at hp hq
      rw [he, hp]
      have lf := hashOf_len (0 :: x)
      have hlf := fun W (T : Turn no w W) => leaf21 W (.slice xa x.length xc) x (hb.turn_no T) (hl.turn T (fun q => q)) (by have := T.size; omega) (by omega)
      have hcl := fun W (T : Turn no w W) => up_any tn ix A a cap (hashOf (0 :: x)) W (by omega) (by omega) (by omega) hq.2.2.2.2 (hA.turn_no T) lf (hl.turn T (fun q => q)) (by have := T.size; omega)
      have lu := upH_len tn ix A (hashOf (0 :: x)) lf
      generalize upH tn ix A (hashOf (0 :: x)) = U at *
      have hro := fun W (T : Turn no w W) => rootText_any W tn (by omega) U lu
      have hsu := fun W (T : Turn no w W) v (hb : Bs W v (2 :: (numE tn ++ U))) => rsum_all W v _ hb (hl.turn T (fun q => q)) (by have := T.size; omega) (by simp [numE_len, lu])
      rw [show hb32 (hashOf (2 :: (numE tn ++ U))) = hv (2 :: (numE tn ++ U)) from rfl]
      have hs := hv_size (2 :: (numE tn ++ U))
      have o1 := hv_one (2 :: (numE tn ++ U))
      have hi := hv_info (2 :: (numE tn ++ U))
      have sf := hv_size (0 :: x)
      rw [show hb32 (hashOf (0 :: x)) = hv (0 :: x) from rfl, hn'] at hcl
      rw [hn'] at hfb ⊢
      rw [hfb] at hf
      have HLF := shut hlf
      have HCL := shut hcl
      have HRO := shut hro
      have HSU := shut hsu
      clear hsu
      have HRO : Shut (∀ W, Turn no w W → Calls Tryd.prog 35 #[.int .i64 tn, .agg (hb32 U)] W fun e w' => ∃ v, e = .returned v ∧ Bs w' v (2 :: (numE tn ++ U)) ∧ Turn no W w') := fun W T => (HRO.out W T).mono (fun e w' ⟨v, e1, o, t⟩ => ⟨v, e1, o.bs, t⟩)
      have sU := hb32_size lu
      have oU := hb32_one U
      have iU := hb32_info lu
      have oF := hv_one (0 :: x)
      have iF := hv_info (0 :: x)
      generalize hv (2 :: (numE tn ++ U)) = H at *
      generalize (2 :: (numE tn ++ U)) = TX at *
      generalize hv (0 :: x) = LF at *
      generalize hb32 U = UA at *
      obtain ⟨Z, hZ⟩ : ∃ Z, hb32 z32 = Z := ⟨_, rfl⟩
      rw [hZ] at HZ HZo iZ hzv hbd RZ hw0
      have HM : Shut (∀ m, x.length = m → (1048576 : Int) < (m : Int) → False) := fun m e q => by omega
      obtain ⟨m, hm⟩ : ∃ m, x.length = m := ⟨_, rfl⟩
      rw [hm] at HLF h1' ⊢
      have p0 := RP.cell 0 _ rfl
      have p1 := RP.cell 1 _ rfl
      have p2 := RP.cell 2 _ rfl
      clear hA hb hb2 he hp hn' hfb hlf hcl hro hq lf lu h1 hm HM
      go_enter Tryd.func16, Tryd.ntmps16
      go_upto_region 1 with fail
      try rw [hw0]
      clear hw0 hzv
      go_upto_region 6 with (go_at_call 37; refine hf.mono ?_; clear hf; rintro e w2 ⟨rfl, t2⟩)
      have RZ2 := Row.turn RZ t2 (fun q => q)
      have RP2 := Row.turn RP t2 (fun q => q)
      have T2 := T0.then_no t2
      have hlf := HLF.out w2 T2
      have g1 := RZ2.lt
      have hzv := zero35v
      rw [hZ] at hzv
      clear p0 p1 p2 HLF RZ RP T0 t2
      go_upto_region 7 with (first | (go_at_call 38; refine hlf.mono ?_; clear hlf; rintro e w3 ⟨rfl, t3⟩) | (guard_target =~ wpList _ _ _ ({ dst := _, op := Op.store 23 _ _, .. } :: _) _ _; refine wpList_store_anyN rfl rfl 23 (.tmp 7) (.tmp 20) rfl _ LF rfl rfl 23 Z (Row.new _ Z 23) iF (by rw [HZ.out, sf]) oF ?_; intro w4 R4 t4))
      have T34 : Turn (fun q => q = w3.heap.size) w3 w4 := ((Turn.refl no w3).alloc _).of_no.trans t4 (fun _ _ e => e)
      have T24 : Turn no w2 w4 := t3.trans T34 (fun i hi e => by have := t3.size; omega)
      have RZ4 := Row.turn RZ2 T24 (fun q => q)
      have RP4 := Row.turn RP2 T24 (fun q => q)
      have T4 := T2.then_no T24
      have hcl := HCL.out w4 T4
      have p0 := Row.cell RP4 0 _ rfl
      have p1 := Row.cell RP4 1 _ rfl
      have p2 := Row.cell RP4 2 _ rfl
      clear HCL RZ2 RP2 T34 T24 t3 t4
      generalize w3.heap.size = g7 at *
      go_upto_region 8 with (first | (guard_target =~ wpList _ _ _ ({ dst := _, op := Op.load 23 _, .. } :: _) _ _; refine wpList_load_row rfl 23 (.tmp 7) rfl g7 rfl 23 LF _ _ R4 Tryd.underlying23 rfl iF ?_) | (go_at_call 39; refine hcl.mono ?_; clear hcl; rintro e w5 ⟨rfl, t5⟩) | (guard_target =~ wpList _ _ _ ({ dst := _, op := Op.store 23 _ _, .. } :: _) _ _; refine wpList_store_anyN rfl rfl 23 (.tmp 8) (.tmp 28) rfl _ UA rfl rfl 23 Z (Row.new _ Z 23) iU (by rw [HZ.out, sU]) oU ?_; intro w6 R6 t6))
      have T56 : Turn (fun q => q = w5.heap.size) w5 w6 := ((Turn.refl no w5).alloc _).of_no.trans t6 (fun _ _ e => e)
      have T46 : Turn no w4 w6 := t5.trans T56 (fun i hi e => by have := t5.size; omega)
      have RZ6 := Row.turn RZ4 T46 (fun q => q)
      have RP6 := Row.turn RP4 T46 (fun q => q)
      have T6 := T4.then_no T46
      have hro := HRO.out w6 T6
      have q0 := Row.cell RP6 0 _ rfl
      clear HRO RZ4 RP4 T56 T46 t5 t6 p0 p1 p2 R4
      generalize w5.heap.size = g8 at *
      go_upto_region 9 with (first | (guard_target =~ wpList _ _ _ ({ dst := _, op := Op.load 23 _, .. } :: _) _ _; refine wpList_load_row rfl 23 (.tmp 8) rfl g8 rfl 23 UA _ _ R6 Tryd.underlying23 rfl iU ?_) | (go_at_call 35; refine hro.mono ?_; clear hro; rintro e w7 ⟨v7, rfl, b7, t7⟩; have hsu := HSU.out w7 (T6.then_no t7) v7 b7) | (go_at_call 34; refine hsu.mono ?_; clear hsu; rintro e w8 ⟨rfl, t8⟩) | (guard_target =~ wpList _ _ _ ({ dst := _, op := Op.store 23 _ _, .. } :: _) _ _; refine wpList_store_anyN rfl rfl 23 (.tmp 9) (.tmp 33) rfl _ H rfl rfl 23 Z (Row.new _ Z 23) hi (by rw [HZ.out, hs]) o1 ?_; intro w9 R9 t9))
      have T89 : Turn (fun q => q = w8.heap.size) w8 w9 := ((Turn.refl no w8).alloc _).of_no.trans t9 (fun _ _ e => e)
      have T69 : Turn no w6 w9 := (t7.then_no t8).trans T89 (fun i hi e => by have := (t7.then_no t8).size; omega)
      have RZ9 := Row.turn RZ6 T69 (fun q => q)
      have T9 := T6.then_no T69
      clear T89 T69 RZ6 RP6 t7 t8 t9 q0
      generalize w8.heap.size = g9 at *
      go_wp2_with (first | (guard_target =~ wpList _ _ _ ({ dst := _, op := Op.load 23 _, .. } :: _) _ _; refine wpList_load_row rfl 23 (.tmp 9) rfl g9 rfl 23 H _ _ R9 Tryd.underlying23 rfl hi ?_) | (guard_target =~ wpList _ _ _ ({ dst := _, op := Op.store 23 _ _, .. } :: _) _ _; refine wpList_store_row rfl 23 (.tmp 4) (.tmp 34) rfl (w.heap.size + 1) H rfl rfl 23 Z RZ9 hi (by rw [HZ.out, hs]) o1 ?_))
      refine bodyPost_ret (v := .tuple #[.agg H, .int .i64 0]) ?_ rfl ⟨rfl, T9.setRow _ _ (fun q => by omega)⟩
      exact results_cell_row_tmp (P := Tryd.prog) Tryd.results16 _ _ (w.heap.size + 1) 23 H (0, 0) _ rfl (setRow_heap _ _ _ _ _ _ RZ9) Tryd.underlying23 rfl hi
/-- What Verify answers. -/
def verE (rt : List UInt8) (t i : Int) (A : List (List UInt8)) (x : List UInt8) : Int := if pathE t i A.length x.length ≠ 0 then pathE t i A.length x.length else if pathH t i A x = rt then 0 else 21
set_option maxRecDepth 100000 in
set_option maxHeartbeats 4000000 in
theorem verify26 (w : World) (rt : List UInt8) (hrt : rt.length = 32) (t i : Int) (A : List (List UInt8)) (a : Option Addr) (cap : Nat) (hA : HsAt w a cap A) (v : Value) (x : List UInt8) (hb : Bs w v x) (hl : Laid1 w) (hsz : 2 ≤ w.heap.size) :
    Calls Tryd.prog 30 #[.agg (hb32 rt), .agg #[.int .i64 t, .int .i64 i, .slice a A.length cap], v] w fun e w' => e = .returned (.int .i64 (verE rt t i A x)) ∧ Turn no w w' := by
  have sR := hb32_size hrt
  have iR := hb32_info hrt
  have lp := pathH_len t i A x
  have sP := hb32_size lp
  have oP := hb32_one (pathH t i A x)
  have iP := hb32_info lp
  obtain ⟨w0, hw0⟩ : ∃ w0, (w.alloc (.cells (hb32 rt) 23)).alloc (.cells #[.int .i64 t, .int .i64 i, .slice a A.length cap] 57) = w0 := ⟨_, rfl⟩
  have T0 : Turn no w w0 := by rw [← hw0]; exact ((Turn.refl no w).alloc _).alloc _
  have RR : Row w0 w.heap.size (hb32 rt) 23 := by rw [← hw0]; exact (Row.new w _ 23).alloc _
  have RP : Row w0 (w.heap.size + 1) #[.int .i64 t, .int .i64 i, .slice a A.length cap] 57 := by rw [← hw0]; exact Row.newAt _ _ _ _ (by simp)
  have hp := path25 w0 t i A a cap (hA.turn_no T0) v x (hb.turn_no T0) (hl.turn T0 (fun q => q)) (by have := T0.size; omega)
  obtain ⟨xa, xc, rfl⟩ := hb.slice
  have hzv := zero35v
  have HZ : Shut ((hb32 z32).size = 32) := hb32_size z32_len
  have hq : ∀ W, (Op.equalIn 10000 23 (.agg (hb32 (pathH t i A x))) (.agg (hb32 rt))).run Tryd.prog W = .ok (pathH t i A x == rt) W := fun W => eqIn35 W _ _ lp hrt
  have HQ := shut hq
  have HE : Shut (verE rt t i A x = if pathE t i A.length x.length ≠ 0 then pathE t i A.length x.length else if (pathH t i A x == rt) = true then 0 else 21) := by
    show _ = _
    unfold verE
    by_cases h : pathH t i A x = rt
    · rw [h]; simp
    · have h2 : (pathH t i A x == rt) = false := by simpa using h
      rw [h2]
      simp [h]
  generalize verE rt t i A x = VE at *
  generalize (pathH t i A x == rt) = bb at *
  generalize pathE t i A.length x.length = pe at *
  generalize hb32 (pathH t i A x) = PH at *
  generalize hb32 rt = RT at *
  generalize hb32 z32 = Z at *
  generalize A.length = n at *
  generalize x.length = m at *
  have p0 := RP.cell 0 _ rfl
  have p1 := RP.cell 1 _ rfl
  have p2 := RP.cell 2 _ rfl
  clear hA hb hq lp hl
  go_enter Tryd.func30, Tryd.ntmps30
  go_upto_region 1 with fail
  try rw [hw0]
  clear hw0
  go_upto_region 2 with (first | (go_at_call 53; refine hp.mono ?_; clear hp; rintro e w1 ⟨rfl, t1⟩) | (guard_target =~ wpList _ _ _ ({ dst := _, op := Op.store 23 _ _, .. } :: _) _ _; refine wpList_store_anyN rfl rfl 23 (.tmp 7) (.tmp 13) rfl _ PH rfl rfl 23 Z (Row.new _ Z 23) iP (by rw [HZ.out, sP]) oP ?_; intro w2 R2 t2))
  have T12 : Turn (fun q => q = w1.heap.size) w1 w2 := ((Turn.refl no w1).alloc _).of_no.trans t2 (fun _ _ e => e)
  have T02 : Turn no w0 w2 := t1.trans T12 (fun i hi e => by have := t1.size; omega)
  have RR2 := Row.turn RR T02 (fun q => q)
  have TT := T0.then_no T02
  clear p0 p1 p2 RR RP T0 T02 T12 t1 t2 hzv
  generalize w1.heap.size = g7 at *
  by_cases hpe : pe = 0
  · subst hpe
    have HE2 : Shut (VE = if bb = true then 0 else 21) := by show _ = _; rw [HE.out]; rfl
    have hq := HQ.out
    cases bb with
    | true =>
      go_wp2_with (first | (guard_target =~ wpList _ _ _ ({ dst := some 18, op := Op.load 23 _, .. } :: _) _ _; refine wpList_load_row rfl 23 (.tmp 7) rfl g7 rfl 23 PH _ _ R2 Tryd.underlying23 rfl iP ?_) | (guard_target =~ wpList _ _ _ ({ dst := some 19, op := Op.load 23 _, .. } :: _) _ _; refine wpList_load_row rfl 23 (.tmp 3) rfl w.heap.size rfl 23 RT _ _ RR2 Tryd.underlying23 rfl iR ?_))
      go_ret
      exact ⟨by rw [HE2.out]; rfl, TT⟩
    | false =>
      go_wp2_with (first | (guard_target =~ wpList _ _ _ ({ dst := some 18, op := Op.load 23 _, .. } :: _) _ _; refine wpList_load_row rfl 23 (.tmp 7) rfl g7 rfl 23 PH _ _ R2 Tryd.underlying23 rfl iP ?_) | (guard_target =~ wpList _ _ _ ({ dst := some 19, op := Op.load 23 _, .. } :: _) _ _; refine wpList_load_row rfl 23 (.tmp 3) rfl w.heap.size rfl 23 RT _ _ RR2 Tryd.underlying23 rfl iR ?_))
      go_ret
      exact ⟨by rw [HE2.out]; rfl, TT⟩
  · have HE2 : Shut (VE = pe) := by show _ = _; rw [HE.out, if_pos hpe]
    have hpe' : (pe != 0) = true := by simpa using hpe
    go_wp2_with fail
    go_ret
    exact ⟨by rw [HE2.out]; rfl, TT⟩
set_option maxRecDepth 100000 in
set_option maxHeartbeats 4000000 in
theorem rverify28 (w : World) (rt : List UInt8) (hrt : rt.length = 32) (t i : Int) (A : List (List UInt8)) (a : Option Addr) (cap : Nat) (hA : HsAt w a cap A) (v : Value) (x : List UInt8) (hb : Bs w v x) (hl : Laid0 w) (hsz : 2 ≤ w.heap.size) :
    Calls Tryd.prog 18 #[.agg (hb32 rt), .agg #[.int .i64 t, .int .i64 i, .slice a A.length cap], v] w fun e w' => e = .returned (.int .i64 (verE rt t i A x)) ∧ Turn no w w' := by
  have sR := hb32_size hrt
  have iR := hb32_info hrt
  have lp := pathH_len t i A x
  have sP := hb32_size lp
  have oP := hb32_one (pathH t i A x)
  have iP := hb32_info lp
  obtain ⟨w0, hw0⟩ : ∃ w0, (w.alloc (.cells (hb32 rt) 23)).alloc (.cells #[.int .i64 t, .int .i64 i, .slice a A.length cap] 57) = w0 := ⟨_, rfl⟩
  have T0 : Turn no w w0 := by rw [← hw0]; exact ((Turn.refl no w).alloc _).alloc _
  have RR : Row w0 w.heap.size (hb32 rt) 23 := by rw [← hw0]; exact (Row.new w _ 23).alloc _
  have RP : Row w0 (w.heap.size + 1) #[.int .i64 t, .int .i64 i, .slice a A.length cap] 57 := by rw [← hw0]; exact Row.newAt _ _ _ _ (by simp)
  have hp := rpath27 w0 t i A a cap (hA.turn_no T0) v x (hb.turn_no T0) (hl.turn T0 (fun q => q)) (by have := T0.size; omega)
  obtain ⟨xa, xc, rfl⟩ := hb.slice
  have hzv := zero35v
  have HZ : Shut ((hb32 z32).size = 32) := hb32_size z32_len
  have hq : ∀ W, (Op.equalIn 10000 23 (.agg (hb32 (pathH t i A x))) (.agg (hb32 rt))).run Tryd.prog W = .ok (pathH t i A x == rt) W := fun W => eqIn35 W _ _ lp hrt
  have HQ := shut hq
  have HE : Shut (verE rt t i A x = if pathE t i A.length x.length ≠ 0 then pathE t i A.length x.length else if (pathH t i A x == rt) = true then 0 else 21) := by
    show _ = _
    unfold verE
    by_cases h : pathH t i A x = rt
    · rw [h]; simp
    · have h2 : (pathH t i A x == rt) = false := by simpa using h
      rw [h2]
      simp [h]
  generalize verE rt t i A x = VE at *
  generalize (pathH t i A x == rt) = bb at *
  generalize pathE t i A.length x.length = pe at *
  generalize hb32 (pathH t i A x) = PH at *
  generalize hb32 rt = RT at *
  generalize hb32 z32 = Z at *
  generalize A.length = n at *
  generalize x.length = m at *
  have p0 := RP.cell 0 _ rfl
  have p1 := RP.cell 1 _ rfl
  have p2 := RP.cell 2 _ rfl
  clear hA hb hq lp hl
  go_enter Tryd.func18, Tryd.ntmps18
  go_upto_region 1 with fail
  try rw [hw0]
  clear hw0
  go_upto_region 2 with (first | (go_at_call 16; refine hp.mono ?_; clear hp; rintro e w1 ⟨rfl, t1⟩) | (guard_target =~ wpList _ _ _ ({ dst := _, op := Op.store 23 _ _, .. } :: _) _ _; refine wpList_store_anyN rfl rfl 23 (.tmp 7) (.tmp 13) rfl _ PH rfl rfl 23 Z (Row.new _ Z 23) iP (by rw [HZ.out, sP]) oP ?_; intro w2 R2 t2))
  have T12 : Turn (fun q => q = w1.heap.size) w1 w2 := ((Turn.refl no w1).alloc _).of_no.trans t2 (fun _ _ e => e)
  have T02 : Turn no w0 w2 := t1.trans T12 (fun i hi e => by have := t1.size; omega)
  have RR2 := Row.turn RR T02 (fun q => q)
  have TT := T0.then_no T02
  clear p0 p1 p2 RR RP T0 T02 T12 t1 t2 hzv
  generalize w1.heap.size = g7 at *
  by_cases hpe : pe = 0
  · subst hpe
    have HE2 : Shut (VE = if bb = true then 0 else 21) := by show _ = _; rw [HE.out]; rfl
    have hq := HQ.out
    cases bb with
    | true =>
      go_wp2_with (first | (guard_target =~ wpList _ _ _ ({ dst := some 18, op := Op.load 23 _, .. } :: _) _ _; refine wpList_load_row rfl 23 (.tmp 7) rfl g7 rfl 23 PH _ _ R2 Tryd.underlying23 rfl iP ?_) | (guard_target =~ wpList _ _ _ ({ dst := some 19, op := Op.load 23 _, .. } :: _) _ _; refine wpList_load_row rfl 23 (.tmp 3) rfl w.heap.size rfl 23 RT _ _ RR2 Tryd.underlying23 rfl iR ?_))
      go_ret
      exact ⟨by rw [HE2.out]; rfl, TT⟩
    | false =>
      go_wp2_with (first | (guard_target =~ wpList _ _ _ ({ dst := some 18, op := Op.load 23 _, .. } :: _) _ _; refine wpList_load_row rfl 23 (.tmp 7) rfl g7 rfl 23 PH _ _ R2 Tryd.underlying23 rfl iP ?_) | (guard_target =~ wpList _ _ _ ({ dst := some 19, op := Op.load 23 _, .. } :: _) _ _; refine wpList_load_row rfl 23 (.tmp 3) rfl w.heap.size rfl 23 RT _ _ RR2 Tryd.underlying23 rfl iR ?_))
      go_ret
      exact ⟨by rw [HE2.out]; rfl, TT⟩
  · have HE2 : Shut (VE = pe) := by show _ = _; rw [HE.out, if_pos hpe]
    have hpe' : (pe != 0) = true := by simpa using hpe
    go_wp2_with fail
    go_ret
    exact ⟨by rw [HE2.out]; rfl, TT⟩
end Go.Proofs.YtieoomdbijpdhaaDoor

