/- Power of both sides. -/
import Derived.Test.YtmfphlagpifkaaaG1
import Derived.Test.YtmfphlagpifkaaaC3
namespace Go.Proofs.Ytmfphlagpifkaaa
open Go.RowKit
set_option linter.unusedVariables false

def addP (s : Int) (x : Nat) : Int := IntKind.u64.wrap (s + x)
def stepP (l : List Gu) (s : Int) (m : Mb) : Int := if named l m.ad = true then addP s m.pw else s
/-- The power of those who are named. -/
def psum (M : List Mb) (l : List Gu) : Int := M.foldl (stepP l) 0
def powE (M : List Mb) (l : List Gu) : Int := if soundE M = 0 then psum M l else 0
theorem psum_take (M : List Mb) (l : List Gu) (k : Nat) (m : Mb) (h : M[k]? = some m) : psum (M.take (k + 1)) l = stepP l (psum (M.take k) l) m := by
  rw [List.take_add_one, h]
  simp [psum, List.foldl_append]
theorem addP_eq (s : Int) (x : Nat) : IntKind.u64.wrap (s + x) = addP s x := rfl
set_option maxRecDepth 100000 in
set_option maxHeartbeats 2000000 in
theorem power5 (w : World) (v u : Value) (M : List Mb) (l : List Gu) (hM : Ms w v M) (h : Gs w u l) : Calls Try.prog 5 #[.agg #[v], u] w fun e w' => e = .returned (.int .u64 (powE M l)) ∧ Turn no w w' := by
  have T0 : Turn no w (w.alloc (.cells #[v] 24)) := (Turn.refl no w).alloc _
  have R0 := Row.new w #[v] 24
  have S := sound9 (w.alloc (.cells #[v] 24)) v M (hM.turn_no T0)
  have HMs := shut hM
  have HG := shut h
  obtain ⟨ad, cap, rfl, hM⟩ := hM
  have hcells := hM.cells
  have hle : M.length ≤ 9223372036854775807 := by have := hM.le; have := hM.cap; simp only [maxLen] at this; omega
  clear hM h HMs
  obtain ⟨n, hn⟩ : ∃ n, Hid (M.length = n) := ⟨_, rfl⟩
  have hn' : M.length = n := hn.out
  rw [hn'] at hle R0 S T0 ⊢
  clear hn'
  have HC := shut hcells
  have HT0 := shut T0
  have HR0 := shut R0
  clear hcells T0 R0
  obtain ⟨w0, hw0⟩ : ∃ w0, w.alloc (.cells #[.slice ad n cap] 24) = w0 := ⟨_, rfl⟩
  rw [hw0] at HT0 HR0 S
  have y0 := HR0.out.cell 0 _ rfl
  go_enter Try.func5, Try.ntmps5
  go_upto_region 1 with fail
  try rw [hw0]
  clear hw0
  by_cases hs : soundE M = 0
  · have hp : powE M l = psum M l := if_pos hs
    rw [hs] at S
    have HP := shut hp
    clear hs hp
    go_wp2_with (go_at_call 9; refine S.mono ?_; clear S; rintro e w1 ⟨rfl, t1⟩; have y1 := t1.keep (HR0.out.cell 0 _ rfl) (fun q => q))
    have HT1 := shut (t1 : Turn no w0 w1)
    clear y0 y1 t1
    go_loopw [13, 4, 6] (fun c s c6 wr => ∃ (k : Nat) (q : Int), k ≤ n ∧ c = .int .i64 k ∧ s = .int .u64 q ∧ Shut (q = psum (M.take k) l) ∧ Shut (Turn no w0 wr)) (fun c _ _ _ => n - (intOf c).toNat)
    case atStart => exact ⟨0, 0, by omega, rfl, rfl, rfl, HT1.out⟩
    case round =>
      obtain ⟨k, q, hk, rfl, rfl, HQ, HT⟩ := hrel
      by_cases hlt : k < n
      · obtain ⟨m, hm⟩ : ∃ m, M[k]? = some m := ⟨M[k]'(by rw [hn.out]; exact hlt), List.getElem?_eq_getElem _⟩
        obtain ⟨b, off, rfl, c0, c1, c2⟩ := HC.out k m hm
        have TT := HT0.out.then_no HT.out
        have c0 := TT.keep c0 (fun q => q)
        have c1 := TT.keep c1 (fun q => q)
        have c2 := TT.keep c2 (fun q => q)
        have hlt' : (k : Int) < (n : Int) := by omega
        have HS : Shut (psum (M.take (k + 1)) l = stepP l q m) := by show _ = _; rw [psum_take M l k m hm, HQ.out]
        obtain ⟨w2, hw2⟩ : ∃ w2, wr.alloc (.cells #[.int .u64 m.ad, .int .u64 m.pw, .int .i64 m.pr] 49) = w2 := ⟨_, rfl⟩
        have T2 : Turn no wr w2 := by rw [← hw2]; exact (Turn.refl no wr).alloc _
        have R2 : Row w2 wr.heap.size #[.int .u64 m.ad, .int .u64 m.pw, .int .i64 m.pr] 49 := by rw [← hw2]; exact Row.new wr _ 49
        have C := contains10 w2 u l (HG.out.turn_no (TT.then_no T2)) wr.heap.size m.ad (R2.cell 0 _ rfl)
        have HT2 := shut T2
        have HR2 := shut R2
        clear TT hm T2 R2
        go_upto_region 6 with fail
        try rw [hw2]
        clear hw2 c0 c1 c2
        generalize wr.heap.size = g at *
        cases hb : named l m.ad with
        | true =>
          have HB := shut hb
          rw [hb] at C
          clear hb
          go_upto_region 7 with (go_at_call 10; refine C.mono ?_; clear C; rintro e w3 ⟨rfl, t3⟩)
          have z1 := t3.keep (HR2.out.cell 1 _ rfl) (fun q => q)
          have HT3 := shut t3
          clear t3
          have ha := addP_eq q m.pw
          have HA : Shut (stepP l q m = addP q m.pw) := by show _ = _; unfold stepP; rw [HB.out]; rfl
          generalize addP q m.pw = q2 at *
          go_wp2_with fail
          go_roundw
          case rel => exact ⟨k + 1, q2, by omega, by go_num, rfl, by show _ = _; rw [HS.out, HA.out], (HT.out.then_no HT2.out).then_no HT3.out⟩
          case measure => simp [intOf]; omega
        | false =>
          have HB := shut hb
          rw [hb] at C
          clear hb
          go_wp2_with (go_at_call 10; refine C.mono ?_; clear C; rintro e w3 ⟨rfl, t3⟩)
          have HA : Shut (stepP l q m = q) := by show _ = _; unfold stepP; rw [HB.out]; rfl
          go_roundw
          case rel => exact ⟨k + 1, q, by omega, by go_num, rfl, by show _ = _; rw [HS.out, HA.out], (HT.out.then_no HT2.out).then_no t3⟩
          case measure => simp [intOf]; omega
      · have hkn : k = n := by omega
        subst hkn
        have hlt' : ¬ (k : Int) < (k : Int) := by omega
        have HE : Shut (q = powE M l) := by show _ = _; rw [HQ.out, HP.out, List.take_of_length_le (by rw [hn.out]; omega)]
        go_wp2_with fail
        go_ret
        exact ⟨by rw [← HE.out]; rfl, HT0.out.then_no HT.out⟩
  · have hp : powE M l = 0 := if_neg hs
    have HP := shut hp
    clear hp
    generalize soundE M = e0 at *
    have hne : (e0 != 0) = true := by simpa using hs
    go_wp2_with (go_at_call 9; refine S.mono ?_; clear S; rintro e w1 ⟨rfl, t1⟩)
    go_ret
    exact ⟨by rw [HP.out]; rfl, HT0.out.then_no t1⟩
end Go.Proofs.Ytmfphlagpifkaaa
