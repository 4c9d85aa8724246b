/- powerOf. -/
import Derived.Test.YtbhimedajfkioaaM2
import Derived.Test.YtbhimedajfkioaaC3
namespace Go.Proofs.Ytbhimedajfkioaa
open Go.RowKit
set_option linter.unusedVariables false

/-- The power behind a mark; what marks have together. -/
def pwOf (M : List Mb) (m : Mk) : Nat := (M.getD m.ix.toNat mb0).pw
def psum (M : List Mb) : List Mk → Nat
  | [] => 0
  | m :: r => pwOf M m + psum M r
theorem psum_append (M : List Mb) (a b : List Mk) : psum M (a ++ b) = psum M a + psum M b := by
  induction a with
  | nil => simp [psum]
  | cons m a ih => simp [psum, ih]; omega
theorem psum_take_succ (M : List Mb) (l : List Mk) (k : Nat) (m : Mk) (h : l[k]? = some m) : psum M (l.take (k + 1)) = psum M (l.take k) + pwOf M m := by
  rw [List.take_add_one, h, psum_append]
  simp [psum]
theorem psum_take_le (M : List Mb) (l : List Mk) (k : Nat) : psum M (l.take k) ≤ psum M l := by
  have := psum_append M (l.take k) (l.drop k)
  rw [List.take_append_drop] at this
  omega
theorem psum_perm (M : List Mb) {a b : List Mk} (h : a.Perm b) : psum M a = psum M b := by
  induction h with
  | nil => rfl
  | cons x _ ih => simp [psum, ih]
  | swap x y l => simp [psum]; omega
  | trans _ _ i1 i2 => rw [i1, i2]
/-- Each mark has a member. -/
def Sits (M : List Mb) (l : List Mk) : Prop := ∀ m ∈ l, 0 ≤ m.ix ∧ m.ix < (M.length : Int)
theorem Sits.at {M : List Mb} {l : List Mk} (h : Sits M l) {m : Mk} (hm : m ∈ l) : ∃ x, M[m.ix.toNat]? = some x ∧ x.pw = pwOf M m ∧ ((m.ix.toNat : Nat) : Int) = m.ix := by
  obtain ⟨h1, h2⟩ := h m hm
  have h3 : m.ix.toNat < M.length := by omega
  exact ⟨M[m.ix.toNat], List.getElem?_eq_getElem h3, by simp [pwOf, List.getD_eq_getElem?_getD, List.getElem?_eq_getElem h3], by omega⟩
set_option maxRecDepth 100000 in
set_option maxHeartbeats 4000000 in
theorem power23 (w : World) (vc : Value) (M : List Mb) (hc : Ms w vc M) (v : Value) (l : List Mk) (h : Ks w v l) (hs : Sits M l) (hb : psum M l < 18446744073709551616) : Calls Try.prog 23 #[.agg #[vc], v] w fun e w' => e = .returned (.int .u64 (psum M l)) ∧ Turn no w w' := by
  obtain ⟨a, cap, rfl, h⟩ := h
  obtain ⟨ca, cc, rfl, hM⟩ := hc
  have T0 : Turn no w (w.alloc (.cells #[.slice ca M.length cc] 24)) := (Turn.refl no w).alloc _
  have cb := cell_new1 w (.slice ca M.length cc) 24
  have HC := shut h.cells
  have HMC := shut hM.cells
  have hle : l.length ≤ 9223372036854775807 := by have := h.le; have := h.cap; simp only [maxLen] at this; omega
  clear h hM
  obtain ⟨n, hn⟩ : ∃ n, Hid (l.length = n) := ⟨_, rfl⟩
  have hn' : l.length = n := hn.out
  rw [hn'] at hle ⊢
  clear hn'
  obtain ⟨cn, hcn⟩ : ∃ cn, Hid (M.length = cn) := ⟨_, rfl⟩
  have hcn' : M.length = cn := hcn.out
  rw [hcn'] at cb T0 ⊢
  clear hcn'
  generalize hw0 : w.alloc (.cells #[.slice ca cn cc] 24) = w0 at *
  have HT0 := shut T0
  have HCB := shut cb
  have HSI := shut hs
  have HBB := shut hb
  clear T0 cb hs hb
  go_enter Try.func23, Try.ntmps23
  go_wp2_with fail
  try rw [hw0]
  clear hw0
  go_loopw [4, 9] (fun s c wr => ∃ k t : Nat, k ≤ n ∧ c = .int .i64 k ∧ s = .int .u64 t ∧ Shut (psum M (l.take k) = t ∧ Turn no w0 wr)) (fun _ c _ => n - (intOf c).toNat)
  case atStart => exact ⟨0, 0, by omega, rfl, rfl, by simp [psum], Turn.refl _ _⟩
  case round =>
    obtain ⟨k, t, hk, rfl, rfl, HI⟩ := hrel
    by_cases hlt : k < n
    · obtain ⟨m, hm⟩ : ∃ m, l[k]? = some m := ⟨l[k]'(by rw [hn.out]; exact hlt), List.getElem?_eq_getElem _⟩
      obtain ⟨b, off, rfl, c⟩ := HC.out k m hm
      have hr := (HT0.out.then_no HI.out.2)
      have hr : wr.rangeAt b (off + k * 18) (mkL m) := fun i v hi => hr.keep (c i v hi) (fun q => q)
      obtain ⟨x, hx, hxp, hxi⟩ := HSI.out.at (List.mem_of_getElem? hm)
      have hxl : m.ix.toNat < cn := by rw [← hcn.out]; exact (List.getElem?_eq_some_iff.1 hx).1
      obtain ⟨b2, off2, rfl, d0, d1, d2⟩ := HMC.out _ x hx
      have HPS := shut (psum_take_succ M l k m hm)
      have HPL := shut (psum_take_le M l (k + 1))
      generalize m.ix.toNat = xi at *
      have hs1 := size50 m
      have hs2 := size50A m
      have hs3 := one50 m
      have hs4 := z50 m
      have hm0 : (mkL m).toArray[(0 : Nat)]? = some (.int .i64 xi) := by rw [hxi]; rfl
      have hlt' : (k : Int) < (n : Int) := by omega
      have hlx : (xi : Int) < (cn : Int) := by omega
      have hk1 : Hid (k + 1 ≤ n) := hlt
      have hsum : t + x.pw < 18446744073709551616 := by
        have h1 := HPS.out
        have h2 := HPL.out
        have h3 := HBB.out
        have h4 := HI.out.1
        omega
      have HXP := shut hxp
      clear c hm hxi hx hxp
      generalize mkL m = ms at *
      go_upto_region 4 with (first | (refine wpList_load_mid rfl 50 (.tmp 11) rfl b (off + k * 18) rfl ms _ hr Try.underlying50 rfl hs1 ?_) | (refine wpList_store_any rfl 50 (.tmp 6) (.tmp 12) rfl wr.heap.size ms.toArray rfl rfl 50 Z50 (Row.new wr Z50 50) hs2 hs4 hs3 ?_; intro w1 R1 t1))
      have TA := shut ((HI.out.2.alloc (.cells Z50 50)).trans t1 (S' := fun z => z = wr.heap.size) (fun i hi e => by have := HI.out.2.size; omega))
      have hcb := TA.out.keep HCB.out (fun q => q)
      have hx0 := R1.cell 0 _ hm0
      have d1 := (HT0.out.then_no TA.out).keep d1 (fun q => q)
      clear R1 t1 hr hs1 hs2 hs3 hs4 d0 d2 hm0
      go_wp2_with fail
      go_roundw
      case rel => exact ⟨k + 1, t + x.pw, hk1.out, by go_num, by go_num, by rw [HPS.out, HI.out.1, HXP.out], TA.out⟩
      case measure => have := hk1.out; simp [intOf]; omega
    · have hkn : n = k := by omega
      subst hkn
      have hlt' : ¬ (n : Int) < (n : Int) := by omega
      have HE : Shut (psum M l = t) := by
        have := HI.out.1
        rw [List.take_of_length_le (by rw [hn.out]; exact Nat.le_refl _)] at this
        exact this
      have TT := shut (HT0.out.then_no HI.out.2)
      clear HI
      go_wp2_with fail
      go_ret
      exact ⟨by rw [HE.out]; rfl, TT.out⟩
end Go.Proofs.Ytbhimedajfkioaa
