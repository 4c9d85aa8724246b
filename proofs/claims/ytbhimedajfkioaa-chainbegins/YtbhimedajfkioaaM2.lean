/- isSeated. -/
import Derived.Test.YtbhimedajfkioaaM20
namespace Go.Proofs.Ytbhimedajfkioaa
open Go.RowKit
set_option linter.unusedVariables false

/-- Has each mark a member? -/
def seatedB (n : Nat) (l : List Mk) : Bool := l.all (fun m => decide (m.ix < (n : Int)))
set_option maxRecDepth 100000 in
set_option maxHeartbeats 4000000 in
theorem seated18 (w : World) (ca : Option Addr) (cn cc : Nat) (v : Value) (l : List Mk) (h : Ks w v l) : Calls Try.prog 18 #[.agg #[.slice ca cn cc], v] w fun e w' => e = .returned (.bool (seatedB cn l)) ∧ Turn no w w' := by
  obtain ⟨a, cap, rfl, h⟩ := h
  have T0 : Turn no w (w.alloc (.cells #[.slice ca cn cc] 24)) := (Turn.refl no w).alloc _
  have cb := cell_new1 w (.slice ca cn cc) 24
  have HC := shut h.cells
  have hle : l.length ≤ 9223372036854775807 := by have := h.le; have := h.cap; simp only [maxLen] at this; omega
  clear h
  obtain ⟨n, hn⟩ : ∃ n, Hid (l.length = n) := ⟨_, rfl⟩
  have hn' : l.length = n := hn.out
  rw [hn'] at hle ⊢
  clear hn'
  generalize hw0 : w.alloc (.cells #[.slice ca cn cc] 24) = w0 at *
  have HT0 := shut T0
  have HCB := shut cb
  clear T0 cb
  go_enter Try.func18, Try.ntmps18
  go_wp2_with fail
  try rw [hw0]
  clear hw0
  go_loopw [9] (fun c wr => ∃ k : Nat, k ≤ n ∧ c = .int .i64 k ∧ Shut ((∀ m ∈ l.take k, m.ix < (cn : Int)) ∧ Turn no w0 wr)) (fun c _ => n - (intOf c).toNat)
  case atStart => exact ⟨0, by omega, rfl, by simp, Turn.refl _ _⟩
  case round =>
    obtain ⟨k, hk, rfl, HI⟩ := hrel
    by_cases hlt : k < n
    · obtain ⟨m, hm⟩ : ∃ m, l[k]? = some m := ⟨l[k]'(by rw [hn.out]; exact hlt), List.getElem?_eq_getElem _⟩
      obtain ⟨b, off, rfl, c⟩ := HC.out k m hm
      have hr := (HT0.out.then_no HI.out.2)
      have hr : wr.rangeAt b (off + k * 18) (mkL m) := fun i v hi => hr.keep (c i v hi) (fun q => q)
      have hs1 := size50 m
      have hs2 := size50A m
      have hs3 := one50 m
      have hs4 := z50 m
      have hm0 : (mkL m).toArray[(0 : Nat)]? = some (.int .i64 m.ix) := rfl
      have hlt' : (k : Int) < (n : Int) := by omega
      have hk1 : Hid (k + 1 ≤ n) := hlt
      have HM := shut hm
      clear c hm
      generalize mkL m = ms at *
      go_upto_region 4 with (first | (refine wpList_load_mid rfl 50 (.tmp 11) rfl b (off + k * 18) rfl ms _ hr Try.underlying50 rfl hs1 ?_) | (refine wpList_store_any rfl 50 (.tmp 6) (.tmp 12) rfl wr.heap.size ms.toArray rfl rfl 50 Z50 (Row.new wr Z50 50) hs2 hs4 hs3 ?_; intro w1 R1 t1))
      have TA := shut ((HI.out.2.alloc (.cells Z50 50)).trans t1 (S' := fun z => z = wr.heap.size) (fun i hi e => by have := HI.out.2.size; omega))
      have hcb := TA.out.keep HCB.out (fun q => q)
      have hx0 := R1.cell 0 _ hm0
      clear R1 t1 hr hs1 hs2 hs3 hs4
      by_cases hx : m.ix < (cn : Int)
      · have hx' : ¬ (cn : Int) ≤ m.ix := by omega
        have HN : Shut ((∀ y ∈ l.take (k + 1), y.ix < (cn : Int))) := by
          intro y hy
          rw [List.take_add_one, HM.out] at hy
          rcases List.mem_append.1 hy with hy | hy
          · exact HI.out.1 y hy
          · simp at hy
            subst hy
            exact hx
        clear HI
        go_wp2_with fail
        go_roundw
        case rel => exact ⟨k + 1, hk1.out, by go_num, HN.out, TA.out⟩
        case measure => have := hk1.out; simp [intOf]; omega
      · have hx' : (cn : Int) ≤ m.ix := by omega
        have HE : Shut (seatedB cn l = false) := by
          show _ = _
          unfold seatedB
          rw [List.all_eq_false]
          exact ⟨m, List.mem_of_getElem? HM.out, by simp; omega⟩
        have TT := shut (HT0.out.then_no TA.out)
        clear HI TA HT0
        go_wp2_with fail
        go_ret
        exact ⟨by rw [HE.out]; rfl, TT.out⟩
    · have hkn : n = k := by omega
      subst hkn
      have hlt' : ¬ (n : Int) < (n : Int) := by omega
      have HE : Shut (seatedB cn l = true) := by
        have := HI.out.1
        rw [List.take_of_length_le (by rw [hn.out]; exact Nat.le_refl _)] at this
        show _ = _
        unfold seatedB
        rw [List.all_eq_true]
        intro m hm
        simpa using this m hm
      have TT := shut (HT0.out.then_no HI.out.2)
      clear HI
      go_wp2_with fail
      go_ret
      exact ⟨by rw [HE.out]; rfl, TT.out⟩
end Go.Proofs.Ytbhimedajfkioaa
