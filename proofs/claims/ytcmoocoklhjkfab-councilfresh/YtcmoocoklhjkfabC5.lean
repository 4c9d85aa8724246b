/- Total, Quorum, Third of the document; same, roomy, kept of the law. -/
import Derived.Test.YtcmoocoklhjkfabC3
namespace Go.Proofs.Ytcmoocoklhjkfab
open Go.RowKit
set_option linter.unusedVariables false

theorem sound_pw (l : List Mb) (h : soundE l = 0) : ∀ m ∈ l, m.pw ≤ top := scan_pw l (weigh_ok l (sound_ok l h).1).2.2.1
theorem weigh_pw (l : List Mb) (h : weighE l = 0) : ∀ m ∈ l, m.pw ≤ top := scan_pw l (weigh_ok l h).2.2.1

theorem tot_pos (l : List Mb) (h : weighE l = 0) : 0 < tot l := by
  obtain ⟨h1, _, h3, _⟩ := weigh_ok l h
  cases l with
  | nil => simp at h1
  | cons m r =>
    have := (scan_mem _ 0 h3 m (by simp)).2.1
    simp [tot]
    omega

set_option maxRecDepth 100000 in
set_option maxHeartbeats 1000000 in
theorem same13 (w : World) (v u : Value) (l : List Mb) (h : Ms w v l) (h' : Ms w u l) : Calls Try.prog 12 #[v, u] w fun e w' => e = .returned (.bool true) ∧ Turn no w w' := by
  obtain ⟨ad, cap, rfl, h⟩ := h
  obtain ⟨ad', cap', rfl, h'⟩ := h'
  have hcells := h.cells
  have hcells' := h'.cells
  have hle : l.length ≤ 9223372036854775807 := by have := h.le; have := h.cap; simp only [maxLen] at this; omega
  clear h h'
  obtain ⟨n, hn⟩ : ∃ n, Hid (l.length = n) := ⟨_, rfl⟩
  have hn' : l.length = n := hn.out
  rw [hn'] at hle ⊢
  clear hn'
  go_enter Try.func12, Try.ntmps12
  go_wp2_with fail
  go_loopw [5] (fun c wr => ∃ k : Nat, k ≤ n ∧ c = .int .i64 k ∧ Turn no w wr) (fun c _ => n - (intOf c).toNat)
  case atStart => exact ⟨0, by omega, rfl, Turn.refl _ _⟩
  case round =>
    obtain ⟨k, hk, rfl, T⟩ := hrel
    by_cases hlt : k < n
    · obtain ⟨m, hm⟩ : ∃ m, l[k]? = some m := ⟨l[k]'(by rw [hn.out]; exact hlt), List.getElem?_eq_getElem _⟩
      obtain ⟨b, off, rfl, c0, c1, c2⟩ := hcells k m hm
      obtain ⟨b', off', rfl, d0, d1, d2⟩ := hcells' k m hm
      have c0 := T.keep c0 (fun q => q)
      have c1 := T.keep c1 (fun q => q)
      have c2 := T.keep c2 (fun q => q)
      have d0 := T.keep d0 (fun q => q)
      have d1 := T.keep d1 (fun q => q)
      have d2 := T.keep d2 (fun q => q)
      have hlt' : (k : Int) < (n : Int) := by omega
      clear hcells hcells' hm
      go_wp2_with fail
      go_quiet (fail)
      go_wp2_with fail
      go_roundw
      case rel => exact ⟨k + 1, by omega, by go_num, T.drewN _⟩
      case measure => simp [intOf]; omega
    · have hkn : k = n := by omega
      subst hkn
      have hlt' : ¬ (k : Int) < (k : Int) := by omega
      go_wp2_with fail
      go_ret
      exact ⟨rfl, T⟩
end Go.Proofs.Ytcmoocoklhjkfab
