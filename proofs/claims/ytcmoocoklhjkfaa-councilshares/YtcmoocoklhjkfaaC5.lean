/- Total, Quorum, Third of the document; same, roomy, kept of the law. -/
import Derived.Test.YtcmoocoklhjkfaaC3
namespace Go.Proofs.Ytcmoocoklhjkfaa
open Go.RowKit
set_option linter.unusedVariables false

theorem sound_pw (l : List Mb) (h : soundE l = 0) : ∀ m ∈ l, m.pw ≤ top := scan_pw l (weigh_ok l (sound_ok l h).1).2.2.1
theorem weigh_pw (l : List Mb) (h : weighE l = 0) : ∀ m ∈ l, m.pw ≤ top := scan_pw l (weigh_ok l h).2.2.1

set_option maxRecDepth 100000 in
set_option maxHeartbeats 1000000 in
theorem rtotal28 (w : World) (v : Value) (l : List Mb) (h : Ms w v l) : Calls Try.prog 28 #[.agg #[v]] w fun e w' => e = .returned (.int .u64 (soundT l)) ∧ Turn no w w' := by
  have T0 : Turn no w (w.alloc (.cells #[v] 24)) := (Turn.refl no w).alloc _
  have hw := rsound11 (w.alloc (.cells #[v] 24)) v l (h.turn_no T0)
  have cb := cell_new1 w v 24
  by_cases h0 : soundE l = 0
  · have hrt := fun W (T : Turn no w W) => rtotal35 W v l (h.turn_no T) (sound_pw l h0)
    have htop := (weigh_ok l (sound_ok l h0).1).2.2.2
    have HT : Hid (soundT l = tot l) := soundT_ok l h0
    rw [h0] at hw
    clear h h0
    go_enter Try.func28, Try.ntmps28
    go_wp2_with fail
    refine hw.mono ?_
    rintro e w1 ⟨rfl, T1⟩
    have cb1 := T1.keep cb (fun q => q)
    have T := T0.then_no T1
    have hrt := hrt w1 T
    clear hw cb
    go_wp2_with fail
    refine hrt.mono ?_
    rintro e w2 ⟨R, rfl, R1, R2, R3, e1⟩
    have e1 := e1.symm
    subst e1
    have HR : Hid (R = tot l) := R1 htop
    clear R1 R2 hrt
    go_wp2_with fail
    go_ret
    exact ⟨ret_i (by rw [HT.out, HR.out]), T⟩
  · have hne : (soundE l == 0) = false := by simp; exact h0
    have HT : Hid ((0 : Int) = (soundT l : Int)) := soundT_no l rfl h0
    clear h
    go_enter Try.func28, Try.ntmps28
    go_wp2_with fail
    refine hw.mono ?_
    rintro e w1 ⟨rfl, T1⟩
    have T := T0.then_no T1
    clear hw cb
    go_wp2_with fail
    go_ret
    exact ⟨ret_i HT.out, T⟩

theorem tot_pos (l : List Mb) (h : weighE l = 0) : 0 < tot l := by
  obtain ⟨h1, _, h3, _⟩ := weigh_ok l h
  cases l with
  | nil => simp at h1
  | cons m r =>
    have := (scan_mem _ 0 h3 m (by simp)).2.1
    simp [tot]
    omega

set_option maxRecDepth 100000 in
set_option maxHeartbeats 1000000 in
theorem rquorum29 (w : World) (v : Value) (l : List Mb) (h : Ms w v l) : Calls Try.prog 29 #[.agg #[v]] w fun e w' => e = .returned (.int .u64 (quorumN l)) ∧ Turn no w w' := by
  have T0 : Turn no w (w.alloc (.cells #[v] 24)) := (Turn.refl no w).alloc _
  have hw := rtotal28 (w.alloc (.cells #[v] 24)) v l (h.turn_no T0)
  clear h
  by_cases h0 : soundE l = 0
  · have hb := tot_lt l h0
    have hq : Hid (quorumN l = 2 * tot l / 3 + 1) := by unfold quorumN; rw [if_pos h0]; exact rfl
    have hpos := tot_pos l (sound_ok l h0).1
    have hne : ((tot l : Int) == 0) = false := by simp; omega
    rw [soundT_ok l h0] at hw
    clear h0
    go_enter Try.func29, Try.ntmps29
    go_wp2_with fail
    refine hw.mono ?_
    rintro e w1 ⟨rfl, T1⟩
    go_wp2_with fail
    go_ret
    exact ⟨ret_i (by rw [hq.out]; omega), T0.then_no T1⟩
  · have hq : Hid (quorumN l = 0) := by unfold quorumN; rw [if_neg h0]; exact rfl
    rw [← soundT_no l rfl h0] at hw
    go_enter Try.func29, Try.ntmps29
    go_wp2_with fail
    refine hw.mono ?_
    rintro e w1 ⟨rfl, T1⟩
    go_wp2_with fail
    go_ret
    exact ⟨ret_i (by rw [hq.out]; rfl), T0.then_no T1⟩
set_option maxRecDepth 100000 in
set_option maxHeartbeats 1000000 in
theorem rthird30 (w : World) (v : Value) (l : List Mb) (h : Ms w v l) : Calls Try.prog 30 #[.agg #[v]] w fun e w' => e = .returned (.int .u64 (thirdN l)) ∧ Turn no w w' := by
  have T0 : Turn no w (w.alloc (.cells #[v] 24)) := (Turn.refl no w).alloc _
  have hw := rtotal28 (w.alloc (.cells #[v] 24)) v l (h.turn_no T0)
  clear h
  by_cases h0 : soundE l = 0
  · have hb := tot_lt l h0
    have hq : Hid (thirdN l = tot l / 3 + 1) := by unfold thirdN; rw [if_pos h0]; exact rfl
    have hpos := tot_pos l (sound_ok l h0).1
    have hne : ((tot l : Int) == 0) = false := by simp; omega
    rw [soundT_ok l h0] at hw
    clear h0
    go_enter Try.func30, Try.ntmps30
    go_wp2_with fail
    refine hw.mono ?_
    rintro e w1 ⟨rfl, T1⟩
    go_wp2_with fail
    go_ret
    exact ⟨ret_i (by rw [hq.out]; omega), T0.then_no T1⟩
  · have hq : Hid (thirdN l = 0) := by unfold thirdN; rw [if_neg h0]; exact rfl
    rw [← soundT_no l rfl h0] at hw
    go_enter Try.func30, Try.ntmps30
    go_wp2_with fail
    refine hw.mono ?_
    rintro e w1 ⟨rfl, T1⟩
    go_wp2_with fail
    go_ret
    exact ⟨ret_i (by rw [hq.out]; rfl), T0.then_no T1⟩

set_option maxRecDepth 100000 in
set_option maxHeartbeats 1000000 in
theorem same13 (w : World) (v u : Value) (l : List Mb) (h : Ms w v l) (h' : Ms w u l) : Calls Try.prog 13 #[v, u] w fun e w' => e = .returned (.bool true) ∧ Turn no w w' := by
  obtain ⟨ad, cap, rfl, h⟩ := h
  obtain ⟨ad', cap', rfl, h'⟩ := h'
  have hcells := h.cells
  have hcells' := h'.cells
  have hle : l.length ≤ 9223372036854775807 := by have := h.le; have := h.cap; simp only [maxLen] at this; omega
  clear h h'
  obtain ⟨n, hn⟩ : ∃ n, Hid (l.length = n) := ⟨_, rfl⟩
  have hn' : l.length = n := hn.out
  rw [hn'] at hle ⊢
  clear hn'
  go_enter Try.func13, Try.ntmps13
  go_wp2_with fail
  go_loopw [5] (fun c wr => ∃ k : Nat, k ≤ n ∧ c = .int .i64 k ∧ Turn no w wr) (fun c _ => n - (intOf c).toNat)
  case atStart => exact ⟨0, by omega, rfl, Turn.refl _ _⟩
  case round =>
    obtain ⟨k, hk, rfl, T⟩ := hrel
    by_cases hlt : k < n
    · obtain ⟨m, hm⟩ : ∃ m, l[k]? = some m := ⟨l[k]'(by rw [hn.out]; exact hlt), List.getElem?_eq_getElem _⟩
      obtain ⟨b, off, rfl, c0, c1, c2⟩ := hcells k m hm
      obtain ⟨b', off', rfl, d0, d1, d2⟩ := hcells' k m hm
      have c0 := T.keep c0 (fun q => q)
      have c1 := T.keep c1 (fun q => q)
      have c2 := T.keep c2 (fun q => q)
      have d0 := T.keep d0 (fun q => q)
      have d1 := T.keep d1 (fun q => q)
      have d2 := T.keep d2 (fun q => q)
      have hlt' : (k : Int) < (n : Int) := by omega
      clear hcells hcells' hm
      go_wp2_with fail
      go_quiet (fail)
      go_wp2_with fail
      go_roundw
      case rel => exact ⟨k + 1, by omega, by go_num, T.drewN _⟩
      case measure => simp [intOf]; omega
    · have hkn : k = n := by omega
      subst hkn
      have hlt' : ¬ (k : Int) < (k : Int) := by omega
      go_wp2_with fail
      go_ret
      exact ⟨rfl, T⟩
end Go.Proofs.Ytcmoocoklhjkfaa
