/- total, Sound of the document. -/
import Derived.Test.YtgjhhmdpepdepaaDoorC2
namespace Go.Proofs.YtgjhhmdpepdepaaDoor
open Go.RowKit
set_option linter.unusedVariables false

set_option maxRecDepth 100000 in
set_option maxHeartbeats 1000000 in
theorem rtotal35 (w : World) (v : Value) (l : List Mb) (h : Ms w v l) (hp : ∀ m ∈ l, m.pw ≤ top) : Calls Tryd.prog 26 #[v] w fun e w' => ∃ R : Nat, e = .returned (.int .u64 R) ∧ (tot l ≤ top → R = tot l) ∧ (top < tot l → top < R) ∧ R ≤ 2305843009213693950 ∧ w' = w := by
  obtain ⟨a, cap, rfl, h⟩ := h
  have hcells := h.cells
  have hok := h.ok
  have hle : l.length ≤ 9223372036854775807 := by have := h.le; have := h.cap; simp only [maxLen] at this; omega
  clear h
  obtain ⟨n, hn⟩ : ∃ n, Hid (l.length = n) := ⟨_, rfl⟩
  have hn' : l.length = n := hn.out
  rw [hn'] at hle ⊢
  clear hn'
  go_enter Tryd.func26, Tryd.ntmps26
  go_wp2_with fail
  go_loop [3, 4] (fun t c => ∃ k s : Nat, k ≤ n ∧ c = .int .i64 k ∧ t = .int .u64 s ∧ tot (l.take k) = s ∧ s ≤ 2305843009213693950) (fun _ c => n - (intOf c).toNat)
  case atStart => exact ⟨0, 0, by omega, rfl, rfl, by simp [tot], by omega⟩
  case round =>
    obtain ⟨k, s, hk, rfl, rfl, hs, hsb⟩ := hrel
    have HS : Hid (tot (l.take k) = s) := hs
    by_cases hlt : k < n
    · obtain ⟨m, hm⟩ : ∃ m, l[k]? = some m := ⟨l[k]'(by rw [hn.out]; exact hlt), List.getElem?_eq_getElem _⟩
      obtain ⟨b, off, rfl, c0, c1, c2⟩ := hcells k m hm
      have hlt' : (k : Int) < (n : Int) := by omega
      have hpm := hp m (List.mem_of_getElem? hm)
      have HTT : Hid (tot (l.take (k + 1)) = tot (l.take k) + m.pw) := tot_take_succ l k m hm
      have hpm' : (m.pw : Int) ≤ 1152921504606846975 := by unfold top at hpm; omega
      have HTL := tot_take_le l k
      rw [hs] at HTL
      clear hcells hok hm hp hs hpm
      by_cases a1 : 1152921504606846975 < s
      · have a1' : (1152921504606846975 : Int) < (s : Int) := by omega
        have HL : Hid (s ≤ tot l) := HTL
        clear HTL
        go_wp2_with fail
        go_ret
        exact ⟨1152921504606846976, rfl, fun q => by have := HL.out; unfold top at q; omega, fun q => by decide, by omega, rfl⟩
      · have a1' : ¬ (1152921504606846975 : Int) < (s : Int) := by omega
        clear HTL
        go_wp2_with fail
        go_round
        case rel => exact ⟨k + 1, s + m.pw, by omega, by go_num, by go_num, by rw [HTT.out, HS.out], by omega⟩
        case measure => simp [intOf]; omega
    · have hkn : k = n := by omega
      subst hkn
      have hlt' : ¬ (k : Int) < (k : Int) := by omega
      rw [List.take_of_length_le (by rw [hn.out]; exact Nat.le_refl _)] at hs
      have HT : Hid (tot l = s) := hs
      clear hs
      go_wp2_with fail
      go_ret
      exact ⟨s, rfl, fun _ => HT.out.symm, fun q => by rw [HT.out] at q; exact q, hsb, rfl⟩

theorem scan_pw (l : List Mb) (h : scan 0 l = 0) : ∀ m ∈ l, m.pw ≤ top := fun m hm => (scan_mem l 0 h m hm).2.2

set_option maxRecDepth 100000 in
set_option maxHeartbeats 1000000 in
theorem rsound11 (w : World) (v : Value) (l : List Mb) (h : Ms w v l) : Calls Tryd.prog 13 #[.agg #[v]] w fun e w' => e = .returned (.int .i64 (soundE l)) ∧ Turn no w w' := by
  have T0 : Turn no w (w.alloc (.cells #[v] 24)) := (Turn.refl no w).alloc _
  have hrt := fun W (T : Turn no w W) => rtotal35 W v l (h.turn_no T)
  obtain ⟨a, cap, rfl, h⟩ := h
  have hcells := h.cells
  have hok := h.ok
  have hle : l.length ≤ 9223372036854775807 := by have := h.le; have := h.cap; simp only [maxLen] at this; omega
  clear h
  have hsw := sound_weigh l
  obtain ⟨n, hn⟩ : ∃ n, Hid (l.length = n) := ⟨_, rfl⟩
  have hn' : l.length = n := hn.out
  rw [hn'] at hle T0 hrt ⊢
  by_cases h0 : n = 0
  · have : weighE l = 53 := by rw [weighE, if_pos (by omega)]
    have HW : Hid (soundE l = 53) := (hsw (by rw [this]; decide)).trans this
    clear hn' this hsw hrt
    subst h0
    go_enter Tryd.func13, Tryd.ntmps13
    go_wp2_with fail
    go_ret
    exact ⟨ret_i HW.out.symm, T0⟩
  have b0 : ((n : Int) == 0) = false := by simp; omega
  by_cases h64 : 64 < n
  · have : weighE l = 4 := by rw [weighE, if_neg (by omega), if_pos (by omega)]
    have HW : Hid (soundE l = 4) := (hsw (by rw [this]; decide)).trans this
    have : (64 : Int) < (n : Int) := by omega
    clear hn' hsw hrt
    go_enter Tryd.func13, Tryd.ntmps13
    go_wp2_with fail
    go_ret
    exact ⟨ret_i HW.out.symm, T0⟩
  have i64 : ¬ (64 : Int) < (n : Int) := by omega
  have W0 : scan 0 l ≠ 0 → weighE l = scan 0 l := weigh_scan l (by omega) (by omega)
  have W1 : scan 0 l = 0 → weighE l = if top < tot l then 51 else 0 := weigh_end l (by omega) (by omega)
  have W2 : ∀ e : Int, e ≠ 0 → scan 0 l = e → soundE l = e := fun e he hs => by
    have := W0 (by omega)
    exact (hsw (by rw [this, hs]; exact he)).trans (this.trans hs)
  clear hn' W0
  go_enter Tryd.func13, Tryd.ntmps13
  go_wp2_with fail
  go_loopw [4] (fun c wr => ∃ k : Nat, k ≤ n ∧ c = .int .i64 k ∧ scan 0 l = scan (prev l k) (l.drop k) ∧ Turn no w wr) (fun c _ => n - (intOf c).toNat)
  case atStart => exact ⟨0, by omega, rfl, by simp [prev], T0⟩
  case round =>
    clear T0
    obtain ⟨k, hk, rfl, hsc, T⟩ := hrel
    by_cases hlt : k < n
    · obtain ⟨m, hm⟩ : ∃ m, l[k]? = some m := ⟨l[k]'(by rw [hn.out]; exact hlt), List.getElem?_eq_getElem _⟩
      obtain ⟨b, off, rfl, c0, c1, c2⟩ := hcells k m hm
      have c0 := T.keep c0 (fun q => q)
      have c1 := T.keep c1 (fun q => q)
      have c2 := T.keep c2 (fun q => q)
      obtain ⟨o1, o2, o3, o4⟩ := hok m (List.mem_of_getElem? hm)
      have hlt' : (k : Int) < (n : Int) := by omega
      have H85 := scan_85 l k m hm hsc
      have H52 := scan_52 l k m hm hsc
      have H50 := scan_50 l k m hm hsc
      have HST := scan_step l k m hm hsc
      clear hok hsc hrt hsw W1
      by_cases a1 : m.ad = 0
      · have HW : Hid (soundE l = 85) := W2 _ (by decide) (H85 a1)
        have a1' : ((m.ad : Int) == 0) = true := by simp; omega
        clear H85 H52 H50 HST W2 hcells hm
        go_wp2_with fail
        go_ret
        exact ⟨ret_i HW.out.symm, T⟩
      have a1' : ((m.ad : Int) == 0) = false := by simp; omega
      cases k with
      | zero =>
        have a2 : ¬ m.ad ≤ prev l 0 := by simp [prev]; omega
        clear H85 H52 hcells hm
        simp only [Nat.zero_mul, Nat.add_zero] at c0 c1 c2
        have hd : decide ((0 : Int) < ((0 : Nat) : Int)) = false := by decide
        by_cases a3 : m.pw = 0
        · have HW : Hid (soundE l = 50) := W2 _ (by decide) (H50 a1 a2 (.inl a3))
          have a3' : ((m.pw : Int) == 0) = true := by simp; omega
          clear H50 HST W2 a2
          go_wp2_with fail
          go_quiet (fail)
          go_wp2_with fail
          go_ret
          exact ⟨ret_i HW.out.symm, T.drewN _⟩
        have a3' : ((m.pw : Int) == 0) = false := by simp; omega
        by_cases a4 : top < m.pw
        · have HW : Hid (soundE l = 50) := W2 _ (by decide) (H50 a1 a2 (.inr a4))
          have a4' : (1152921504606846975 : Int) < (m.pw : Int) := by unfold top at a4; omega
          clear H50 HST W2 a2
          go_wp2_with fail
          go_quiet (fail)
          go_wp2_with fail
          go_ret
          exact ⟨ret_i HW.out.symm, T.drewN _⟩
        have a4' : ¬ (1152921504606846975 : Int) < (m.pw : Int) := by unfold top at a4; omega
        have HS2 : Hid (scan 0 l = scan (prev l (0 + 1)) (l.drop (0 + 1))) := HST a1 a2 a3 a4
        clear H50 HST W2 a2 a4
        go_wp2_with fail
        go_quiet (fail)
        go_wp2_with fail
        go_roundw
        case rel => exact ⟨0 + 1, by omega, by go_num, HS2.out, T.drewN _⟩
        case measure => simp [intOf]; omega
      | succ j =>
        obtain ⟨m', hm'⟩ : ∃ m', l[j]? = some m' := ⟨l[j]'(by rw [hn.out]; omega), List.getElem?_eq_getElem _⟩
        obtain ⟨b', off', e', d0, _, _⟩ := hcells j m' hm'
        cases e'
        have d0 := T.keep d0 (fun q => q)
        have hpv := prev_succ l j m' hm'
        rw [hpv] at H52 H50 HST
        clear H85 hcells hm hm' hpv
        have hj1 : ((j + 1 : Nat) : Int) - 1 = (j : Int) := by omega
        have hj2 : (0 : Int) < ((j + 1 : Nat) : Int) := by omega
        by_cases a2 : m.ad ≤ m'.ad
        · have HW : Hid (soundE l = 52) := W2 _ (by decide) (H52 a1 a2)
          clear H52 H50 HST W2
          go_wp2_with fail
          go_quiet (fail)
          go_wp2_with fail
          go_ret
          exact ⟨ret_i HW.out.symm, T.drewN _⟩
        by_cases a3 : m.pw = 0
        · have HW : Hid (soundE l = 50) := W2 _ (by decide) (H50 a1 a2 (.inl a3))
          have a3' : ((m.pw : Int) == 0) = true := by simp; omega
          clear H52 H50 HST W2
          go_wp2_with fail
          go_quiet (fail)
          go_wp2_with fail
          go_ret
          exact ⟨ret_i HW.out.symm, T.drewN _⟩
        have a3' : ((m.pw : Int) == 0) = false := by simp; omega
        by_cases a4 : top < m.pw
        · have HW : Hid (soundE l = 50) := W2 _ (by decide) (H50 a1 a2 (.inr a4))
          have a4' : (1152921504606846975 : Int) < (m.pw : Int) := by unfold top at a4; omega
          clear H52 H50 HST W2
          go_wp2_with fail
          go_quiet (fail)
          go_wp2_with fail
          go_ret
          exact ⟨ret_i HW.out.symm, T.drewN _⟩
        have a4' : ¬ (1152921504606846975 : Int) < (m.pw : Int) := by unfold top at a4; omega
        have HS2 : Hid (scan 0 l = scan (prev l (j + 1 + 1)) (l.drop (j + 1 + 1))) := HST a1 a2 a3 a4
        clear H52 H50 HST W2 a4
        go_wp2_with fail
        go_quiet (fail)
        go_wp2_with fail
        go_roundw
        case rel => exact ⟨j + 1 + 1, by omega, by go_num, HS2.out, T.drewN _⟩
        case measure => simp [intOf]; omega
    · have hkn : k = n := by omega
      subst hkn
      have hlt' : ¬ (k : Int) < (k : Int) := by omega
      have hs0 : scan 0 l = 0 := scan_end l (by rw [hn.out]; exact hsc)
      have hw := W1 hs0
      have hrt := hrt wr T (scan_pw l hs0)
      clear W2 W1 hsc hs0
      go_wp2_with fail
      refine hrt.mono ?_
      rintro e w1 ⟨R, rfl, R1, R2, R3, e1⟩
      have e1 := e1.symm
      subst e1
      clear hrt
      by_cases a4 : top < tot l
      · rw [if_pos a4] at hw
        have HW : Hid (soundE l = 51) := (hsw (by rw [hw]; decide)).trans hw
        have R2 := R2 a4
        have R2' : (1152921504606846975 : Int) < (R : Int) := by unfold top at R2; omega
        clear hsw hw R1 R2
        go_wp2_with fail
        go_ret
        exact ⟨ret_i HW.out.symm, T⟩
      · rw [if_neg a4] at hw
        have R1 := R1 (by omega)
        have HX : ∀ m, m ∈ l → wideB (tot l) m = true → soundE l = 2 := fun m hm q => sound_wide l hw m hm q
        have HE := sound_end l hw
        rw [← R1] at HX HE a4
        have a4' : ¬ (1152921504606846975 : Int) < (R : Int) := by unfold top at a4; omega
        clear hsw hw R1 R2 a4
        go_wp2_with fail
        obtain ⟨wo, hwo⟩ : ∃ wo, wo = wr := ⟨_, rfl⟩
        subst hwo
        go_loop [6] (fun c => ∃ i : Nat, i ≤ k ∧ c = .int .i64 i ∧ (∀ m ∈ l.take i, wideB R m = false)) (fun c => k - (intOf c).toNat)
        case atStart => exact ⟨0, by omega, rfl, by simp⟩
        case round =>
          obtain ⟨i, hi, rfl, hall⟩ := hrel
          by_cases hlt2 : i < k
          · obtain ⟨m, hm⟩ : ∃ m, l[i]? = some m := ⟨l[i]'(by rw [hn.out]; exact hlt2), List.getElem?_eq_getElem _⟩
            obtain ⟨b, off, rfl, c0, c1, c2⟩ := hcells i m hm
            have c0 := T.keep c0 (fun q => q)
            have c1 := T.keep c1 (fun q => q)
            have c2 := T.keep c2 (fun q => q)
            obtain ⟨o1, o2, o3, o4⟩ := hok m (List.mem_of_getElem? hm)
            have hlt2' : (i : Int) < (k : Int) := by omega
            have HS := take_all (P := fun x => wideB R x = false) hall hm
            have HX := HX m (List.mem_of_getElem? hm)
            clear hcells hok hm hall HE
            by_cases a1 : m.pr < -(7 * (R : Int))
            · have HW : Hid (soundE l = 2) := HX (by simp [wideB]; omega)
              have a1' : m.pr < -7 * (R : Int) := by omega
              clear HS HX
              go_wp2_with fail
              go_ret
              exact ⟨ret_i HW.out.symm, T⟩
            have a1' : ¬ m.pr < -7 * (R : Int) := by omega
            by_cases a2 : 7 * (R : Int) < m.pr
            · have HW : Hid (soundE l = 2) := HX (by simp [wideB]; omega)
              clear HS HX
              go_wp2_with fail
              go_ret
              exact ⟨ret_i HW.out.symm, T⟩
            have hs := HS (by simp [wideB]; omega)
            clear HS HX
            go_wp2_with fail
            go_round
            case rel => exact ⟨i + 1, by omega, by go_num, hs⟩
            case measure => simp [intOf]; omega
          · have hkn : i = k := by omega
            subst hkn
            have hlt' : ¬ (i : Int) < (i : Int) := by omega
            rw [List.take_of_length_le (by rw [hn.out]; exact Nat.le_refl _)] at hall
            have HW : Hid (soundE l = 0) := HE hall
            clear HX HE hall
            go_wp2_with fail
            go_ret
            exact ⟨ret_i HW.out.symm, T⟩
end Go.Proofs.YtgjhhmdpepdepaaDoor

