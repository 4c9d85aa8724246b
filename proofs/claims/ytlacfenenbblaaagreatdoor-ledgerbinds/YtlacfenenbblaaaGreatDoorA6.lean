/- The document's accounts. -/
import Derived.Test.YtlacfenenbblaaaGreatDoorLa
namespace Go.Proofs.YtlacfenenbblaaaGreatDoor
open Go.RowKit
set_option linter.unusedVariables false

def prevA (l : List Ac) (k : Nat) : Nat := if k = 0 then 0 else match l[k - 1]? with | some m => m.ad | none => 0
def accE (l : List Ac) : Int := if 65536 < l.length then 86 else scanA 0 l
theorem prevA_succ {l : List Ac} {k : Nat} {m : Ac} (h : l[k]? = some m) : prevA l (k + 1) = m.ad := by simp [prevA, h]
set_option maxRecDepth 100000 in
set_option maxHeartbeats 4000000 in
theorem accounts22 (w : World) (v : Value) (l : List Ac) (h : As w v l) : Calls Tryz.prog 61 #[v] w fun e w' => e = .returned (.int .i64 (accE l)) ∧ Turn no w w' := by
  obtain ⟨a, cap, rfl, h⟩ := h
  have hcells := h.cells
  have hle : l.length ≤ 9223372036854775807 := by have := h.le; have := h.cap; simp only [maxLen] at this; omega
  clear h
  obtain ⟨n, hn⟩ : ∃ n, Hid (l.length = n) := ⟨_, rfl⟩
  have hn' : l.length = n := hn.out
  have hacc : accE l = if 65536 < n then 86 else scanA 0 l := by rw [← hn']; rfl
  rw [hn'] at hle ⊢
  clear hn'
  by_cases h6 : 65536 < n
  · rw [if_pos h6] at hacc
    have HE := shut' hacc
    have h6' : (65536 : Int) < (n : Int) := by omega
    clear hacc hcells
    go_enter Tryz.func61, Tryz.ntmps61
    go_wp2_with fail
    go_ret
    exact ⟨by rw [HE.out]; rfl, Turn.refl _ _⟩
  rw [if_neg h6] at hacc
  have HE := shut' hacc
  have h6' : ¬ (65536 : Int) < (n : Int) := by omega
  clear hacc
  go_enter Tryz.func61, Tryz.ntmps61
  go_wp2_with fail
  go_loopw [3] (fun c wr => ∃ k : Nat, k ≤ n ∧ c = .int .i64 k ∧ scanA 0 l = scanA (prevA l k) (l.drop k) ∧ Turn no w wr) (fun c _ => n - (intOf c).toNat)
  case atStart => exact ⟨0, by omega, rfl, rfl, Turn.refl _ _⟩
  case round =>
    obtain ⟨k, hk, rfl, hsc, T⟩ := hrel
    by_cases hlt : k < n
    · obtain ⟨m, hm⟩ : ∃ m, l[k]? = some m := ⟨l[k]'(by rw [hn.out]; exact hlt), List.getElem?_eq_getElem _⟩
      obtain ⟨b, off, rfl, c0, c1, c2, c3, c4⟩ := hcells k m hm
      have c0 := T.keep c0 (fun q => q)
      have c1 := T.keep c1 (fun q => q)
      have c2 := T.keep c2 (fun q => q)
      have hlt' : (k : Int) < (n : Int) := by omega
      have hk1 : Hid (k + 1 ≤ n) := hlt
      have hst := scanA_at hm (prevA l k)
      rw [← hsc] at hst
      have hps := shut' (prevA_succ hm)
      by_cases a1 : m.ad = 0
      · rw [if_pos a1] at hst
        have HW := shut' hst
        have a1' : ((m.ad : Int) == 0) = true := by simp; omega
        clear hst hcells hsc hm
        go_wp2_with fail
        go_ret
        exact ⟨by rw [HE.out, HW.out]; rfl, T⟩
      rw [if_neg a1] at hst
      have a1' : ((m.ad : Int) == 0) = false := by simp; omega
      go_upto_region 8 with fail
      go_cut [34] from 7 to 48 (fun c wx => c = .bool (decide (m.ad ≤ prevA l k)) ∧ Turn no wr wx)
      case first =>
        by_cases hk0 : k = 0
        · subst hk0
          have e : decide (m.ad ≤ prevA l 0) = false := by simp [prevA]; omega
          have HX := shut' e
          clear e hcells hm hst hsc
          go_quiet (fail)
          go_wp2_with fail
          go_meet
          case rel => exact ⟨by rw [HX.out], (Turn.refl no wr).drewN _⟩
        · obtain ⟨k', rfl⟩ : ∃ k', k = k' + 1 := ⟨k - 1, by omega⟩
          obtain ⟨m', hm'⟩ : ∃ m', l[k']? = some m' := ⟨l[k']'(by rw [hn.out]; omega), List.getElem?_eq_getElem _⟩
          obtain ⟨b', off', e', g0, _⟩ := hcells k' m' hm'
          cases e'
          have g0 := T.keep g0 (fun q => q)
          have hp := prevA_succ hm'
          have hq : decide ((0 : Int) < ((k' + 1 : Nat) : Int)) = true := by simp
          have hlk : (k' : Int) < (n : Int) := by omega
          have hw : IntKind.i64.wrap (((k' + 1 : Nat) : Int) - 1) = (k' : Int) := by rw [IntKind.wrap_i64]; omega
          have HX : Hid (decide (m.ad ≤ prevA l (k' + 1)) = decide (m.ad ≤ m'.ad)) := by show _ = _; rw [hp]
          clear hcells hm hst hsc hm' hp
          go_quiet (fail)
          go_wp2_with fail
          go_meet
          case rel => exact ⟨by rw [HX.out], (Turn.refl no wr).drewN _⟩
      case rest =>
        obtain ⟨rfl, tc⟩ := hcut
        have c1 := tc.keep c1 (fun q => q)
        have c2 := tc.keep c2 (fun q => q)
        have TC := T.then_no tc
        clear hcells hm hsc
        by_cases a2 : m.ad ≤ prevA l k
        · rw [if_pos a2] at hst
          have HW := shut' hst
          have a2' : decide (m.ad ≤ prevA l k) = true := by simp; omega
          rw [a2']
          clear hst
          go_wp2_with fail
          go_ret
          exact ⟨by rw [HE.out, HW.out]; rfl, TC⟩
        rw [if_neg a2] at hst
        have a2' : decide (m.ad ≤ prevA l k) = false := by simp; omega
        rw [a2']
        by_cases a3 : 1152921504606846975 < m.bal
        · rw [if_pos (.inl a3)] at hst
          have HW := shut' hst
          have a3' : (1152921504606846975 : Int) < (m.bal : Int) := by omega
          clear hst
          go_wp2_with fail
          go_ret
          exact ⟨by rw [HE.out, HW.out]; rfl, TC⟩
        have a3' : ¬ (1152921504606846975 : Int) < (m.bal : Int) := by omega
        by_cases a4 : 1152921504606846975 < m.bond
        · rw [if_pos (.inr a4)] at hst
          have HW := shut' hst
          have a4' : (1152921504606846975 : Int) < (m.bond : Int) := by omega
          clear hst
          go_wp2_with fail
          go_ret
          exact ⟨by rw [HE.out, HW.out]; rfl, TC⟩
        rw [if_neg (by omega)] at hst
        have a4' : ¬ (1152921504606846975 : Int) < (m.bond : Int) := by omega
        have HW := shut' hst
        clear hst
        go_wp2_with fail
        go_roundw
        case rel => exact ⟨k + 1, hk1.out, by go_num, by rw [hps.out]; exact HW.out, TC⟩
        case measure => have := hk1.out; simp [intOf]; omega
    · have hlt' : ¬ (k : Int) < (n : Int) := by omega
      have he : scanA 0 l = 0 := by
        rw [hsc, List.drop_of_length_le (by have := hn.out; omega)]
        rfl
      have HW := shut' he
      clear he hsc hcells
      go_wp2_with fail
      go_ret
      exact ⟨by rw [HE.out, HW.out]; rfl, T⟩
end Go.Proofs.YtlacfenenbblaaaGreatDoor


