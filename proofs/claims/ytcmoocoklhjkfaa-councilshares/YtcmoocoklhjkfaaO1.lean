/- Sets of places, their powers. -/
import Derived.Test.YtcmoocoklhjkfaaD4
namespace Go.Proofs.Ytcmoocoklhjkfaa
open Go.RowKit
set_option linter.unusedVariables false

def powI : List Mb → Nat → Nat → Nat
  | [], _, _ => 0
  | m :: r, i, s => (if s.testBit i then m.pw else 0) + powI r (i + 1) s
theorem powI_le (l : List Mb) : ∀ i s, powI l i s ≤ tot l := by
  induction l with
  | nil => intro i s; simp [powI, tot]
  | cons m r ih =>
    intro i s
    have := ih (i + 1) s
    simp only [powI, tot]
    split <;> omega
theorem powI_and (l : List Mb) : ∀ i x y, powI l i x + powI l i y ≤ tot l + powI l i (x &&& y) := by
  induction l with
  | nil => intro i x y; simp [powI, tot]
  | cons m r ih =>
    intro i x y
    have := ih (i + 1) x y
    simp only [powI, tot, Nat.testBit_and]
    by_cases hx : x.testBit i <;> by_cases hy : y.testBit i <;> simp [hx, hy] <;> omega
theorem bit_not (x i : Nat) (hx : x < 18446744073709551616) (hi : i < 64) : (18446744073709551615 - x).testBit i = !x.testBit i := by
  have h : (2 ^ 64 - (x + 1)).testBit i = (decide (i < 64) && !x.testBit i) := Nat.testBit_two_pow_sub_succ hx i
  rw [show (2 ^ 64 : Nat) - (x + 1) = 18446744073709551615 - x by omega] at h
  rw [h]
  simp [hi]
theorem powI_not (l : List Mb) : ∀ i x, i + l.length ≤ 64 → x < 18446744073709551616 → powI l i x + powI l i (18446744073709551615 - x) = tot l := by
  induction l with
  | nil => intro i x _ _; simp [powI, tot]
  | cons m r ih =>
    intro i x hi hx
    simp only [List.length_cons] at hi
    have := ih (i + 1) x (by omega) hx
    simp only [powI, tot, bit_not x i hx (by omega)]
    generalize powI r (i + 1) x = A at this
    generalize powI r (i + 1) (18446744073709551615 - x) = B at this
    cases x.testBit i <;> simp <;> omega
theorem powI_take_succ (l : List Mb) (k i s : Nat) (m : Mb) (h : l[k]? = some m) : powI (l.take (k + 1)) i s = powI (l.take k) i s + (if s.testBit (i + k) then m.pw else 0) := by
  induction l generalizing k i with
  | nil => simp at h
  | cons x r ih =>
    cases k with
    | zero => simp at h; subst h; simp [powI]
    | succ k =>
      have := ih k (i + 1) (by simpa using h)
      simp only [List.take_succ_cons, powI]
      rw [this, show i + 1 + k = i + (k + 1) by omega]
      omega

set_option maxRecDepth 100000 in
set_option maxHeartbeats 1000000 in
theorem in40 (w : World) (s i : Nat) (hs : s < 18446744073709551616) (hi : i < 64) : Calls Try.prog 40 #[.int .u64 s, .int .i64 i] w fun e w' => e = .returned (.bool (s.testBit i)) ∧ w' = w := by
  have hi' : (i : Int) < 64 := by omega
  go_enter Try.func40, Try.ntmps40
  go_wp2_with fail
  go_ret
  have e1 : ((s : Int) / 2 ^ i) = ((s / 2 ^ i : Nat) : Int) := by simp
  have e2 := bits_and_u64_nat (s / 2 ^ i) 1 (Nat.lt_of_le_of_lt (Nat.div_le_self _ _) hs) (by decide)
  refine ⟨congrArg Ending.returned (congrArg Value.bool ?_), rfl⟩
  rw [e1, show (1 : Int) = ((1 : Nat) : Int) from rfl, e2, Nat.and_one_is_mod, Nat.testBit_eq_decide_div_mod_eq]
  by_cases q : s / 2 ^ i % 2 = 1
  · rw [q]
    simp
  · have q0 : s / 2 ^ i % 2 = 0 := by omega
    rw [q0]
    simp

set_option maxRecDepth 100000 in
set_option maxHeartbeats 1000000 in
theorem ltotal18 (w : World) (v : Value) (l : List Mb) (h : Ms w v l) (hb : tot l ≤ 1152921504606846975) : Calls Try.prog 18 #[v] w fun e w' => e = .returned (.int .i64 (tot l)) ∧ w' = w := by
  obtain ⟨a, cap, rfl, h⟩ := h
  have hcells := h.cells
  have hle : l.length ≤ 9223372036854775807 := by have := h.le; have := h.cap; simp only [maxLen] at this; omega
  clear h
  obtain ⟨n, hn⟩ : ∃ n, Hid (l.length = n) := ⟨_, rfl⟩
  have hn' : l.length = n := hn.out
  rw [hn'] at hle ⊢
  clear hn'
  have htk := fun k => tot_take_le l k
  go_enter Try.func18, Try.ntmps18
  go_wp2_with fail
  go_loop [3, 4] (fun t c => ∃ k s : Nat, k ≤ n ∧ c = .int .i64 k ∧ t = .int .i64 s ∧ tot (l.take k) = s) (fun _ c => n - (intOf c).toNat)
  case atStart => exact ⟨0, 0, by omega, rfl, rfl, by simp [tot]⟩
  case round =>
    obtain ⟨k, s, hk, rfl, rfl, hs⟩ := hrel
    have HS : Hid (tot (l.take k) = s) := hs
    by_cases hlt : k < n
    · obtain ⟨m, hm⟩ : ∃ m, l[k]? = some m := ⟨l[k]'(by rw [hn.out]; exact hlt), List.getElem?_eq_getElem _⟩
      obtain ⟨b, off, rfl, c0, c1, c2⟩ := hcells k m hm
      have hlt' : (k : Int) < (n : Int) := by omega
      have HTT : Hid (tot (l.take (k + 1)) = tot (l.take k) + m.pw) := tot_take_succ l k m hm
      have hsm : s + m.pw ≤ 1152921504606846975 := by
        have := htk (k + 1)
        rw [HTT.out, hs] at this
        omega
      have hsi : (s : Int) + (m.pw : Int) ≤ 1152921504606846975 := by omega
      clear hcells hm hs htk
      go_wp2_with fail
      go_round
      case rel => exact ⟨k + 1, s + m.pw, by omega, by go_num, by go_num, by rw [HTT.out, HS.out]⟩
      case measure => simp [intOf]; omega
    · have hkn : k = n := by omega
      subst hkn
      have hlt' : ¬ (k : Int) < (k : Int) := by omega
      rw [List.take_of_length_le (by rw [hn.out]; exact Nat.le_refl _)] at hs
      have HT : Hid (tot l = s) := hs
      clear hs htk HS
      go_wp2_with fail
      go_ret
      exact ⟨ret_i (by rw [HT.out]), rfl⟩

set_option maxRecDepth 100000 in
set_option maxHeartbeats 1000000 in
theorem power24 (w : World) (v : Value) (l : List Mb) (s : Nat) (h : Ms w v l) (hb : tot l ≤ 1152921504606846975) (h64 : l.length ≤ 64) (hs : s < 18446744073709551616) : Calls Try.prog 24 #[.agg #[v], .int .u64 s] w fun e w' => e = .returned (.int .u64 (powI l 0 s)) ∧ Turn no w w' := by
  have T0 : Turn no w (w.alloc (.cells #[v] 24)) := (Turn.refl no w).alloc _
  have h1 := h.turn_no T0
  clear h
  obtain ⟨a, cap, rfl, h⟩ := h1
  have hcells := h.cells
  clear h
  obtain ⟨n, hn⟩ : ∃ n, Hid (l.length = n) := ⟨_, rfl⟩
  have hn' : l.length = n := hn.out
  rw [hn'] at h64 hcells T0 ⊢
  clear hn'
  have hpl := fun k => Nat.le_trans (powI_le (l.take k) 0 s) (Nat.le_trans (tot_take_le l k) hb)
  go_enter Try.func24, Try.ntmps24
  go_wp2_with fail
  go_loop [5, 6] (fun t c => ∃ k p : Nat, k ≤ n ∧ c = .int .i64 k ∧ t = .int .u64 p ∧ powI (l.take k) 0 s = p) (fun _ c => n - (intOf c).toNat)
  case atStart => exact ⟨0, 0, by omega, rfl, rfl, by simp [powI]⟩
  case round =>
    obtain ⟨k, p, hk, rfl, rfl, hp⟩ := hrel
    have HP : Hid (powI (l.take k) 0 s = p) := hp
    by_cases hlt : k < n
    · obtain ⟨m, hm⟩ : ∃ m, l[k]? = some m := ⟨l[k]'(by rw [hn.out]; exact hlt), List.getElem?_eq_getElem _⟩
      obtain ⟨b, off, rfl, c0, c1, c2⟩ := hcells k m hm
      have hlt' : (k : Int) < (n : Int) := by omega
      have HTT := powI_take_succ l k 0 s m hm
      rw [Nat.zero_add] at HTT
      have hpk := hpl (k + 1)
      have hc := fun W => in40 W s k hs (by omega)
      clear hcells hm hpl
      cases hbit : s.testBit k with
      | true =>
        rw [hbit, if_pos rfl, hp] at HTT
        simp only [hbit] at hc
        rw [HTT] at hpk
        have hpi : (p : Int) + (m.pw : Int) ≤ 1152921504606846975 := by omega
        have HT2 : Hid (powI (l.take (k + 1)) 0 s = p + m.pw) := HTT
        clear HTT hp hbit
        go_wp2_with fail
        refine (hc _).mono ?_
        rintro e w1 ⟨rfl, e1⟩
        have e1 := e1.symm
        subst e1
        go_wp2_with fail
        go_round
        case rel => exact ⟨k + 1, p + m.pw, by omega, by go_num, by go_num, HT2.out⟩
        case measure => simp [intOf]; omega
      | false =>
        rw [hbit, if_neg (by decide), hp] at HTT
        simp only [hbit] at hc
        have HT2 : Hid (powI (l.take (k + 1)) 0 s = p) := HTT
        clear HTT hp hbit
        go_wp2_with fail
        refine (hc _).mono ?_
        rintro e w1 ⟨rfl, e1⟩
        have e1 := e1.symm
        subst e1
        go_wp2_with fail
        go_round
        case rel => exact ⟨k + 1, p, by omega, by go_num, by go_num, HT2.out⟩
        case measure => simp [intOf]; omega
    · have hkn : k = n := by omega
      subst hkn
      have hlt' : ¬ (k : Int) < (k : Int) := by omega
      rw [List.take_of_length_le (by rw [hn.out]; exact Nat.le_refl _)] at hp
      have HT : Hid (powI l 0 s = p) := hp
      clear hp hpl HP
      go_wp2_with fail
      go_ret
      exact ⟨ret_i (by rw [HT.out]), T0⟩
end Go.Proofs.Ytcmoocoklhjkfaa
