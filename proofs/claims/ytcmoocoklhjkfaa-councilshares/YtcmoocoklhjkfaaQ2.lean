/- Nobody waits for ever: plain. -/
import Derived.Test.YtcmoocoklhjkfaaQ1
import Derived.Test.YtcmoocoklhjkfaaO1
namespace Go.Proofs.Ytcmoocoklhjkfaa
open Go.RowKit
set_option linter.unusedVariables false

theorem pwS_keys {l : List Mb} : ∀ {l' : List Mb} (i : Nat) (P : Nat → Bool), keys l = keys l' → pwS l i P = pwS l' i P ∧ cntS l i P = cntS l' i P := by
  induction l with
  | nil => intro l' i P e; cases l' with
    | nil => exact ⟨rfl, rfl⟩
    | cons x r => simp [keys] at e
  | cons x r ih =>
    intro l' i P e
    cases l' with
    | nil => simp [keys] at e
    | cons y s =>
      simp [keys] at e
      obtain ⟨⟨e1, e2⟩, e3⟩ := e
      have := ih (l' := s) (i + 1) P (by simpa [keys] using e3)
      simp only [pwS, cntS]
      rw [this.1, this.2, e2]
      exact ⟨rfl, rfl⟩
theorem powI_pwS (l : List Mb) (s : Nat) : ∀ i, powI l i s = pwS l i (fun j => s.testBit j) := by
  induction l with
  | nil => intro i; rfl
  | cons m r ih => intro i; simp only [powI, pwS, ih]
theorem pwS_apart (l : List Mb) (P Q : Nat → Bool) (h : ∀ i, P i = true → Q i = false) : ∀ i, pwS l i P + pwS l i Q ≤ tot l := by
  induction l with
  | nil => intro i; simp [pwS, tot]
  | cons m r ih =>
    intro i
    have h1 := ih (i + 1)
    have h2 := h i
    simp only [pwS, tot]
    cases hP : P i
    · simp
      split <;> omega
    · rw [h2 hP]
      simp
      omega
theorem sumS_minP (l : List Mb) (M : Int) (P : Nat → Bool) : ∀ i, (∀ (j : Nat) (m : Mb), l[j]? = some m → P (i + j) = true → M ≤ m.pr) → cntS l i P * M ≤ sumS l i P := by
  induction l with
  | nil => intro i _; simp [sumS, cntS]
  | cons m r ih =>
    intro i h
    have h1 := ih (i + 1) (fun j x hx hP => h (j + 1) x (by simpa using hx) (by rw [show i + (j + 1) = i + 1 + j by omega]; exact hP))
    simp only [sumS, cntS]
    split
    · rename_i hP
      have h2 := h 0 m rfl (by simpa using hP)
      rw [Int.natCast_add, Int.add_mul]
      have : ((1 : Nat) : Int) * M = M := by simp
      omega
    · rw [Nat.zero_add]
      omega
/-- Whose turn it is. -/
def ch (l : List Mb) (k : Nat) : Nat := best (up (tot l) (turnsN (tot l) l k))
section
variable {B L : Nat} {l : List Mb}
theorem turns_turned (hG : ∀ k, Good B L (turnsN (tot l) l k)) (hB : B ≤ 2000000) (hw : weighE l = 0) (k : Nat) : ∃ x, Turned (turnsN (tot l) l k) (turnsN (tot l) l (k + 1)) (ch l k) x := by
  have hk := turns_keys (tot l) l k
  have hwk : weighE (turnsN (tot l) l k) = 0 := by rw [keys_weigh hk]; exact hw
  have htk : tot (turnsN (tot l) l k) = tot l := keys_tot hk
  obtain ⟨b, x, ht⟩ := (hG k).turned hB hwk
  have hb := ht.best
  rw [htk] at hb ht
  have e : b = ch l k := hb
  rw [e] at ht
  exact ⟨x, ht⟩
theorem sum_after (hG : ∀ k, Good B L (turnsN (tot l) l k)) (hB : B ≤ 2000000) (hw : weighE l = 0) (C : Nat → Bool) (k : Nat) (hC : ∀ j, j < k → C (ch l j) = true) : sumS (turnsN (tot l) l k) 0 C = sumS l 0 C + k * ((pwS l 0 C : Int) - tot l) := by
  induction k with
  | zero => simp [turnsN]
  | succ k ih =>
    obtain ⟨x, ht⟩ := turns_turned hG hB hw k
    have h1 := (ht.sum C).1
    rw [hC k (by omega), if_pos rfl, ih (fun j hj => hC j (by omega)), (pwS_keys 0 C (turns_keys (tot l) l k)).1, keys_tot (turns_keys (tot l) l k)] at h1
    rw [h1, Int.natCast_add, Int.add_mul]
    have : ((1 : Nat) : Int) * ((pwS l 0 C : Int) - tot l) = (pwS l 0 C : Int) - tot l := by simp
    omega
theorem chosen_low (hG : ∀ k, Good B L (turnsN (tot l) l k)) (hB : B ≤ 2000000) (hw : weighE l = 0) (k j : Nat) (hj : j < k) (m : Mb) (hm : (turnsN (tot l) l k)[ch l j]? = some m) : 1 - (tot l : Int) ≤ m.pr := by
  induction k generalizing m with
  | zero => omega
  | succ k ih =>
    obtain ⟨x, ht⟩ := turns_turned hG hB hw k
    rw [ht.eq, List.getElem?_set] at hm
    rw [keys_tot (turns_keys (tot l) l k)] at hm
    split at hm
    · rename_i e
      split at hm
      · simp at hm
        rw [← hm]
        have := ht.pos
        simp only
        omega
      · cases hm
    · rename_i e
      have hjk : j < k := by
        rcases Nat.lt_or_ge j k with q | q
        · exact q
        · have : j = k := by omega
          subst this
          exact absurd rfl e
      rw [raise, List.getElem?_map] at hm
      cases hy : (turnsN (tot l) l k)[ch l j]? with
      | none => rw [hy] at hm; simp at hm
      | some y =>
        rw [hy] at hm
        simp at hm
        have := ih hjk y hy
        rw [← hm]
        simp only
        omega
theorem ch_lt (hw : weighE l = 0) (k : Nat) : ch l k < l.length := by
  have h0 := (weigh_ok l hw).1
  have := best_lt (up (tot l) (turnsN (tot l) l k)) (by rw [up_len, turns_len]; omega)
  rw [up_len, turns_len] at this
  exact this
end
theorem arith_wait (k c t s p n : Nat) (hc : c ≤ n) (ht : 0 < t) (hs : 2 * t < 3 * s) (hp : p + s ≤ t) (hk : k = 11 * n) (hn : 0 < n) (h : 1000000 * (k * (t - p)) ≤ 6750000 * (c * t)) : False := by
  have h1 : k * s ≤ k * (t - p) := Nat.mul_le_mul_left _ (by omega)
  have h2 : k * (2 * t) ≤ k * (3 * s) := Nat.mul_le_mul_left _ (by omega)
  have e2 : k * (2 * t) = 2 * (k * t) := by rw [Nat.mul_left_comm]
  have e3 : k * (3 * s) = 3 * (k * s) := by rw [Nat.mul_left_comm]
  have h3 : c * t ≤ n * t := Nat.mul_le_mul_right _ hc
  have e4 : k * t = 11 * (n * t) := by rw [hk, Nat.mul_assoc]
  have h5 : 0 < n * t := Nat.mul_pos hn ht
  omega
/-- Members with more than two thirds have a turn among 11 n. -/
theorem waits {L : Nat} {l : List Mb} (hG0 : Good 2000000 L l) (hw : weighE l = 0) (hL : tot l ≤ L + 1) (hGt : ∀ k, Good 2000000 L (turnsN (tot l) l k)) (P : Nat → Bool) (hP : 2 * tot l < 3 * pwS l 0 P) : ∃ i, i < 11 * l.length ∧ P (ch l i) = true := by
  apply Classical.byContradiction
  intro hno
  have hno : ∀ i, i < 11 * l.length → P (ch l i) = false := fun i hi => by
    cases h : P (ch l i)
    · rfl
    · exact absurd ⟨i, hi, h⟩ hno
  obtain ⟨k, hk⟩ : ∃ k, k = 11 * l.length := ⟨_, rfl⟩
  obtain ⟨C, hCd⟩ : ∃ C : Nat → Bool, C = fun i => (List.range k).any (fun j => ch l j == i) := ⟨_, rfl⟩
  have hC : ∀ j, j < k → C (ch l j) = true := fun j hj => by
    rw [hCd]
    exact List.any_eq_true.2 ⟨j, by simpa using hj, by simp⟩
  have hCi : ∀ i, C i = true → ∃ j, j < k ∧ ch l j = i := fun i hi => by
    rw [hCd] at hi
    obtain ⟨j, hj, e⟩ := List.any_eq_true.1 hi
    exact ⟨j, by simpa using hj, by simpa using e⟩
  have hsum := sum_after hGt (Nat.le_refl _) hw C k hC
  have hlow := sumS_minP (turnsN (tot l) l k) (1 - (tot l : Int)) C 0 (fun j m hm hCj => by
    rw [Nat.zero_add] at hCj
    obtain ⟨i, hi, e⟩ := hCi j hCj
    rw [← e] at hm
    exact chosen_low hGt (Nat.le_refl _) hw k i hi m hm)
  rw [(pwS_keys 0 C (turns_keys (tot l) l k)).2] at hlow
  have hup := hG0.upp C
  have hap := pwS_apart l P C (fun i hi => by
    cases hc : C i
    · rfl
    · obtain ⟨j, hj, e⟩ := hCi i hc
      have := hno j (by omega)
      rw [e, hi] at this
      cases this) 0
  have hcn := cntS_le l 0 C
  have hpos := tot_pos l hw
  have hn0 := (weigh_ok l hw).1
  have hn64 := (weigh_ok l hw).2.1
  generalize hcc : cntS l 0 C = c at *
  generalize hpc : pwS l 0 C = p at *
  generalize hps : pwS l 0 P = s at *
  generalize htt : tot l = t at *
  have hc1 : c * (hs c + 2000000) * t ≤ c * 5750000 * t := by
    rcases Nat.eq_zero_or_pos c with q | q
    · subst q; simp
    · have h1 := hs_anti c q (by omega)
      have h2 := hs_one
      exact Nat.mul_le_mul_right _ (Nat.mul_le_mul_left _ (by omega))
  refine arith_wait k c t s p l.length hcn hpos hP (by omega) hk (by omega) ?_
  have e1 : ((c : Nat) : Int) * (1 - (t : Int)) = (c : Int) - ((c * t : Nat) : Int) := by rw [Int.mul_sub, Int.natCast_mul]; omega
  have e2 : ((k : Nat) : Int) * ((p : Int) - t) = -((k * (t - p) : Nat) : Int) := by
    rw [Int.natCast_mul, Int.natCast_sub (by omega), ← Int.mul_neg]
    congr 1
    omega
  have e3 : c * 5750000 * t = 5750000 * (c * t) := by rw [Nat.mul_comm c, Nat.mul_assoc]
  rw [e1] at hlow
  rw [e2] at hsum
  omega
end Go.Proofs.Ytcmoocoklhjkfaa
