/- Exact shares: plain. -/
import Derived.Test.YtcmoocoklhjkfaaQ2
import Derived.Test.YtcmoocoklhjkfaaC8
import Derived.Test.YtcmoocoklhjkfaaC4
namespace Go.Proofs.Ytcmoocoklhjkfaa
open Go.RowKit
set_option linter.unusedVariables false

theorem turns_add (t : Nat) (l : List Mb) (a b : Nat) : turnsN t (turnsN t l a) b = turnsN t l (a + b) := by
  induction b with
  | zero => rfl
  | succ b ih => rw [turnsN, ih, ← Nat.add_assoc, turnsN]
theorem turns_tot (t : Nat) (l : List Mb) (k : Nat) : tot (turnsN t l k) = tot l := keys_tot (turns_keys t l k)
theorem turns_sound (l : List Mb) (h : soundE l = 0) (k : Nat) : soundE (turnsN (tot l) l k) = 0 := by
  refine sound_end _ ?_ (fun m hm => ?_)
  · rw [keys_weigh (turns_keys (tot l) l k)]
    exact (sound_ok l h).1
  · rw [turns_tot]
    have := turns_in (sound_in l h) k m hm
    simp [wideB]
    omega
theorem good_flat (B : Nat) (M : Nat) (l : List Mb) (L : Nat) (hs0 : 0 ≤ sumP l ∧ sumP l < l.length) (hl : ∀ m ∈ l, -(L : Int) ≤ m.pr) (hu : ∀ m ∈ l, m.pr ≤ M * tot l) (hB : M * 1000000 ≤ B) : Good B L l := by
  refine ⟨hs0, hl, fun P => ?_⟩
  have h1 := sumS_max l _ hu 0 P
  generalize cntS l 0 P = c at *
  have h2 : (((c * (M * 1000000) * tot l : Nat)) : Int) ≤ ((c * (hs c + B) * tot l : Nat) : Int) := by
    have : c * (M * 1000000) * tot l ≤ c * (hs c + B) * tot l := Nat.mul_le_mul_right _ (Nat.mul_le_mul_left _ (by omega))
    omega
  have h3 : ((c * (M * 1000000) * tot l : Nat) : Int) = 1000000 * ((c : Int) * (M * (tot l : Int))) := by
    simp only [Int.natCast_mul]
    grind
  omega
theorem sumP_zero (l : List Mb) : sumP (zeroed l) = 0 := by
  induction l with
  | nil => rfl
  | cons m r ih => simp only [zeroed, List.map_cons, sumP]; rw [show (r.map fun m => ({ m with pr := 0 } : Mb)) = zeroed r from rfl, ih]; omega
theorem zero_good (B L : Nat) (l : List Mb) (hw : weighE l = 0) : Good B L (zeroed l) := by
  have hn := (weigh_ok l hw).1
  refine good_flat B 0 _ L (by rw [sumP_zero, zeroed_len]; omega) (fun m hm => ?_) (fun m hm => ?_) (by omega)
  · obtain ⟨x, _, rfl⟩ := List.mem_map.1 hm
    simp only
    omega
  · obtain ⟨x, _, rfl⟩ := List.mem_map.1 hm
    simp
theorem turns_good {B L : Nat} {l : List Mb} (h : Good B L l) (hB : B ≤ 2000000) (hw : weighE l = 0) (hL : tot l ≤ L + 1) (k : Nat) : Good B L (turnsN (tot l) l k) := by
  induction k with
  | zero => exact h
  | succ k ih =>
    have hk := turns_keys (tot l) l k
    have hwk : weighE (turnsN (tot l) l k) = 0 := by rw [keys_weigh hk]; exact hw
    have htk : tot (turnsN (tot l) l k) = tot l := keys_tot hk
    obtain ⟨b, x, ht⟩ := ih.turned hB hwk
    rw [htk] at ht
    exact ih.turn hwk (by rw [htk]; exact hL) ht
theorem idx_at (a : List Mb) (hr : Rising a) (i : Nat) (x : Mb) (hx : a[i]? = some x) : idxE a x.ad = i :=
  idx_hit a x.ad i x (fun y hy => by
    obtain ⟨j, hj⟩ := List.getElem?_of_mem hy
    have hji : j < i := by have := (List.getElem?_eq_some_iff.1 hj).1; simp at this; omega
    rw [List.getElem?_take, if_pos hji] at hj
    have := hr j i y x hji hj hx
    omega) hx rfl
theorem prop_idx (y : List Mb) (hw : weighE y = 0) (i : Nat) : idxE y (propN (tot y) y i) = ch y i := by
  have hl := ch_lt hw i
  obtain ⟨m, hm⟩ : ∃ m, y[ch y i]? = some m := ⟨_, List.getElem?_eq_getElem hl⟩
  have hk := turns_keys (tot y) y (i + 1)
  obtain ⟨z, hz, e1, _⟩ := keys_get hk.symm (ch y i) m hm
  have e : propN (tot y) y i = m.ad := by
    unfold propN
    rw [show best (up (tot y) (turnsN (tot y) y i)) = ch y i from rfl, List.getD, hz]
    simp [e1]
  rw [e]
  exact idx_at y (weigh_rising y hw) _ m hm
/-- How often a place was chosen. -/
def cc (l : List Mb) : Nat → Nat → Nat
  | 0, _ => 0
  | k + 1, j => cc l k j + (if ch l k = j then 1 else 0)
theorem cc_le (l : List Mb) (k j : Nat) : cc l k j ≤ k := by
  induction k with
  | zero => exact Nat.le_refl _
  | succ k ih => rw [cc]; split <;> omega
theorem ch_turns (l : List Mb) (k : Nat) : ch (turnsN (tot l) l k) 0 = ch l k := by
  unfold ch
  rw [turns_tot]
  rfl
theorem pr_at {B L : Nat} {l : List Mb} (hG : ∀ k, Good B L (turnsN (tot l) l k)) (hB : B ≤ 2000000) (hw : weighE l = 0) (k j : Nat) (m m0 : Mb) (hm : (turnsN (tot l) l k)[j]? = some m) (h0 : l[j]? = some m0) : m.pr = m0.pr + (k : Int) * m0.pw - (cc l k j : Int) * tot l ∧ m.pw = m0.pw := by
  induction k generalizing m with
  | zero =>
    rw [turnsN, h0] at hm
    cases hm
    simp [cc]
  | succ k ih =>
    obtain ⟨x, ht⟩ := turns_turned hG hB hw k
    have hk := turns_keys (tot l) l k
    obtain ⟨y, hy, _, _⟩ := keys_get hk.symm j m0 h0
    obtain ⟨e1, e2⟩ := ih y hy
    have hr : (raise (turnsN (tot l) l k))[j]? = some { y with pr := y.pr + y.pw } := by
      rw [raise, List.getElem?_map, hy]
      rfl
    rw [ht.eq, List.getElem?_set, keys_tot hk] at hm
    rw [cc, Int.natCast_add, Int.natCast_add, Int.add_mul, Int.add_mul]
    have one1 : ((1 : Nat) : Int) * (m0.pw : Int) = m0.pw := by simp
    split at hm
    · rename_i e
      have hat := ht.at'
      rw [e, hr] at hat
      simp at hat
      split at hm
      · simp at hm
        rw [← hm, ← hat, if_pos e]
        simp only
        constructor
        · have one2 : ((1 : Nat) : Int) * (tot l : Int) = tot l := by simp
          omega
        · exact e2
      · cases hm
    · rename_i e
      rw [hr] at hm
      simp at hm
      rw [← hm, if_neg e]
      simp only
      constructor
      · have zero2 : ((0 : Nat) : Int) * (tot l : Int) = 0 := by simp
        omega
      · exact e2
theorem sum_turns {B L : Nat} {l : List Mb} (hG : ∀ k, Good B L (turnsN (tot l) l k)) (hB : B ≤ 2000000) (hw : weighE l = 0) (k : Nat) : sumP (turnsN (tot l) l k) = sumP l := by
  have := sum_after hG hB hw (fun _ => true) k (fun _ _ => rfl)
  rw [sumS_all, sumS_all, pwS_all] at this
  rw [this]
  have : (tot l : Int) - tot l = 0 := by omega
  rw [this]
  simp
theorem all_zero (l : List Mb) (h : ∀ m ∈ l, 0 ≤ m.pr) (hs : sumP l = 0) : ∀ m ∈ l, m.pr = 0 := by
  have key : ∀ r : List Mb, (∀ m ∈ r, 0 ≤ m.pr) → 0 ≤ sumP r := by
    intro r
    induction r with
    | nil => intro _; simp [sumP]
    | cons x r ih =>
      intro hr
      have := ih (fun y hy => hr y (by simp [hy]))
      have := hr x (by simp)
      simp only [sumP]
      omega
  induction l with
  | nil => intro m hm; cases hm
  | cons x r ih =>
    have h1 := key r (fun y hy => h y (by simp [hy]))
    have h2 := h x (by simp)
    simp only [sumP] at hs
    intro m hm
    rcases List.mem_cons.1 hm with rfl | hm
    · omega
    · exact ih (fun y hy => h y (by simp [hy])) (by omega) m hm
/-- Behind a total of turns. -/
theorem whole_turn {B L : Nat} {l : List Mb} (hG : ∀ k, Good B L (turnsN (tot l) l k)) (hB : B ≤ 2000000) (hw : weighE l = 0) (hL : L + 1 = tot l) (h0 : ∀ m ∈ l, m.pr = 0) (hs : sumP l = 0) (j : Nat) (m m0 : Mb) (hm : (turnsN (tot l) l (tot l))[j]? = some m) (hm0 : l[j]? = some m0) : m.pr = 0 ∧ cc l (tot l) j = m0.pw := by
  have hpos := tot_pos l hw
  have key : ∀ (i : Nat) (x : Mb), (turnsN (tot l) l (tot l))[i]? = some x → 0 ≤ x.pr ∧ ∃ y, l[i]? = some y ∧ x.pr = (tot l : Int) * ((y.pw : Int) - cc l (tot l) i) := by
    intro i x hx
    obtain ⟨y, hy, _, _⟩ := keys_get (turns_keys (tot l) l (tot l)) i x hx
    have e := (pr_at hG hB hw (tot l) i x y hx hy).1
    rw [h0 y (List.mem_of_getElem? hy)] at e
    have e2 : x.pr = (tot l : Int) * ((y.pw : Int) - cc l (tot l) i) := by
      rw [Int.mul_sub, Int.mul_comm (tot l : Int) (cc l (tot l) i : Int)]
      omega
    refine ⟨?_, y, hy, e2⟩
    have hlow := (hG (tot l)).low x (List.mem_of_getElem? hx)
    have h1 : -(tot l : Int) < (tot l : Int) * ((y.pw : Int) - cc l (tot l) i) := by omega
    have h2 : 0 ≤ (y.pw : Int) - cc l (tot l) i := by
      rcases Int.lt_or_le ((y.pw : Int) - cc l (tot l) i) 0 with q | q
      · have : (tot l : Int) * ((y.pw : Int) - cc l (tot l) i) ≤ (tot l : Int) * (-1) := Int.mul_le_mul_of_nonneg_left (by omega) (by omega)
        omega
      · exact q
    rw [e2]
    exact Int.mul_nonneg (by omega) h2
  have hz := all_zero (turnsN (tot l) l (tot l)) (fun x hx => by
    obtain ⟨i, hi⟩ := List.getElem?_of_mem hx
    exact (key i x hi).1) (by rw [sum_turns hG hB hw]; exact hs) m (List.mem_of_getElem? hm)
  refine ⟨hz, ?_⟩
  obtain ⟨_, y, hy, e⟩ := key j m hm
  rw [hm0] at hy
  cases hy
  rw [hz] at e
  rcases Int.mul_eq_zero.1 e.symm with q | q
  · omega
  · omega
end Go.Proofs.Ytcmoocoklhjkfaa
