/- P7.5, plain: what a crash leaves of frames. -/
import Derived.Test.YtbkbecjgphjpkabDoorP3
import Derived.Test.YtbkbecjgphjpkabDoorS1
namespace Go.Proofs.YtbkbecjgphjpkabDoor
open Go.RowKit
set_option linter.unusedVariables false

theorem whole_torn_set (r : List UInt8) (h : r.length ≤ 262400) (m : Nat) (h0 : 0 < m) (hm : m ≤ r.length + 13) (v : UInt8) (hv : (frameB r)[m - 1]? ≠ some v) : whole (((frameB r).take m).set (m - 1) v) = none := by
  by_cases h9 : m < 9
  · unfold whole
    rw [if_pos (by simp [frameB_len]; omega)]
  by_cases hl : m = r.length + 13
  · have e : (frameB r).take m = frameB r := List.take_of_length_le (by rw [frameB_len]; omega)
    rw [e]
    have := whole_spoilt r h (m - 1) (by omega) v hv []
    rwa [List.append_nil] at this
  have hF : frameB r = headB r.length ++ (leB (crc (headB r.length)) 4 ++ (r ++ leB (crc r) 4)) := by have := frameB_parts r []; rwa [List.append_nil, List.append_nil] at this
  have hl1 := headB_len r.length
  have hl2 := leB_length (crc (headB r.length)) 4
  have e : (frameB r).take m = headB r.length ++ (leB (crc (headB r.length)) 4 ++ (r ++ leB (crc r) 4).take (m - 9)) := by
    rw [hF, ← List.append_assoc, List.take_append, List.take_of_length_le (by simp [hl1, hl2]; omega), List.append_assoc]
    simp [hl1, hl2]
  rw [e]
  by_cases he : m = 9
  · subst he
    rw [List.set_append, if_neg (by omega), hl1, List.set_append, if_pos (by omega)]
    refine whole_head hl1 (by simp [hl2]) (Or.inr ?_)
    rw [hF, List.getElem?_append_right (by omega), hl1, List.getElem?_append_left (by omega)] at hv
    have := set_ne_lsum _ hl2 (9 - 1 - 5) (by omega) v hv
    rw [lsum_crc'] at this
    exact this
  · rw [List.set_append, if_neg (by omega), hl1, List.set_append, if_neg (by omega), hl2]
    exact whole_short hl1 hl2 (by rw [headB_n _ h]; simp [leB_length]; omega)
theorem upto_torn_set : ∀ (l : List (List UInt8)) (hl : ∀ r ∈ l, r.length ≤ 262400) (m : Nat) (h0 : 0 < m) (hm : m ≤ (cat l).length) (v : UInt8) (hv : (cat l)[m - 1]? ≠ some v), Upto (((cat l).take m).set (m - 1) v) l (m - 1)
  | [], _, m, h0, hm, _, _, _, _, _, _ => by simp [cat] at hm; omega
  | r :: l, hl, m, h0, hm, v, hv, 0, hk, h1, h2 => by
    have hr := hl r (List.mem_cons_self ..)
    have h2 : m - 1 < ce (r :: l) 1 := by
      rcases h2 with q | q
      · simp at q
      · exact q
    rw [ce_cons, ce_zero] at h2
    rw [cat_cons, List.getElem?_append_left (by rw [frameB_len]; omega)] at hv
    rw [cat_cons, List.take_append_of_le_length (by rw [frameB_len]; omega), scan_none (whole_torn_set r hr m h0 (by omega) v hv), ce_zero]
    rfl
  | r :: l, hl, m, h0, hm, v, hv, k + 1, hk, h1, h2 => by
    have hr := hl r (List.mem_cons_self ..)
    rw [ce_cons] at h1 h2
    rw [cat_cons, List.getElem?_append_right (by rw [frameB_len]; omega), frameB_len] at hv
    rw [cat_cons, List.length_append, frameB_len] at hm
    have e1 : m - 1 - (r.length + 13) = (m - (r.length + 13)) - 1 := by omega
    rw [e1] at hv
    have ih := upto_torn_set l (fun x hx => hl x (List.mem_cons_of_mem _ hx)) (m - (r.length + 13)) (by omega) (by omega) v hv k (by simpa using hk) (by omega) (by
      rcases h2 with q | q
      · exact Or.inl (by simpa using q)
      · exact Or.inr (by omega))
    rw [cat_cons, List.take_append, List.take_of_length_le (by rw [frameB_len]; omega), frameB_len, List.set_append, if_neg (by rw [frameB_len]; omega), frameB_len, e1, scan_frame r _ hr, ih, ce_cons]
    rfl
theorem ce_mono (l : List (List UInt8)) {i j : Nat} (h : i ≤ j) : ce l i ≤ ce l j := by
  unfold ce
  apply cat_le
  rw [show l.take i = (l.take j).take i by rw [List.take_take, Nat.min_eq_left h]]
  exact List.take_sublist _ _
theorem ce_lt (l : List (List UInt8)) {i : Nat} (h : i < l.length) : ce l i < ce l (i + 1) := by
  unfold ce
  rw [List.take_succ_eq_append_getElem h, cat_snoc, List.length_append, frameB_len]
  omega
/-- The frames that are whole within n bytes. -/
theorem pick (l : List (List UInt8)) (n : Nat) : ∃ k, k ≤ l.length ∧ ce l k ≤ n ∧ (k = l.length ∨ n < ce l (k + 1)) := by
  have : ∀ m, m ≤ l.length → (∃ k, k ≤ l.length ∧ ce l k ≤ n ∧ (k = l.length ∨ n < ce l (k + 1))) ∨ ce l m ≤ n := by
    intro m
    induction m with
    | zero => intro _; exact Or.inr (by rw [ce_zero]; omega)
    | succ m ih =>
      intro hm
      rcases ih (by omega) with q | q
      · exact Or.inl q
      · by_cases hx : ce l (m + 1) ≤ n
        · exact Or.inr hx
        · exact Or.inl ⟨m, by omega, q, Or.inr (by omega)⟩
  rcases this l.length (Nat.le_refl _) with q | q
  · exact q
  · exact ⟨l.length, Nat.le_refl _, q, Or.inl rfl⟩
theorem pick_ge {l : List (List UInt8)} {n k safe : Nat} (h : k = l.length ∨ n < ce l (k + 1)) (hs : safe ≤ l.length) (hc : ce l safe ≤ n) : safe ≤ k := by
  rcases h with q | q
  · omega
  · by_cases hx : safe ≤ k
    · exact hx
    · have := ce_mono l (show k + 1 ≤ safe by omega)
      omega
/-- P7.5: behind a crash a beginning of the records stands there, with all that were synced. -/
theorem crash_scan (l : List (List UInt8)) (hl : ∀ r ∈ l, r.length ≤ 262400) (sy : Nat) (hsy : sy ≤ (cat l).length) (keep : Int) (junk : UInt8) (safe : Nat) (hs : safe ≤ l.length) (hc : ce l safe ≤ sy) :
    ∃ k, safe ≤ k ∧ k ≤ l.length ∧ scan (leftB (cat l) sy keep junk) = (l.take k, ce l k) := by
  unfold leftB
  generalize hkn : keepN (cat l).length sy keep = n
  have hn : sy + n ≤ (cat l).length := by
    unfold keepN at hkn
    omega
  by_cases h0 : n = 0
  · rw [if_pos h0]
    obtain ⟨k, k1, k2, k3⟩ := pick l sy
    exact ⟨k, pick_ge k3 hs hc, k1, upto_torn l hl sy k k1 k2 k3⟩
  · rw [if_neg h0]
    by_cases hv : (cat l)[sy + n - 1]? = some (xorB ((cat l).getD (sy + n - 1) 0) junk)
    · have e : ((cat l).take (sy + n)).set (sy + n - 1) (xorB ((cat l).getD (sy + n - 1) 0) junk) = (cat l).take (sy + n) := by
        apply List.ext_getElem?
        intro i
        rw [List.getElem?_set]
        split
        · next hi =>
          subst hi
          rw [List.getElem?_take, if_pos (show sy + n - 1 < sy + n by omega), hv]
          simp
          omega
        · rfl
      rw [e]
      obtain ⟨k, k1, k2, k3⟩ := pick l (sy + n)
      exact ⟨k, pick_ge k3 hs (by omega), k1, upto_torn l hl (sy + n) k k1 k2 k3⟩
    · obtain ⟨k, k1, k2, k3⟩ := pick l (sy + n - 1)
      exact ⟨k, pick_ge k3 hs (by omega), k1, upto_torn_set l hl (sy + n) (by omega) hn _ hv k k1 k2 k3⟩
end Go.Proofs.YtbkbecjgphjpkabDoor
