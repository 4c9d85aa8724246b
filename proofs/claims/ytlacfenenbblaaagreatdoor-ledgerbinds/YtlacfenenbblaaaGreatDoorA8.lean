/- New of the program and of the document refuse the same, plain. -/
import Derived.Test.YtlacfenenbblaaaGreatDoorA7
namespace Go.Proofs.YtlacfenenbblaaaGreatDoor
set_option linter.unusedVariables false

theorem scanA_ok : ∀ (l : List Ac) (p : Nat), scanA p l = 0 → ∀ m ∈ l, m.bal ≤ 1152921504606846975 ∧ m.bond ≤ 1152921504606846975
  | [], _, _, m, h => by cases h
  | x :: r, p, h, m, hm => by
    unfold scanA at h
    split at h
    · cases h
    · split at h
      · cases h
      · split at h
        · cases h
        · rcases List.mem_cons.1 hm with rfl | hm
          · omega
          · exact scanA_ok r _ h m hm
theorem step_sum {S S' : Nat} {m : Ac} (h : min S' 1152921504606846976 = S) (hb : m.bal ≤ 1152921504606846975) (hd : m.bond ≤ 1152921504606846975) : min (sumA S' m) 1152921504606846976 = stepA S m := by
  unfold sumA stepA addN
  split
  · split <;> omega
  · split <;> omega
theorem fold_sum : ∀ (l : List Ac) (S S' : Nat), min S' 1152921504606846976 = S → (∀ m ∈ l, m.bal ≤ 1152921504606846975 ∧ m.bond ≤ 1152921504606846975) → min (l.foldl sumA S') 1152921504606846976 = l.foldl stepA S
  | [], _, _, h, _ => h
  | x :: r, S, S', h, hm => by
    have hx := hm x (List.mem_cons_self ..)
    exact fold_sum r (stepA S x) (sumA S' x) (step_sum h hx.1 hx.2) (fun m h => hm m (List.mem_cons_of_mem _ h))
theorem whole_sum {l : List Ac} (h : scanA 0 l = 0) : min (sumN 0 l []) 1152921504606846976 = wholeN 0 l [] :=
  fold_sum l _ _ (by decide) (scanA_ok l 0 h)
/-- What the document's New refuses. -/
def newE (l : List Ac) : Int := if accE l ≠ 0 then accE l else if 1152921504606846975 < sumN 0 l [] then 87 else 0
theorem new_same (l : List Ac) : soundE 0 l (wholeN 0 l []) = newE l := by
  unfold soundE newE accE
  by_cases h6 : 65536 < l.length
  · simp [h6]
  · simp only [h6, if_false]
    by_cases hs : scanA 0 l = 0
    · have := whole_sum hs
      simp only [hs, ne_eq, not_true_eq_false, if_false, or_false]
      by_cases q : 1152921504606846975 < sumN 0 l []
      · rw [if_pos q, if_pos (by omega)]
      · rw [if_neg q, if_neg (by omega)]
    · simp [hs]
/-- Where it is taken, the supply is the sum. -/
theorem new_sum {l : List Ac} (h : newE l = 0) : sumN 0 l [] = wholeN 0 l [] ∧ sumN 0 l [] ≤ 1152921504606846975 := by
  unfold newE at h
  split at h
  · rename_i q; exact (q h).elim
  · rename_i q
    split at h
    · cases h
    · have hs : scanA 0 l = 0 := by
        have q' : accE l = 0 := Classical.byContradiction q
        unfold accE at q'
        split at q'
        · cases q'
        · exact q'
      have := whole_sum hs
      omega
end Go.Proofs.YtlacfenenbblaaaGreatDoor


