/- The digests of a way are of 32 bytes. -/
import Derived.Test.YtnibmkenbidnfaaDoorK10
namespace Go.Proofs.YtnibmkenbidnfaaDoor
open Go.RowKit
set_option linter.unusedVariables false

theorem wayH_all (n : Nat) : ∀ (l : List (List UInt8)) (a : Nat), l.length = n → 1 ≤ n → a < n → ∀ m ∈ wayH l a, m.length = 32 := by
  induction n using Nat.strongRecOn with
  | _ n ih =>
    intro l a hln h1 ha
    by_cases h : n = 1
    · subst h
      rw [wayH_one l a hln]
      simp
    · have hk1 := splitN_lt n (by omega)
      have hk2 := splitN_pos n
      by_cases hak : a < splitN n
      · have e := wayH_left l a (by omega) (by rw [hln]; exact hak)
        rw [e, hln]
        intro m hm
        rcases List.mem_append.1 hm with q | q
        · exact ih (splitN n) hk1 (l.take (splitN n)) a (by simp; omega) hk2 hak m q
        · simp at q; rw [q]; exact topH_len _
      · have e := wayH_right l a (by omega) (by rw [hln]; exact hak)
        rw [e, hln]
        intro m hm
        rcases List.mem_append.1 hm with q | q
        · exact ih (n - splitN n) (by omega) (l.drop (splitN n)) (a - splitN n) (by simp; omega) (by omega) (by omega) m q
        · simp at q; rw [q]; exact topH_len _
theorem prE_zero {l : Its} {i : Int} (h : prE l i = 0) : okL l ∧ ∃ k : Nat, i = k ∧ k < l.length := by
  unfold prE at h
  split at h
  · cases h
  · rename_i q
    split at h
    · cases h
    · rename_i q2
      refine ⟨(big_of l).1 (by simpa using q), i.toNat, ?_, ?_⟩ <;> omega
theorem prA_all (l : Its) (i : Int) : ∀ m ∈ prA l i, m.length = 32 := by
  unfold prA
  split
  · rename_i h
    obtain ⟨_, k, rfl, hk⟩ := prE_zero h
    exact wayH_all l.length (txs l) _ (txs_len l) (by omega) (by simpa using hk)
  · simp
end Go.Proofs.YtnibmkenbidnfaaDoor
