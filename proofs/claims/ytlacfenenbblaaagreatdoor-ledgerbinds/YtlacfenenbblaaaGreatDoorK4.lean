/- Lists; the walk of DigestLists. -/
import Derived.Test.YtlacfenenbblaaaGreatDoorK2
namespace Go.Proofs.YtlacfenenbblaaaGreatDoor
open Go.RowKit
set_option linter.unusedVariables false

theorem numE_inj {n m : Nat} (hn : n ≤ 65536) (hm : m ≤ 65536) (h : numE n = numE m) : n = m := by
  have at' : ∀ k, k < 8 → numAt n k = numAt m k := fun k hk => by
    have := congrArg (·[k]?) h
    simpa [numE, hk] using this
  have v : ∀ k, k < 8 → ((n : Int) / 2 ^ (8 * k)) % 256 = ((m : Int) / 2 ^ (8 * k)) % 256 := fun k hk => by
    have := congrArg (fun b => ((UInt8.toNat b : Nat) : Int)) (at' k hk)
    simp only [numAt, byteOf_val] at this
    exact this
  have v0 := v 0 (by omega)
  have v1 := v 1 (by omega)
  have v2 := v 2 (by omega)
  simp at v0 v1 v2
  omega
theorem rootT_inj {l m : Its} (hl : okL l) (hm : okL m) (h : rootT l = rootT m) : l.length = m.length ∧ topH (txs l) = topH (txs m) := by
  unfold rootT at h
  simp only [List.cons.injEq, true_and] at h
  obtain ⟨h1, h2⟩ := List.append_inj h (by rw [numE_len, numE_len])
  exact ⟨numE_inj hl.1 hm.1 h1, h2⟩
theorem rootT_len (l : Its) : (rootT l).length = 41 := by simp [rootT, numE_len, topH_len]
theorem clB_root {A B : List UInt8} (hne : (A == B) = false) (h : hashOf A = hashOf B) : clB A B = true := by
  unfold clB
  rw [hne, h]
  simp
theorem rootE_zero {l : Its} (h : rootE l = 0) : okL l ∧ rootH l = hashOf (rootT l) := by
  have hb : bigOf (txs l) = false := by
    cases hq : bigOf (txs l) with
    | false => rfl
    | true =>
      unfold rootE at h
      rw [if_pos hq] at h
      cases h
  exact ⟨(big_of l).1 hb, if_neg (by rw [hb]; decide)⟩
end Go.Proofs.YtlacfenenbblaaaGreatDoor

