/- Turn and Proposer of the program. -/
import Derived.Test.YtgjhhmdpepdepaaDoorCD2
namespace Go.Proofs.YtgjhhmdpepdepaaDoor
open Go.RowKit
set_option linter.unusedVariables false

/-- So many turns. -/
def turnsN (t : Nat) (l : List Mb) : Nat → List Mb
  | 0 => l
  | k + 1 => turnL t (turnsN t l k)
/-- Who is chosen in turn k + 1. -/
def propN (t : Nat) (l : List Mb) (k : Nat) : Nat := ((turnsN t l (k + 1)).getD (best (up t (turnsN t l k))) mb0).ad
theorem turns_len (t : Nat) (l : List Mb) (k : Nat) : (turnsN t l k).length = l.length := by
  induction k with
  | zero => rfl
  | succ k ih => rw [turnsN, turn_len, ih]
theorem turns_keys (t : Nat) (l : List Mb) (k : Nat) : keys (turnsN t l k) = keys l := by
  induction k with
  | zero => rfl
  | succ k ih => rw [turnsN, keys_turn, ih]
theorem turns_in {t : Nat} {l : List Mb} (h : InR t l) (k : Nat) : InR t (turnsN t l k) := by
  induction k with
  | zero => exact h
  | succ k ih => exact ih.turn
theorem pw_le_tot (l : List Mb) : ∀ m ∈ l, m.pw ≤ tot l := by
  induction l with
  | nil => intro m hm; cases hm
  | cons x r ih =>
    intro m hm
    rcases List.mem_cons.1 hm with rfl | hm
    · simp [tot]
    · have := ih m hm
      simp [tot]
      omega
theorem sound_in (l : List Mb) (h : soundE l = 0) : InR (tot l) l := fun m hm => by
  have := (sound_ok l h).2 m hm
  exact ⟨this.1, this.2, pw_le_tot l m hm⟩
theorem weigh_rising (l : List Mb) (h : weighE l = 0) : Rising l := scan_rising l 0 (weigh_ok l h).2.2.1
theorem tot_le_top (l : List Mb) (h : weighE l = 0) : tot l ≤ 1152921504606846975 := (weigh_ok l h).2.2.2

end Go.Proofs.YtgjhhmdpepdepaaDoor

