/- halves. -/
import Derived.Test.YtlacfenenbblaaaGreatDoorK1
namespace Go.Proofs.YtlacfenenbblaaaGreatDoor
open Go.RowKit
set_option linter.unusedVariables false

theorem txs_take (l : Its) (k : Nat) : txs (l.take k) = (txs l).take k := by simp [txs, List.map_take]
theorem txs_drop (l : Its) (k : Nat) : txs (l.drop k) = (txs l).drop k := by simp [txs, List.map_drop]
theorem okL.take {l : Its} (h : okL l) (k : Nat) : okL (l.take k) := ⟨by have := h.1; simp; omega, fun x hx => h.2 x (List.mem_of_mem_take hx)⟩
theorem okL.drop {l : Its} (h : okL l) (k : Nat) : okL (l.drop k) := ⟨by have := h.1; simp; omega, fun x hx => h.2 x (List.mem_of_mem_drop hx)⟩
theorem top_split (l : Its) (h : 2 ≤ l.length) : topH (txs l) = hashOf (1 :: (topH (txs (l.take (splitN l.length))) ++ topH (txs (l.drop (splitN l.length))))) := by
  have := topH_more (txs l) (by rw [txs_len]; exact h)
  rw [this, txs_len, txs_take, txs_drop]
theorem app32 {A B C D : List UInt8} (ha : A.length = C.length) (h : A ++ B = C ++ D) : A = C ∧ B = D := List.append_inj h ha
theorem clB_inner {L R X Y : List UInt8} (h1 : L.length = X.length) (hne : ¬ (L = X ∧ R = Y)) (h : hashOf (1 :: (L ++ R)) = hashOf (1 :: (X ++ Y))) : clB (1 :: (L ++ R)) (1 :: (X ++ Y)) = true := by
  unfold clB
  have e : ((1 :: (L ++ R)) == (1 :: (X ++ Y))) = false := by
    rw [beq_eq_false_iff_ne]
    intro q
    simp only [List.cons.injEq, true_and] at q
    exact hne (app32 h1 q)
  rw [e, h]
  simp
theorem clB_leaf {x y : List UInt8} (hne : ¬ x = y) (h : hashOf (0 :: x) = hashOf (0 :: y)) : clB (0 :: x) (0 :: y) = true := by
  unfold clB
  have e : ((0 :: x) == (0 :: y)) = false := by
    rw [beq_eq_false_iff_ne]
    intro q
    simp only [List.cons.injEq, true_and] at q
    exact hne q
  rw [e, h]
  simp
/-- The same, or two unlike texts with one digest. -/
def Sc (P : Prop) (w : World) (e : Ending) (w' : World) : Prop := ∃ s c : Bool, e = .returned (.tuple #[.bool s, .bool c]) ∧ ((s || c) = true ∧ (s = true → P)) ∧ Turn no w w'
theorem Sc.mk {P : Prop} {w w' : World} {e : Ending} (s c : Bool) (h : e = .returned (.tuple #[.bool s, .bool c])) (h2 : (s || c) = true ∧ (s = true → P)) (t : Turn no w w') : Sc P w e w' := ⟨s, c, h, h2, t⟩
theorem Sc.imp {P P' : Prop} {w w' : World} {e : Ending} (h : Sc P w e w') (f : P → P') : Sc P' w e w' := by
  obtain ⟨s, c, h1, ⟨h2, h3⟩, t⟩ := h
  exact ⟨s, c, h1, ⟨h2, fun q => f (h3 q)⟩, t⟩
end Go.Proofs.YtlacfenenbblaaaGreatDoor

