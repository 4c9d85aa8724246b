/- A place's way leads to the top, plain. -/
import Derived.Test.YtnibmkenbidnfabDoorK8
namespace Go.Proofs.YtnibmkenbidnfabDoor
open Go.RowKit
set_option linter.unusedVariables false

theorem last_one (A : List (List UInt8)) (x : List UInt8) : (A ++ [x]).getLastD [] = x := by
  rw [List.getLastD_eq_getLast?, List.getLast?_append]
  simp
theorem up_way (n : Nat) : ∀ (l : List (List UInt8)) (a : Nat), l.length = n → 1 ≤ n → a < n → upH n a (wayH l a) (hashOf (0 :: l.getD a [])) = topH l ∧ (wayH l a).length = stepsN n a := by
  induction n using Nat.strongRecOn with
  | _ n ih =>
    intro l a hln h1 ha
    by_cases h : n = 1
    · subst h
      have ha0 : a = 0 := by omega
      subst ha0
      refine ⟨?_, by rw [wayH_one l 0 hln, stepsN_one]; rfl⟩
      rw [upH_one, topH_one l hln]
      match l, hln with
      | [x], _ => rfl
    · have hk1 := splitN_lt n (by omega)
      have hk2 := splitN_pos n
      have ht := topH_more l (by omega)
      rw [hln] at ht
      by_cases hak : a < splitN n
      · have e := wayH_left l a (by omega) (by rw [hln]; exact hak)
        rw [hln] at e
        obtain ⟨i1, i2⟩ := ih (splitN n) hk1 (l.take (splitN n)) a (by simp; omega) hk2 hak
        have g : (l.take (splitN n)).getD a [] = l.getD a [] := by
          rw [List.getD_eq_getElem?_getD, List.getD_eq_getElem?_getD, List.getElem?_take, if_pos hak]
        rw [g] at i1
        refine ⟨?_, by rw [e, List.length_append, i2, stepsN_left n a (by omega) hak]; rfl⟩
        rw [e, upH_left n a _ _ (by omega) hak, List.dropLast_concat, last_one, i1, ht]
      · have e := wayH_right l a (by omega) (by rw [hln]; exact hak)
        rw [hln] at e
        obtain ⟨i1, i2⟩ := ih (n - splitN n) (by omega) (l.drop (splitN n)) (a - splitN n) (by simp; omega) (by omega) (by omega)
        have g : (l.drop (splitN n)).getD (a - splitN n) [] = l.getD a [] := by
          rw [List.getD_eq_getElem?_getD, List.getD_eq_getElem?_getD, List.getElem?_drop, show splitN n + (a - splitN n) = a by omega]
        rw [g] at i1
        refine ⟨?_, by rw [e, List.length_append, i2, stepsN_right n a (by omega) hak]; rfl⟩
        rw [e, upH_right n a _ _ (by omega) hak, List.dropLast_concat, last_one, i1, ht]
end Go.Proofs.YtnibmkenbidnfabDoor
