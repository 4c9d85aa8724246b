/- What was proved is verified, plain. -/
import Derived.Test.YtmihgjdodgmipaaGreatDoorP5
import Derived.Test.YtmihgjdodgmipaaGreatDoorP9
import Derived.Test.YtmihgjdodgmipaaGreatDoorKa
import Derived.Test.YtmihgjdodgmipaaGreatDoorY6
namespace Go.Proofs.YtmihgjdodgmipaaGreatDoor
open Go.RowKit
set_option linter.unusedVariables false

theorem last_one (A : List (List UInt8)) (x : List UInt8) : (A ++ [x]).getLastD [] = x := by
  rw [List.getLastD_eq_getLast?, List.getLast?_append]
  simp
theorem up_way (n : Nat) : ∀ (l : List (List UInt8)) (a : Nat), l.length = n → 1 ≤ n → a < n → upH n a (wayH l a) (hashOf (0 :: l.getD a [])) = topH l ∧ (wayH l a).length = stepsN n a := by
  induction n using Nat.strongRecOn with
  | _ n ih =>
    intro l a hln h1 ha
    by_cases h : n = 1
    · subst h
      have ha0 : a = 0 := by omega
      subst ha0
      refine ⟨?_, by rw [wayH_one l 0 hln, stepsN_one]; rfl⟩
      rw [upH_one, topH_one l hln]
      match l, hln with
      | [x], _ => rfl
    · have hk1 := splitN_lt n (by omega)
      have hk2 := splitN_pos n
      have ht := topH_more l (by omega)
      rw [hln] at ht
      by_cases hak : a < splitN n
      · have e := wayH_left l a (by omega) (by rw [hln]; exact hak)
        rw [hln] at e
        obtain ⟨i1, i2⟩ := ih (splitN n) hk1 (l.take (splitN n)) a (by simp; omega) hk2 hak
        have g : (l.take (splitN n)).getD a [] = l.getD a [] := by
          rw [List.getD_eq_getElem?_getD, List.getD_eq_getElem?_getD, List.getElem?_take, if_pos hak]
        rw [g] at i1
        refine ⟨?_, by rw [e, List.length_append, i2, stepsN_left n a (by omega) hak]; rfl⟩
        rw [e, upH_left n a _ _ (by omega) hak, List.dropLast_concat, last_one, i1, ht]
      · have e := wayH_right l a (by omega) (by rw [hln]; exact hak)
        rw [hln] at e
        obtain ⟨i1, i2⟩ := ih (n - splitN n) (by omega) (l.drop (splitN n)) (a - splitN n) (by simp; omega) (by omega) (by omega)
        have g : (l.drop (splitN n)).getD (a - splitN n) [] = l.getD a [] := by
          rw [List.getD_eq_getElem?_getD, List.getD_eq_getElem?_getD, List.getElem?_drop, show splitN n + (a - splitN n) = a by omega]
        rw [g] at i1
        refine ⟨?_, by rw [e, List.length_append, i2, stepsN_right n a (by omega) hak]; rfl⟩
        rw [e, upH_right n a _ _ (by omega) hak, List.dropLast_concat, last_one, i1, ht]
/-- The proof of an account's form. -/
def pfOf (l : List Ac) (k : Nat) : Pf := ⟨l.length, k, wayH (forms l) k⟩
theorem forms_len (l : List Ac) : (forms l).length = l.length := by simp [forms]
theorem path_made {l : List Ac} {k : Nat} {m : Ac} (hn : l.length ≤ 65536) (hk : l[k]? = some m) : pathE (pfOf l k).t (pfOf l k).i (pfOf l k).A.length 33 = 0 ∧ pathH (pfOf l k).t (pfOf l k).i (pfOf l k).A (formB m) = acR l := by
  have hlt := (List.getElem?_eq_some_iff.1 hk).1
  obtain ⟨u1, u2⟩ := up_way l.length (forms l) k (forms_len l) (by omega) hlt
  have e : (forms l).getD k [] = formB m := by
    rw [List.getD_eq_getElem?_getD]
    unfold forms
    rw [List.getElem?_map, hk]
    rfl
  rw [e] at u1
  have hp : pathE (l.length : Int) (k : Int) (wayH (forms l) k).length 33 = 0 := by
    unfold pathE
    rw [if_neg (by omega), if_pos]
    rw [fitsB_in l.length k _ (by omega) hn hlt, u2]
    simp
  refine ⟨hp, ?_⟩
  show pathH (l.length : Int) (k : Int) (wayH (forms l) k) (formB m) = acR l
  unfold pathH
  rw [formB_len, if_pos hp]
  show hashOf (2 :: (numE (l.length : Int).toNat ++ upH (l.length : Int).toNat (k : Int).toNat (wayH (forms l) k) (hashOf (0 :: formB m)))) = acR l
  rw [Int.toNat_natCast, Int.toNat_natCast, u1]
  unfold acR rtT
  rw [forms_len]
theorem tp_made {l : List Ac} {k : Nat} {m : Ac} (R : List UInt8) (hn : l.length ≤ 65536) (hk : l[k]? = some m) : tpE (inH (acR l) R) R (pfOf l k) m = 0 ∧ tpH (inH (acR l) R) R (pfOf l k) m = acR l := by
  obtain ⟨p1, p2⟩ := path_made hn hk
  have e : tpE (inH (acR l) R) R (pfOf l k) m = 0 := by
    unfold tpE
    rw [if_pos p1, p2, if_pos (by simp)]
  exact ⟨e, by unfold tpH; rw [if_pos e, p2]⟩
theorem ver_made {l : List Ac} {k : Nat} {m : Ac} (hn : l.length ≤ 65536) (hk : l[k]? = some m) : verE (acR l) (pfOf l k).t (pfOf l k).i (pfOf l k).A (formB m) = 0 := by
  obtain ⟨p1, p2⟩ := path_made hn hk
  unfold verE
  rw [formB_len, if_neg (by rw [p1]; decide), if_pos p2]
end Go.Proofs.YtmihgjdodgmipaaGreatDoor
