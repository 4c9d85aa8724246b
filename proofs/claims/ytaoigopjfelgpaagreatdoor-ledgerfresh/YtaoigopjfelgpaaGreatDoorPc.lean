/- Texts in one. -/
import Derived.Test.YtaoigopjfelgpaaGreatDoorP1
import Derived.Test.YtaoigopjfelgpaaGreatDoorGb
import Derived.Test.YtaoigopjfelgpaaGreatDoorP5
import Derived.Test.YtaoigopjfelgpaaGreatDoorKa
/- The places that are shown, plain. -/
namespace Go.Proofs.YtaoigopjfelgpaaGreatDoor
open Go.RowKit
set_option linter.unusedVariables false

/-- Where a list is parted, it is parted at one place. -/
theorem parts_one {l : List Ac} {a c k : Nat} (hc : Parts l a c c) (hk : Parts l a k k) (h1 : c ≤ l.length) (h2 : k ≤ l.length) : c = k := by
  rcases Nat.lt_trichotomy c k with h | h | h
  · have h3 : c < l.length := by omega
    have x := hk.1 c _ (List.getElem?_eq_getElem h3) h
    have y := hc.2 c _ (List.getElem?_eq_getElem h3) (Nat.le_refl _)
    omega
  · exact h
  · have h3 : k < l.length := by omega
    have x := hc.1 k _ (List.getElem?_eq_getElem h3) h
    have y := hk.2 k _ (List.getElem?_eq_getElem h3) (Nat.le_refl _)
    omega
theorem has_at {l : List Ac} {a c : Nat} (hA : Asc l) (hc : Parts l a c c) (h : hasB l a = true) : ∃ m, l[c]? = some m ∧ m.ad = a := by
  rw [has_lo hA hc] at h
  cases hq : l[c]? with
  | none => rw [hq] at h; cases h
  | some m => rw [hq] at h; exact ⟨m, rfl, by simpa using h⟩
theorem no_has {l : List Ac} {a : Nat} (h : hasB l a = false) : ∀ m ∈ l, m.ad ≠ a := by
  intro m hm e
  have : hasB l a = true := List.any_eq_true.2 ⟨m, hm, by simpa using e⟩
  rw [h] at this
  cases this
/-- The first place of an address that is there is where the list is parted. -/
theorem at_place {l : List Ac} {a c : Nat} {k : Int} (hA : Asc l) (hc : Parts l a c c) (h : hasB l a = true) (hk : AtP l a k) : k = c := by
  obtain ⟨m, hm, e⟩ := has_at hA hc h
  rcases hk with ⟨_, q⟩ | ⟨j, n, rfl, hj, hn, hf⟩
  · exact absurd e (q m (List.mem_of_getElem? hm))
  · rcases Nat.lt_trichotomy j c with g | g | g
    · have := hc.1 j n hj g
      omega
    · rw [g]
    · exact absurd e (hf c m g hm)
theorem at_none {l : List Ac} {a : Nat} {k : Int} (h : hasB l a = false) (hk : AtP l a k) : k = -1 := by
  rcases hk with ⟨q, _⟩ | ⟨j, n, rfl, hj, hn, hf⟩
  · exact q
  · exact absurd hn (no_has h n (List.mem_of_getElem? hj))
theorem shN_lt {l : List Ac} {a c : Nat} (hA : Asc l) (hc : Parts l a c c) (h1 : c ≤ l.length) : ∀ k ∈ shN l a c, k < l.length := by
  intro k hk
  unfold shN at hk
  by_cases h : hasB l a = true
  · rw [if_pos h] at hk
    obtain ⟨m, hm, _⟩ := has_at hA hc h
    have := (List.getElem?_eq_some_iff.1 hm).1
    simp at hk
    omega
  · rw [if_neg h] at hk
    rcases List.mem_append.1 hk with q | q
    · split at q
      · simp at q; omega
      · cases q
    · split at q
      · simp at q; omega
      · cases q
theorem shN_len (l : List Ac) (a c : Nat) : (shN l a c).length ≤ 2 := by
  unfold shN
  split
  · simp
  · split <;> split <;> simp
end Go.Proofs.YtaoigopjfelgpaaGreatDoor


/- What was proved is verified, plain. -/
namespace Go.Proofs.YtaoigopjfelgpaaGreatDoor
open Go.RowKit
set_option linter.unusedVariables false

theorem last_one (A : List (List UInt8)) (x : List UInt8) : (A ++ [x]).getLastD [] = x := by
  rw [List.getLastD_eq_getLast?, List.getLast?_append]
  simp
theorem up_way (n : Nat) : ∀ (l : List (List UInt8)) (a : Nat), l.length = n → 1 ≤ n → a < n → upH n a (wayH l a) (hashOf (0 :: l.getD a [])) = topH l ∧ (wayH l a).length = stepsN n a := by
  induction n using Nat.strongRecOn with
  | _ n ih =>
    intro l a hln h1 ha
    by_cases h : n = 1
    · subst h
      have ha0 : a = 0 := by omega
      subst ha0
      refine ⟨?_, by rw [wayH_one l 0 hln, stepsN_one]; rfl⟩
      rw [upH_one, topH_one l hln]
      match l, hln with
      | [x], _ => rfl
    · have hk1 := splitN_lt n (by omega)
      have hk2 := splitN_pos n
      have ht := topH_more l (by omega)
      rw [hln] at ht
      by_cases hak : a < splitN n
      · have e := wayH_left l a (by omega) (by rw [hln]; exact hak)
        rw [hln] at e
        obtain ⟨i1, i2⟩ := ih (splitN n) hk1 (l.take (splitN n)) a (by simp; omega) hk2 hak
        have g : (l.take (splitN n)).getD a [] = l.getD a [] := by
          rw [List.getD_eq_getElem?_getD, List.getD_eq_getElem?_getD, List.getElem?_take, if_pos hak]
        rw [g] at i1
        refine ⟨?_, by rw [e, List.length_append, i2, stepsN_left n a (by omega) hak]; rfl⟩
        rw [e, upH_left n a _ _ (by omega) hak, List.dropLast_concat, last_one, i1, ht]
      · have e := wayH_right l a (by omega) (by rw [hln]; exact hak)
        rw [hln] at e
        obtain ⟨i1, i2⟩ := ih (n - splitN n) (by omega) (l.drop (splitN n)) (a - splitN n) (by simp; omega) (by omega) (by omega)
        have g : (l.drop (splitN n)).getD (a - splitN n) [] = l.getD a [] := by
          rw [List.getD_eq_getElem?_getD, List.getD_eq_getElem?_getD, List.getElem?_drop, show splitN n + (a - splitN n) = a by omega]
        rw [g] at i1
        refine ⟨?_, by rw [e, List.length_append, i2, stepsN_right n a (by omega) hak]; rfl⟩
        rw [e, upH_right n a _ _ (by omega) hak, List.dropLast_concat, last_one, i1, ht]
/-- The proof of an account's form. -/
def pfOf (l : List Ac) (k : Nat) : Pf := ⟨l.length, k, wayH (forms l) k⟩
theorem forms_len (l : List Ac) : (forms l).length = l.length := by simp [forms]
theorem path_made {l : List Ac} {k : Nat} {m : Ac} (hn : l.length ≤ 65536) (hk : l[k]? = some m) : pathE (pfOf l k).t (pfOf l k).i (pfOf l k).A.length 33 = 0 ∧ pathH (pfOf l k).t (pfOf l k).i (pfOf l k).A (formB m) = acR l := by
  have hlt := (List.getElem?_eq_some_iff.1 hk).1
  obtain ⟨u1, u2⟩ := up_way l.length (forms l) k (forms_len l) (by omega) hlt
  have e : (forms l).getD k [] = formB m := by
    rw [List.getD_eq_getElem?_getD]
    unfold forms
    rw [List.getElem?_map, hk]
    rfl
  rw [e] at u1
  have hp : pathE (l.length : Int) (k : Int) (wayH (forms l) k).length 33 = 0 := by
    unfold pathE
    rw [if_neg (by omega), if_pos]
    rw [fitsB_in l.length k _ (by omega) hn hlt, u2]
    simp
  refine ⟨hp, ?_⟩
  show pathH (l.length : Int) (k : Int) (wayH (forms l) k) (formB m) = acR l
  unfold pathH
  rw [formB_len, if_pos hp]
  show hashOf (2 :: (numE (l.length : Int).toNat ++ upH (l.length : Int).toNat (k : Int).toNat (wayH (forms l) k) (hashOf (0 :: formB m)))) = acR l
  rw [Int.toNat_natCast, Int.toNat_natCast, u1]
  unfold acR rtT
  rw [forms_len]
theorem tp_made {l : List Ac} {k : Nat} {m : Ac} (R : List UInt8) (hn : l.length ≤ 65536) (hk : l[k]? = some m) : tpE (inH (acR l) R) R (pfOf l k) m = 0 ∧ tpH (inH (acR l) R) R (pfOf l k) m = acR l := by
  obtain ⟨p1, p2⟩ := path_made hn hk
  have e : tpE (inH (acR l) R) R (pfOf l k) m = 0 := by
    unfold tpE
    rw [if_pos p1, p2, if_pos (by simp)]
  exact ⟨e, by unfold tpH; rw [if_pos e, p2]⟩
theorem ver_made {l : List Ac} {k : Nat} {m : Ac} (hn : l.length ≤ 65536) (hk : l[k]? = some m) : verE (acR l) (pfOf l k).t (pfOf l k).i (pfOf l k).A (formB m) = 0 := by
  obtain ⟨p1, p2⟩ := path_made hn hk
  unfold verE
  rw [formB_len, if_neg (by rw [p1]; decide), if_pos p2]
end Go.Proofs.YtaoigopjfelgpaaGreatDoor

