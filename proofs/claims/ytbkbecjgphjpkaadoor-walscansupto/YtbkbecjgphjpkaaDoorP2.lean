/- P7.1 to P7.4, plain: lists of records. -/
import Derived.Test.YtbkbecjgphjpkaaDoorP1
namespace Go.Proofs.YtbkbecjgphjpkaaDoor
open Go.RowKit
set_option linter.unusedVariables false

theorem cat_cons (r : List UInt8) (l : List (List UInt8)) : cat (r :: l) = frameB r ++ cat l := by simp [cat]
theorem ce_cons (r : List UInt8) (l : List (List UInt8)) (k : Nat) : ce (r :: l) (k + 1) = r.length + 13 + ce l k := by
  rw [ce, List.take_succ_cons, cat_cons, List.length_append, frameB_len]
  rfl
theorem upto_torn : ∀ (l : List (List UInt8)) (hl : ∀ r ∈ l, r.length ≤ 262400) (n : Nat), Upto ((cat l).take n) l n
  | [], _, n, k, hk, h1, h2 => by
    have : k = 0 := by simpa using hk
    subst this
    simp [cat, scan_nil, ce]
  | r :: l, hl, n, 0, hk, h1, h2 => by
    have hr := hl r (List.mem_cons_self ..)
    have h2 : n < ce (r :: l) 1 := by
      rcases h2 with q | q
      · simp at q
      · exact q
    rw [ce_cons, ce_zero] at h2
    rw [cat_cons, List.take_append_of_le_length (by rw [frameB_len]; omega), scan_none (whole_torn r hr n (by omega)), ce_zero]
    rfl
  | r :: l, hl, n, k + 1, hk, h1, h2 => by
    have hr := hl r (List.mem_cons_self ..)
    rw [ce_cons] at h1 h2
    have ih := upto_torn l (fun x hx => hl x (List.mem_cons_of_mem _ hx)) (n - (r.length + 13)) k (by simpa using hk) (by omega) (by
      rcases h2 with q | q
      · exact Or.inl (by simpa using q)
      · exact Or.inr (by omega))
    rw [cat_cons, List.take_append, List.take_of_length_le (by rw [frameB_len]; omega), frameB_len, scan_frame r _ hr, ih, ce_cons]
    rfl
theorem upto_spoilt : ∀ (l : List (List UInt8)) (hl : ∀ r ∈ l, r.length ≤ 262400) (p : Nat) (hp : p < (cat l).length) (v : UInt8) (hv : (cat l)[p]? ≠ some v), Upto ((cat l).set p v) l p
  | [], _, p, hp, _, _, _, _, _, _ => by simp [cat] at hp
  | r :: l, hl, p, hp, v, hv, 0, hk, h1, h2 => by
    have hr := hl r (List.mem_cons_self ..)
    have h2 : p < ce (r :: l) 1 := by
      rcases h2 with q | q
      · simp at q
      · exact q
    rw [ce_cons, ce_zero] at h2
    rw [cat_cons, List.getElem?_append_left (by rw [frameB_len]; omega)] at hv
    rw [cat_cons, List.set_append, if_pos (by rw [frameB_len]; omega), scan_none (whole_spoilt r hr p (by omega) v hv _), ce_zero]
    rfl
  | r :: l, hl, p, hp, v, hv, k + 1, hk, h1, h2 => by
    have hr := hl r (List.mem_cons_self ..)
    rw [ce_cons] at h1 h2
    rw [cat_cons, List.getElem?_append_right (by rw [frameB_len]; omega), frameB_len] at hv
    rw [cat_cons, List.length_append, frameB_len] at hp
    have ih := upto_spoilt l (fun x hx => hl x (List.mem_cons_of_mem _ hx)) (p - (r.length + 13)) (by omega) v hv k (by simpa using hk) (by omega) (by
      rcases h2 with q | q
      · exact Or.inl (by simpa using q)
      · exact Or.inr (by omega))
    rw [cat_cons, List.set_append, if_neg (by rw [frameB_len]; omega), frameB_len, scan_frame r _ hr, ih, ce_cons]
    rfl
theorem scan_cat_tail : ∀ (l : List (List UInt8)) (hl : ∀ r ∈ l, r.length ≤ 262400) (t : List UInt8), scan (cat l ++ t) = (l ++ (scan t).1, (cat l).length + (scan t).2)
  | [], _, t => by simp [cat]
  | r :: l, hl, t => by
    rw [cat_cons, List.append_assoc, scan_frame r _ (hl r (List.mem_cons_self ..)), scan_cat_tail l (fun x hx => hl x (List.mem_cons_of_mem _ hx)) t, List.length_append, frameB_len]
    simp [Nat.add_assoc]
theorem scan_cat (l : List (List UInt8)) (hl : ∀ r ∈ l, r.length ≤ 262400) : scan (cat l) = (l, (cat l).length) := by
  have := scan_cat_tail l hl []
  simpa [scan_nil] using this
theorem upto_all (l : List (List UInt8)) (hl : ∀ r ∈ l, r.length ≤ 262400) : Upto (cat l) l (cat l).length := by
  have := upto_torn l hl (cat l).length
  rwa [List.take_length] at this

/-- P7.4: what is whole is a frame. -/
theorem whole_inv {b : List UInt8} {n : Nat} (h : whole b = some n) : b = frameB ((b.take (n + 9)).drop 9) ++ b.drop (n + 13) ∧ ((b.take (n + 9)).drop 9).length = n ∧ n ≤ 262400 := by
  obtain ⟨h9, h0, hc, ht, hn, hl, hd⟩ := whole_some h
  have e1 : (b.take 5).take 1 = leB 167 1 := by
    rw [List.take_take, show min 1 5 = 1 from rfl]
    rw [List.getD_eq_getElem?_getD, List.getElem?_eq_getElem (by omega), Option.getD_some] at h0
    rw [show (1 : Nat) = 0 + 1 from rfl, List.take_succ_eq_append_getElem (show 0 < b.length by omega), h0]
    rfl
  have e2 : (b.take 5).drop 1 = leB n 4 := by
    rw [← leB_lsum ((b.take 5).drop 1) 4 (by simp; omega)]
    rw [show lsum ((b.take 5).drop 1) 4 = told b from rfl, ht]
  have e3 : b.take 5 = headB n := by
    rw [← List.take_append_drop 1 (b.take 5), e1, e2]
    rfl
  have hc' : lsum ((b.take 9).drop 5) 4 = crc (headB n) := by
    unfold checkedB at hc
    rw [List.length_take, Nat.min_eq_left h9, List.take_take] at hc
    rw [← e3]
    simpa using hc
  have e4 : (b.take 9).drop 5 = leB (crc (headB n)) 4 := by
    rw [← leB_lsum ((b.take 9).drop 5) 4 (by simp; omega), hc']
  have e5 : b.take 9 = headB n ++ leB (crc (headB n)) 4 := by
    rw [← List.take_append_drop 5 (b.take 9), e4, List.take_take, show min 5 9 = 5 from rfl, e3]
  have hXl : ((b.take (n + 13)).drop 9).length = n + 4 := by simp; omega
  have e6 : ((b.take (n + 13)).drop 9).take n = (b.take (n + 9)).drop 9 := by
    rw [List.take_drop, List.take_take, show min (9 + n) (n + 13) = n + 9 by omega]
  have hd' : lsum (((b.take (n + 13)).drop 9).drop n) 4 = crc ((b.take (n + 9)).drop 9) := by
    unfold checkedB at hd
    rw [hXl, Nat.add_sub_cancel, e6] at hd
    simpa using hd
  have e7 : (b.take (n + 13)).drop 9 = (b.take (n + 9)).drop 9 ++ leB (crc ((b.take (n + 9)).drop 9)) 4 := by
    rw [← List.take_append_drop n ((b.take (n + 13)).drop 9), e6, ← hd', leB_lsum _ 4 (by rw [List.length_drop, hXl]; omega)]
  have hrl : ((b.take (n + 9)).drop 9).length = n := by simp; omega
  refine ⟨?_, hrl, hn⟩
  have e8 : b.take (n + 13) = frameB ((b.take (n + 9)).drop 9) := by
    rw [← List.take_append_drop 9 (b.take (n + 13)), e7, List.take_take, show min 9 (n + 13) = 9 by omega, e5, frameB, hrl]
    simp
  rw [← e8, List.take_append_drop]
theorem scan_stands : ∀ (f : Nat) (b : List UInt8), b.length < f → (∀ r ∈ (scan b).1, r.length ≤ 262400) ∧ (scan b).2 ≤ b.length ∧ cat (scan b).1 = b.take (scan b).2
  | 0, _, h => by omega
  | f + 1, b, h => by
    cases hw : whole b with
    | none => rw [scan_none hw]; simp [cat]
    | some n =>
      obtain ⟨e, hr, hn⟩ := whole_inv hw
      have hl := (whole_some hw).2.2.2.2.2.1
      obtain ⟨i1, i2, i3⟩ := scan_stands f (b.drop (n + 13)) (by simp; omega)
      rw [scan_some hw]
      refine ⟨fun r q => ?_, ?_, ?_⟩
      · rcases List.mem_cons.1 q with q | q
        · rw [q, hr]; exact hn
        · exact i1 r q
      · simp at i2 ⊢; omega
      · simp only
        rw [cat_cons, i3]
        have hfl : (frameB ((b.take (n + 9)).drop 9)).length = n + 13 := by rw [frameB_len, hr]
        have : b.take (n + 13 + (scan (b.drop (n + 13))).2) = b.take (n + 13) ++ (b.drop (n + 13)).take (scan (b.drop (n + 13))).2 := List.take_add
        rw [this]
        congr 1
        have e' := congrArg (List.take (n + 13)) e
        rw [List.take_left' hfl] at e'
        exact e'.symm
end Go.Proofs.YtbkbecjgphjpkaaDoor
