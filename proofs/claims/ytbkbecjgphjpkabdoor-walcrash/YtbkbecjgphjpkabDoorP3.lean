/- P7.1 to P7.4, plain. -/
import Derived.Test.YtbkbecjgphjpkabDoorK4
namespace Go.Proofs.YtbkbecjgphjpkabDoor
open Go.RowKit
set_option linter.unusedVariables false

def cat (l : List (List UInt8)) : List UInt8 := l.flatMap frameB
theorem cat_snoc (l : List (List UInt8)) (r : List UInt8) : cat (l ++ [r]) = cat l ++ frameB r := by simp [cat]
theorem cat_le {l m : List (List UInt8)} (h : List.Sublist l m) : (cat l).length ≤ (cat m).length := by
  induction h with
  | slnil => simp
  | cons a _ ih => simp only [cat, List.flatMap_cons, List.length_append] at ih ⊢; omega
  | cons_cons a _ ih => simp only [cat, List.flatMap_cons, List.length_append] at ih ⊢; omega
theorem cat_count (l : List (List UInt8)) : l.length * 13 ≤ (cat l).length := by
  induction l with
  | nil => simp
  | cons a r ih => simp only [cat, List.flatMap_cons, List.length_append, List.length_cons, frameB_len] at ih ⊢; omega
def ce (l : List (List UInt8)) (k : Nat) : Nat := (cat (l.take k)).length
theorem ce_zero (l : List (List UInt8)) : ce l 0 = 0 := by simp [ce, cat]
theorem ce_le (l : List (List UInt8)) (k : Nat) : ce l k ≤ (cat l).length := cat_le (List.take_sublist _ _)
def Upto (bs : List UInt8) (l : List (List UInt8)) (n : Nat) : Prop := ∀ k, k ≤ l.length → ce l k ≤ n → (k = l.length ∨ n < ce l (k + 1)) → scan bs = (l.take k, ce l k)



theorem lsum_inj (l m : List UInt8) : ∀ k, k ≤ l.length → k ≤ m.length → lsum l k = lsum m k → l.take k = m.take k
  | 0, _, _, _ => by simp
  | k + 1, hl, hm, h => by
    have a := lsum_lt l k
    have b := lsum_lt m k
    rw [lsum, lsum] at h
    have h1 : lsum l k = lsum m k := by
      have := congrArg (· % 256 ^ k) h
      simpa [Nat.add_mul_mod_self_right, Nat.mod_eq_of_lt a, Nat.mod_eq_of_lt b] using this
    have h2 : (l.getD k 0).toNat = (m.getD k 0).toNat := by
      rw [h1] at h
      have h3 : (l.getD k 0).toNat * 256 ^ k = (m.getD k 0).toNat * 256 ^ k := by omega
      exact Nat.eq_of_mul_eq_mul_right (Nat.pow_pos (by omega)) h3
    have ih := lsum_inj l m k (by omega) (by omega) h1
    have h4 := UInt8.toNat_inj.1 h2
    rw [List.take_succ_eq_append_getElem (by omega), List.take_succ_eq_append_getElem (by omega), ih]
    simp only [List.getD_eq_getElem?_getD, List.getElem?_eq_getElem (show k < l.length by omega), List.getElem?_eq_getElem (show k < m.length by omega), Option.getD_some] at h4
    rw [h4]
theorem lsum_leB (n K : Nat) (t : List UInt8) : ∀ k, k ≤ K → lsum (leB n K ++ t) k = n % 256 ^ k
  | 0, _ => by simp [lsum, Nat.mod_one]
  | k + 1, h => by
    rw [lsum, lsum_leB n K t k (by omega), List.getD_eq_getElem?_getD, List.getElem?_append_left (by rw [leB_length]; omega)]
    have : (leB n K)[k]? = some (UInt8.ofNat (n / 256 ^ k)) := by simp [leB, show k < K by omega]
    rw [this, Option.getD_some, UInt8.toNat_ofNat', Nat.mod_pow_succ (b := 256), Nat.mul_comm (256 ^ k)]
theorem lsum_take (l : List UInt8) (m : Nat) : ∀ k, k ≤ m → lsum (l.take m) k = lsum l k
  | 0, _ => rfl
  | k + 1, h => by
    rw [lsum, lsum, lsum_take l m k (by omega), List.getD_eq_getElem?_getD, List.getD_eq_getElem?_getD, List.getElem?_take, if_pos (by omega)]
theorem leB_lsum (l : List UInt8) (k : Nat) (h : l.length = k) : leB (lsum l k) k = l := by
  have h1 := lsum_leB (lsum l k) k [] k (Nat.le_refl _)
  rw [List.append_nil, Nat.mod_eq_of_lt (lsum_lt l k)] at h1
  have := lsum_inj _ _ k (by rw [leB_length]; exact Nat.le_refl _) (by omega) h1
  rw [List.take_of_length_le (by rw [leB_length]; exact Nat.le_refl _), List.take_of_length_le (by omega)] at this
  exact this
theorem lsum_crc (a t : List UInt8) : lsum (leB (crc a) 4 ++ t) 4 = crc a := by
  rw [lsum_leB _ _ _ 4 (Nat.le_refl _)]
  exact Nat.mod_eq_of_lt (crc_lt a)

theorem checked_app (a c : List UInt8) (hc : c.length = 4) : checkedB (a ++ c) = (lsum c 4 == crc a) := by
  unfold checkedB
  rw [List.length_append, hc, Nat.add_sub_cancel, List.drop_left, List.take_left]

section
variable {H C r D t : List UInt8}
theorem whole_head (hH : H.length = 5) (hC : C.length = 4) (h : H.getD 0 0 ≠ 167 ∨ lsum C 4 ≠ crc H) : whole (H ++ (C ++ t)) = none := by
  have e1 : (H ++ (C ++ t)).take 9 = H ++ C := by rw [← List.append_assoc, List.take_left' (by simp [hH, hC])]
  have e0 : (H ++ (C ++ t)).getD 0 0 = H.getD 0 0 := by rw [List.getD_eq_getElem?_getD, List.getElem?_append_left (by omega), List.getD_eq_getElem?_getD]
  unfold whole
  rw [e1, e0, checked_app _ _ hC]
  split
  · rfl
  · split
    · rfl
    · split
      · rfl
      · rename_i h1 h2 h3
        rcases h with h | h
        · exact absurd h h2
        · exact absurd (beq_eq_false_iff_ne.2 h) h3
theorem told_head (hH : H.length = 5) : told (H ++ t) = lsum (H.drop 1) 4 := by
  unfold told
  rw [List.take_left' hH]
theorem whole_short (hH : H.length = 5) (hC : C.length = 4) (h : t.length < lsum (H.drop 1) 4 + 4) : whole (H ++ (C ++ t)) = none := by
  unfold whole
  repeat' split
  all_goals try rfl
  rename_i h1 h2 h3 h4 h5 h6
  have e := told_head (t := C ++ t) hH
  have l : (H ++ (C ++ t)).length = t.length + 9 := by rw [List.length_append, List.length_append, hH, hC]; omega
  omega
theorem whole_full (hH : H.length = 5) (hC : C.length = 4) (hD : D.length = 4) (hn : lsum (H.drop 1) 4 = r.length) (h0 : H.getD 0 0 = 167) (h1 : lsum C 4 = crc H) (h2 : r.length ≤ 262400) :
    whole (H ++ (C ++ (r ++ (D ++ t)))) = if lsum D 4 = crc r then some r.length else none := by
  have e1 : (H ++ (C ++ (r ++ (D ++ t)))).take 9 = H ++ C := by rw [← List.append_assoc, List.take_left' (by simp [hH, hC])]
  have e0 : (H ++ (C ++ (r ++ (D ++ t)))).getD 0 0 = H.getD 0 0 := by rw [List.getD_eq_getElem?_getD, List.getElem?_append_left (by omega), List.getD_eq_getElem?_getD]
  have e2 : told (H ++ (C ++ (r ++ (D ++ t)))) = r.length := by rw [told_head hH, hn]
  have e3 : ((H ++ (C ++ (r ++ (D ++ t)))).take (r.length + 13)).drop 9 = r ++ D := by
    have : H ++ (C ++ (r ++ (D ++ t))) = (H ++ C) ++ ((r ++ D) ++ t) := by simp
    rw [this, ← List.append_assoc (H ++ C), List.take_left' (by simp [hH, hC, hD]; omega), List.drop_left' (by simp [hH, hC])]
  unfold whole
  rw [e2, e3, e1, e0, checked_app _ _ hC, checked_app _ _ hD, if_neg (by simp [hH, hC]; omega), if_neg (fun q => q h0), if_neg (by simp [h1]), if_neg (by omega), if_neg (by simp [hH, hC, hD]; omega)]
  by_cases q : lsum D 4 = crc r
  · rw [if_neg (by simp [q]), if_pos q]
  · rw [if_pos (by simp [q]), if_neg q]
end

theorem headB_len (n : Nat) : (headB n).length = 5 := by simp [headB, leB_length]
theorem headB_0 (n : Nat) : (headB n).getD 0 0 = 167 := by
  rw [headB, List.getD_eq_getElem?_getD, List.getElem?_append_left (by rw [leB_length]; omega)]
  rfl
theorem headB_n (n : Nat) (h : n ≤ 262400) : lsum ((headB n).drop 1) 4 = n := by
  rw [headB, List.drop_left' (leB_length _ _)]
  have := lsum_leB n 4 [] 4 (Nat.le_refl _)
  rw [List.append_nil] at this
  rw [this]
  exact Nat.mod_eq_of_lt (by omega)
theorem lsum_crc' (a : List UInt8) : lsum (leB (crc a) 4) 4 = crc a := by have := lsum_crc a []; rwa [List.append_nil] at this
theorem frameB_parts (r t : List UInt8) : frameB r ++ t = headB r.length ++ (leB (crc (headB r.length)) 4 ++ (r ++ (leB (crc r) 4 ++ t))) := by simp [frameB]
theorem whole_frame (r t : List UInt8) (h : r.length ≤ 262400) : whole (frameB r ++ t) = some r.length := by
  rw [frameB_parts, whole_full (headB_len _) (leB_length _ _) (leB_length _ _) (headB_n _ h) (headB_0 _) (lsum_crc' _) h, if_pos (lsum_crc' _)]
/-- P7.1: the first frame. -/
theorem scan_frame (r t : List UInt8) (h : r.length ≤ 262400) : scan (frameB r ++ t) = (r :: (scan t).1, r.length + 13 + (scan t).2) := by
  rw [scan_some (whole_frame r t h)]
  have e1 : (frameB r ++ t).drop (r.length + 13) = t := List.drop_left' (frameB_len r)
  have e2 : ((frameB r ++ t).take (r.length + 9)).drop 9 = r := by
    rw [frameB_parts]
    have : headB r.length ++ (leB (crc (headB r.length)) 4 ++ (r ++ (leB (crc r) 4 ++ t))) = (headB r.length ++ leB (crc (headB r.length)) 4) ++ (r ++ (leB (crc r) 4 ++ t)) := by simp
    rw [this, ← List.append_assoc _ r, List.take_left' (by simp [headB_len, leB_length]; omega), List.drop_left' (by simp [headB_len, leB_length])]
  rw [e1, e2]
theorem scan_nil : scan [] = ([], 0) := rfl
/-- P7.2: a torn frame is none. -/
theorem whole_torn (r : List UInt8) (h : r.length ≤ 262400) (n : Nat) (hn : n < r.length + 13) : whole ((frameB r).take n) = none := by
  by_cases h9 : n < 9
  · unfold whole
    rw [if_pos (by simp [frameB_len]; omega)]
  · have e : (frameB r).take n = headB r.length ++ (leB (crc (headB r.length)) 4 ++ (r ++ leB (crc r) 4).take (n - 9)) := by
      have := frameB_parts r []
      rw [List.append_nil, List.append_nil] at this
      rw [this, ← List.append_assoc, List.take_append, List.take_of_length_le (by simp [headB_len, leB_length]; omega), List.append_assoc]
      simp [headB_len, leB_length]
    rw [e]
    exact whole_short (headB_len _) (leB_length _ _) (by rw [headB_n _ h]; simp [leB_length]; omega)
/-- P7.3: a frame with one byte changed is none. -/
theorem set_ne_lsum (l : List UInt8) (hl : l.length = 4) (k : Nat) (hk : k < 4) (v : UInt8) (hv : l[k]? ≠ some v) : lsum (l.set k v) 4 ≠ lsum l 4 := by
  intro h
  have := lsum_inj _ _ 4 (by simp [hl]) (by omega) h
  rw [List.take_of_length_le (by simp [hl]), List.take_of_length_le (by omega)] at this
  exact hv (by rw [← this, List.getElem?_set_self (by omega)])
theorem whole_spoilt (r : List UInt8) (h : r.length ≤ 262400) (p : Nat) (hp : p < r.length + 13) (v : UInt8) (hv : (frameB r)[p]? ≠ some v) (t : List UInt8) : whole ((frameB r).set p v ++ t) = none := by
  have hF : frameB r = headB r.length ++ (leB (crc (headB r.length)) 4 ++ (r ++ leB (crc r) 4)) := by have := frameB_parts r []; rwa [List.append_nil, List.append_nil] at this
  have hl1 := headB_len r.length
  have hl2 := leB_length (crc (headB r.length)) 4
  have hl3 := leB_length (crc r) 4
  have h0 := headB_0 r.length
  have hn := headB_n r.length h
  have hc := lsum_crc' (headB r.length)
  have hd := lsum_crc' r
  rw [hF] at hv ⊢
  generalize headB r.length = H at *
  generalize leB (crc H) 4 = C at *
  generalize leB (crc r) 4 = D at *
  by_cases p5 : p < 5
  · rw [List.set_append, if_pos (by omega), List.append_assoc, List.append_assoc]
    rw [List.getElem?_append_left (by omega)] at hv
    refine whole_head (by simp [hl1]) hl2 ?_
    by_cases p0 : p = 0
    · subst p0
      refine Or.inl ?_
      rw [List.getD_eq_getElem?_getD, List.getElem?_set_self (by omega), Option.getD_some]
      intro q
      rw [List.getD_eq_getElem?_getD, List.getElem?_eq_getElem (by omega), Option.getD_some] at h0
      exact hv (by rw [List.getElem?_eq_getElem (by omega), h0, q])
    · refine Or.inr ?_
      rw [hc]
      exact Ne.symm (crc_ne H p (by omega) v (fun q => hv (by rw [List.getElem?_eq_getElem (by omega), q])))
  rw [List.set_append, if_neg (by omega), hl1]
  rw [List.getElem?_append_right (by omega), hl1] at hv
  by_cases p9 : p < 9
  · rw [List.set_append, if_pos (by omega), List.append_assoc, List.append_assoc]
    rw [List.getElem?_append_left (by omega)] at hv
    refine whole_head hl1 (by simp [hl2]) (Or.inr ?_)
    rw [← hc]
    exact set_ne_lsum C hl2 (p - 5) (by omega) v hv
  rw [List.set_append, if_neg (by omega), hl2]
  rw [List.getElem?_append_right (by omega), hl2] at hv
  by_cases pr : p < r.length + 9
  · rw [List.set_append, if_pos (by omega), List.append_assoc, List.append_assoc, List.append_assoc]
    rw [List.getElem?_append_left (by omega)] at hv
    rw [whole_full hl1 hl2 hl3 (by rw [hn, List.length_set]) h0 hc (by simpa using h), if_neg]
    rw [hd]
    exact Ne.symm (crc_ne r (p - 5 - 4) (by omega) v (fun q => hv (by rw [List.getElem?_eq_getElem (by omega), q])))
  · rw [List.set_append, if_neg (by omega), List.append_assoc, List.append_assoc, List.append_assoc]
    rw [List.getElem?_append_right (by omega)] at hv
    rw [whole_full hl1 hl2 (by simp [hl3]) hn h0 hc h, if_neg]
    rw [← hd]
    exact set_ne_lsum D hl3 _ (by omega) v hv


theorem cat_cons (r : List UInt8) (l : List (List UInt8)) : cat (r :: l) = frameB r ++ cat l := by simp [cat]
theorem ce_cons (r : List UInt8) (l : List (List UInt8)) (k : Nat) : ce (r :: l) (k + 1) = r.length + 13 + ce l k := by
  rw [ce, List.take_succ_cons, cat_cons, List.length_append, frameB_len]
  rfl
theorem upto_torn : ∀ (l : List (List UInt8)) (hl : ∀ r ∈ l, r.length ≤ 262400) (n : Nat), Upto ((cat l).take n) l n
  | [], _, n, k, hk, h1, h2 => by
    have : k = 0 := by simpa using hk
    subst this
    simp [cat, scan_nil, ce]
  | r :: l, hl, n, 0, hk, h1, h2 => by
    have hr := hl r (List.mem_cons_self ..)
    have h2 : n < ce (r :: l) 1 := by
      rcases h2 with q | q
      · simp at q
      · exact q
    rw [ce_cons, ce_zero] at h2
    rw [cat_cons, List.take_append_of_le_length (by rw [frameB_len]; omega), scan_none (whole_torn r hr n (by omega)), ce_zero]
    rfl
  | r :: l, hl, n, k + 1, hk, h1, h2 => by
    have hr := hl r (List.mem_cons_self ..)
    rw [ce_cons] at h1 h2
    have ih := upto_torn l (fun x hx => hl x (List.mem_cons_of_mem _ hx)) (n - (r.length + 13)) k (by simpa using hk) (by omega) (by
      rcases h2 with q | q
      · exact Or.inl (by simpa using q)
      · exact Or.inr (by omega))
    rw [cat_cons, List.take_append, List.take_of_length_le (by rw [frameB_len]; omega), frameB_len, scan_frame r _ hr, ih, ce_cons]
    rfl
theorem upto_spoilt : ∀ (l : List (List UInt8)) (hl : ∀ r ∈ l, r.length ≤ 262400) (p : Nat) (hp : p < (cat l).length) (v : UInt8) (hv : (cat l)[p]? ≠ some v), Upto ((cat l).set p v) l p
  | [], _, p, hp, _, _, _, _, _, _ => by simp [cat] at hp
  | r :: l, hl, p, hp, v, hv, 0, hk, h1, h2 => by
    have hr := hl r (List.mem_cons_self ..)
    have h2 : p < ce (r :: l) 1 := by
      rcases h2 with q | q
      · simp at q
      · exact q
    rw [ce_cons, ce_zero] at h2
    rw [cat_cons, List.getElem?_append_left (by rw [frameB_len]; omega)] at hv
    rw [cat_cons, List.set_append, if_pos (by rw [frameB_len]; omega), scan_none (whole_spoilt r hr p (by omega) v hv _), ce_zero]
    rfl
  | r :: l, hl, p, hp, v, hv, k + 1, hk, h1, h2 => by
    have hr := hl r (List.mem_cons_self ..)
    rw [ce_cons] at h1 h2
    rw [cat_cons, List.getElem?_append_right (by rw [frameB_len]; omega), frameB_len] at hv
    rw [cat_cons, List.length_append, frameB_len] at hp
    have ih := upto_spoilt l (fun x hx => hl x (List.mem_cons_of_mem _ hx)) (p - (r.length + 13)) (by omega) v hv k (by simpa using hk) (by omega) (by
      rcases h2 with q | q
      · exact Or.inl (by simpa using q)
      · exact Or.inr (by omega))
    rw [cat_cons, List.set_append, if_neg (by rw [frameB_len]; omega), frameB_len, scan_frame r _ hr, ih, ce_cons]
    rfl
theorem scan_cat_tail : ∀ (l : List (List UInt8)) (hl : ∀ r ∈ l, r.length ≤ 262400) (t : List UInt8), scan (cat l ++ t) = (l ++ (scan t).1, (cat l).length + (scan t).2)
  | [], _, t => by simp [cat]
  | r :: l, hl, t => by
    rw [cat_cons, List.append_assoc, scan_frame r _ (hl r (List.mem_cons_self ..)), scan_cat_tail l (fun x hx => hl x (List.mem_cons_of_mem _ hx)) t, List.length_append, frameB_len]
    simp [Nat.add_assoc]
theorem scan_cat (l : List (List UInt8)) (hl : ∀ r ∈ l, r.length ≤ 262400) : scan (cat l) = (l, (cat l).length) := by
  have := scan_cat_tail l hl []
  simpa [scan_nil] using this
theorem upto_all (l : List (List UInt8)) (hl : ∀ r ∈ l, r.length ≤ 262400) : Upto (cat l) l (cat l).length := by
  have := upto_torn l hl (cat l).length
  rwa [List.take_length] at this

/-- P7.4: what is whole is a frame. -/
theorem whole_inv {b : List UInt8} {n : Nat} (h : whole b = some n) : b = frameB ((b.take (n + 9)).drop 9) ++ b.drop (n + 13) ∧ ((b.take (n + 9)).drop 9).length = n ∧ n ≤ 262400 := by
  obtain ⟨h9, h0, hc, ht, hn, hl, hd⟩ := whole_some h
  have e1 : (b.take 5).take 1 = leB 167 1 := by
    rw [List.take_take, show min 1 5 = 1 from rfl]
    rw [List.getD_eq_getElem?_getD, List.getElem?_eq_getElem (by omega), Option.getD_some] at h0
    rw [show (1 : Nat) = 0 + 1 from rfl, List.take_succ_eq_append_getElem (show 0 < b.length by omega), h0]
    rfl
  have e2 : (b.take 5).drop 1 = leB n 4 := by
    rw [← leB_lsum ((b.take 5).drop 1) 4 (by simp; omega)]
    rw [show lsum ((b.take 5).drop 1) 4 = told b from rfl, ht]
  have e3 : b.take 5 = headB n := by
    rw [← List.take_append_drop 1 (b.take 5), e1, e2]
    rfl
  have hc' : lsum ((b.take 9).drop 5) 4 = crc (headB n) := by
    unfold checkedB at hc
    rw [List.length_take, Nat.min_eq_left h9, List.take_take] at hc
    rw [← e3]
    simpa using hc
  have e4 : (b.take 9).drop 5 = leB (crc (headB n)) 4 := by
    rw [← leB_lsum ((b.take 9).drop 5) 4 (by simp; omega), hc']
  have e5 : b.take 9 = headB n ++ leB (crc (headB n)) 4 := by
    rw [← List.take_append_drop 5 (b.take 9), e4, List.take_take, show min 5 9 = 5 from rfl, e3]
  have hXl : ((b.take (n + 13)).drop 9).length = n + 4 := by simp; omega
  have e6 : ((b.take (n + 13)).drop 9).take n = (b.take (n + 9)).drop 9 := by
    rw [List.take_drop, List.take_take, show min (9 + n) (n + 13) = n + 9 by omega]
  have hd' : lsum (((b.take (n + 13)).drop 9).drop n) 4 = crc ((b.take (n + 9)).drop 9) := by
    unfold checkedB at hd
    rw [hXl, Nat.add_sub_cancel, e6] at hd
    simpa using hd
  have e7 : (b.take (n + 13)).drop 9 = (b.take (n + 9)).drop 9 ++ leB (crc ((b.take (n + 9)).drop 9)) 4 := by
    rw [← List.take_append_drop n ((b.take (n + 13)).drop 9), e6, ← hd', leB_lsum _ 4 (by rw [List.length_drop, hXl]; omega)]
  have hrl : ((b.take (n + 9)).drop 9).length = n := by simp; omega
  refine ⟨?_, hrl, hn⟩
  have e8 : b.take (n + 13) = frameB ((b.take (n + 9)).drop 9) := by
    rw [← List.take_append_drop 9 (b.take (n + 13)), e7, List.take_take, show min 9 (n + 13) = 9 by omega, e5, frameB, hrl]
    simp
  rw [← e8, List.take_append_drop]
theorem scan_stands : ∀ (f : Nat) (b : List UInt8), b.length < f → (∀ r ∈ (scan b).1, r.length ≤ 262400) ∧ (scan b).2 ≤ b.length ∧ cat (scan b).1 = b.take (scan b).2
  | 0, _, h => by omega
  | f + 1, b, h => by
    cases hw : whole b with
    | none => rw [scan_none hw]; simp [cat]
    | some n =>
      obtain ⟨e, hr, hn⟩ := whole_inv hw
      have hl := (whole_some hw).2.2.2.2.2.1
      obtain ⟨i1, i2, i3⟩ := scan_stands f (b.drop (n + 13)) (by simp; omega)
      rw [scan_some hw]
      refine ⟨fun r q => ?_, ?_, ?_⟩
      · rcases List.mem_cons.1 q with q | q
        · rw [q, hr]; exact hn
        · exact i1 r q
      · simp at i2 ⊢; omega
      · simp only
        rw [cat_cons, i3]
        have hfl : (frameB ((b.take (n + 9)).drop 9)).length = n + 13 := by rw [frameB_len, hr]
        have : b.take (n + 13 + (scan (b.drop (n + 13))).2) = b.take (n + 13) ++ (b.drop (n + 13)).take (scan (b.drop (n + 13))).2 := List.take_add
        rw [this]
        congr 1
        have e' := congrArg (List.take (n + 13)) e
        rw [List.take_left' hfl] at e'
        exact e'.symm
end Go.Proofs.YtbkbecjgphjpkabDoor
