/- What was laid down, read back: plain lists and numbers. -/
import Derived.Test.YtfjdojodbhmmaaaP1
namespace Go.Proofs.Ytfjdojodbhmmaaa
set_option linter.unusedVariables false

theorem lsum_append (l r : List UInt8) : ∀ k, k ≤ l.length → lsum (l ++ r) k = lsum l k
  | 0, _ => rfl
  | k + 1, h => by
    rw [lsum, lsum, lsum_append l r k (by omega)]
    have e : (l ++ r).getD k 0 = l.getD k 0 := by simp [List.getElem?_append_left (show k < l.length by omega)]
    rw [e]

theorem lsum_leB (n : Nat) : ∀ k, lsum (leB n k) k = n % 256 ^ k
  | 0 => by simp [lsum]; omega
  | k + 1 => by
    rw [lsum, leB_succ, lsum_append _ _ _ (by simp [leB_length]), lsum_leB n k]
    have e : (leB n k ++ [UInt8.ofNat (n / 256 ^ k)]).getD k 0 = UInt8.ofNat (n / 256 ^ k) := by
      simp [leB_length]
    rw [e, Nat.pow_succ, Nat.mod_mul]
    simp
    rw [Nat.mul_comm]

theorem vsum_append (l r : List UInt8) : ∀ k, k ≤ l.length → vsum (l ++ r) k = vsum l k
  | 0, _ => rfl
  | k + 1, h => by
    rw [vsum, vsum, vsum_append l r k (by omega)]
    have e : (l ++ r).getD k 0 = l.getD k 0 := by simp [List.getElem?_append_left (show k < l.length by omega)]
    rw [e]

theorem toNat_of (x : Nat) (h : x < 256) : (UInt8.ofNat x).toNat = x := by
  simp
  omega

/-- A Var that was laid down, met from number k on. -/
theorem vsize_varF (rest : List UInt8) : ∀ (f k n : Nat), f + k = 9 → n * 128 ^ k < 18446744073709551616 → (0 < k → 0 < n) → vsize k (varF (f + 1) n ++ rest) = (k + (varF (f + 1) n).length, 0) ∧ vsum (varF (f + 1) n) (varF (f + 1) n).length = n
  | 0, k, n, hf, hn, h0 => by
    have hk : k = 9 := by omega
    subst hk
    have hn1 : n ≤ 1 := by omega
    have e : varF 1 n = [UInt8.ofNat n] := by rw [varF, if_pos (by omega)]
    have h00 := h0 (by omega)
    have hn2 : n = 1 := by omega
    subst hn2
    rw [Nat.zero_add, e]
    simp [vsize, vsum]
  | f + 1, k, n, hf, hn, h0 => by
    by_cases hlt : n < 128
    · have e : varF (f + 1 + 1) n = [UInt8.ofNat n] := by rw [varF, if_pos hlt]
      have ht := toNat_of n (by omega)
      rw [e]
      refine ⟨?_, ?_⟩
      · rw [List.singleton_append, vsize, ht, if_neg (by omega), if_neg (by omega), if_pos hlt]
        rfl
      · show vsum [UInt8.ofNat n] (0 + 1) = n
        rw [vsum_cons, ht]
        simp only [vsum]
        omega
    · have e : varF (f + 1 + 1) n = UInt8.ofNat (n % 128 + 128) :: varF (f + 1) (n / 128) := by rw [varF, if_neg hlt]
      have ht := toNat_of (n % 128 + 128) (by omega)
      have hstep : n / 128 * 128 ^ (k + 1) < 18446744073709551616 := by
        have e1 : n / 128 * 128 ^ (k + 1) = n / 128 * 128 * 128 ^ k := by rw [Nat.pow_succ, Nat.mul_assoc, Nat.mul_comm (128 ^ k)]
        have e2 : n / 128 * 128 * 128 ^ k ≤ n * 128 ^ k := Nat.mul_le_mul_right _ (by omega)
        omega
      obtain ⟨h1, h2⟩ := vsize_varF rest f (k + 1) (n / 128) (by omega) hstep (fun _ => by omega)
      rw [e]
      refine ⟨?_, ?_⟩
      · rw [List.cons_append, vsize, ht, if_neg (by omega), if_neg (by omega), if_neg (by omega), h1]
        simp
        omega
      · rw [List.length_cons, vsum_cons, h2, ht]
        omega

theorem rvar_varE (pre rest : List UInt8) (n : Nat) (hn : n < 18446744073709551616) : rvar (pre ++ (varE n ++ rest)) pre.length = (n, pre.length + (varE n).length, 0) := by
  obtain ⟨h1, h2⟩ := vsize_varF rest 9 0 n (by omega) (by simpa using hn) (by omega)
  have h1' : vsize 0 (varE n ++ rest) = ((varE n).length, 0) := by simpa [varE] using h1
  unfold rvar
  rw [List.drop_left, h1']
  simp only [if_true]
  rw [vsum_append _ _ _ (Nat.le_refl _)]
  have h2' : vsum (varE n) (varE n).length = n := h2
  rw [h2']

/-- The read of what was laid down. -/
def ask (k : Int) (n : Nat) (B : List UInt8) : Int := if k % 9 = 5 then B.length else if k % 9 = 6 ∨ k % 9 = 7 then B.length + (n % 7 : Nat) else if k % 9 = 8 then n else 0
/-- What must come back. -/
def val (k : Int) (n : Nat) (B : List UInt8) : Nat × List UInt8 :=
  if k % 9 = 0 then (n % 256, []) else if k % 9 = 1 then (n % 2, []) else if k % 9 = 2 then (n % 4294967296, [])
  else if k % 9 = 5 ∨ k % 9 = 6 ∨ k % 9 = 7 then (0, B) else (n, [])
def mayP (k : Int) (n : Nat) : Prop := k % 9 ≠ 8 ∨ n < 9223372036854775808

theorem rbytes_back (pre rest B : List UInt8) (m : Int) (hm : (B.length : Int) ≤ m) (hB : B.length < 18446744073709551616) :
    rbytes (pre ++ (varE B.length ++ B ++ rest)) pre.length m = (B, pre.length + (varE B.length ++ B).length, 0) := by
  have hv := rvar_varE pre (B ++ rest) B.length hB
  rw [← List.append_assoc (varE B.length)] at hv
  unfold rbytes
  rw [hv, if_neg (by omega), if_neg (by simp), if_neg (by simp only; omega)]
  simp only
  have hlen : (pre ++ (varE B.length ++ B ++ rest)).length = pre.length + (varE B.length).length + B.length + rest.length := by simp; omega
  rw [if_neg (by omega)]
  have e1 : (pre ++ (varE B.length ++ B ++ rest)).take (pre.length + (varE B.length).length + B.length) = (pre ++ varE B.length) ++ B := by
    have : pre ++ (varE B.length ++ B ++ rest) = ((pre ++ varE B.length) ++ B) ++ rest := by simp
    rw [this]
    apply List.take_left'
    simp
    omega
  have e2 : ((pre ++ varE B.length) ++ B).drop (pre.length + (varE B.length).length) = B := by
    apply List.drop_left'
    simp
  rw [e1, e2]
  simp
  omega

/-- There and back. -/
theorem rget_back (pre rest : List UInt8) (k : Int) (n : Nat) (B : List UInt8) (hn : n < 18446744073709551616) (hB : B.length < 9223372036854775808) (hm : mayP k n) :
    (enc k n B).2 = 0 ∧ rget (pre ++ ((enc k n B).1 ++ rest)) pre.length (k % 9) (ask k n B) 0 = ((val k n B).1, (val k n B).2, pre.length + (enc k n B).1.length, 0) := by
  have hk : k % 9 = 0 ∨ k % 9 = 1 ∨ k % 9 = 2 ∨ k % 9 = 3 ∨ k % 9 = 4 ∨ k % 9 = 5 ∨ k % 9 = 6 ∨ k % 9 = 7 ∨ k % 9 = 8 := by omega
  have hfix : ∀ x wd, x < 256 ^ wd → rfix (pre ++ (leB x wd ++ rest)) pre.length wd = (x, pre.length + (leB x wd).length, 0) := by
    intro x wd hx
    unfold rfix
    rw [if_neg (by simp [leB_length] <;> omega), List.drop_left, lsum_append _ _ _ (by simp [leB_length]), lsum_leB, Nat.mod_eq_of_lt hx, leB_length]
  rcases hk with hk | hk | hk | hk | hk | hk | hk | hk | hk
  · rw [enc_0 hk, rget_0 (by omega)]
    simp only
    rw [hfix _ 1 (by omega)]
    exact ⟨trivial, by unfold val; rw [if_pos hk]⟩
  · rw [enc_1 hk, rget_1 (by omega)]
    simp only
    have hx : lsum (leB (n % 2) 1 ++ rest) 1 = n % 2 := by rw [lsum_append _ _ _ (by simp [leB_length]), lsum_leB]; omega
    refine ⟨trivial, ?_⟩
    unfold rbool
    rw [if_neg (by simp [leB_length] <;> omega), List.drop_left, hx, if_neg (by omega), leB_length]
    unfold val
    rw [if_neg (by omega), if_pos hk]
  · rw [enc_2 hk, rget_2 (by omega)]
    simp only
    rw [hfix _ 4 (by omega)]
    exact ⟨trivial, by unfold val; rw [if_neg (by omega), if_neg (by omega), if_pos hk]⟩
  · rw [enc_3 hk, rget_3 (by omega)]
    simp only
    rw [hfix _ 8 (by omega)]
    exact ⟨trivial, by unfold val; rw [if_neg (by omega), if_neg (by omega), if_neg (by omega), if_neg (by omega)]⟩
  · rw [enc_4 hk, rget_4 (by omega)]
    simp only
    rw [rvar_varE _ _ _ hn]
    exact ⟨trivial, by unfold val; rw [if_neg (by omega), if_neg (by omega), if_neg (by omega), if_neg (by omega)]⟩
  · rw [enc_5 hk, rget_5 (by omega)]
    simp only
    have ha : ask k n B = (B.length : Int) := by unfold ask; rw [if_pos hk]
    rw [ha]
    refine ⟨trivial, ?_⟩
    unfold rraw
    rw [if_neg (by omega), Int.toNat_natCast, if_neg (by simp <;> omega)]
    have e1 : (pre ++ (B ++ rest)).take (pre.length + B.length) = pre ++ B := by
      rw [← List.append_assoc]
      apply List.take_left'
      simp
    rw [e1, List.drop_left]
    unfold val
    rw [if_neg (by omega), if_neg (by omega), if_neg (by omega), if_pos (by omega)]
  · rw [enc_6 hk, rget_6 (by omega)]
    simp only
    have ha : ask k n B = B.length + (n % 7 : Nat) := by unfold ask; rw [if_neg (by omega), if_pos (by omega)]
    rw [ha, rbytes_back _ _ _ _ (by omega) (by omega)]
    exact ⟨trivial, by unfold val; rw [if_neg (by omega), if_neg (by omega), if_neg (by omega), if_pos (by omega)]⟩
  · rw [enc_7 hk, rget_7 (by omega)]
    simp only
    have ha : ask k n B = B.length + (n % 7 : Nat) := by unfold ask; rw [if_neg (by omega), if_pos (by omega)]
    rw [ha, rbytes_back _ _ _ _ (by omega) (by omega)]
    exact ⟨trivial, by unfold val; rw [if_neg (by omega), if_neg (by omega), if_neg (by omega), if_pos (by omega)]⟩
  · have hn8 : n < 9223372036854775808 := by rcases hm with h | h <;> omega
    rw [enc_8 hk, if_pos hn8, rget_8 (by omega)]
    simp only
    have ha : ask k n B = n := by unfold ask; rw [if_neg (by omega), if_neg (by omega), if_pos hk]
    rw [ha]
    refine ⟨trivial, ?_⟩
    unfold rcount
    rw [if_neg (by omega), rvar_varE _ _ _ hn, if_neg (by simp), if_neg (by simp), if_neg (by simp)]
    unfold val
    rw [if_neg (by omega), if_neg (by omega), if_neg (by omega), if_neg (by omega)]
end Go.Proofs.Ytfjdojodbhmmaaa
