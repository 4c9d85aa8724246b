/- What was read, laid down again: plain lists and numbers. -/
import Derived.Test.YtfjdojodbhmmaaaV3
import Derived.Test.YtfjdojodbhmmaaaW13
namespace Go.Proofs.Ytfjdojodbhmmaaa
set_option linter.unusedVariables false

theorem lsum_split (l : List UInt8) (j : Nat) : ∀ d, ∃ M, lsum l (j + 1 + d) = lsum l j + 256 ^ j * ((l.getD j 0).toNat + 256 * M)
  | 0 => ⟨0, by rw [Nat.add_zero, lsum, Nat.mul_comm]; simp⟩
  | d + 1 => by
    obtain ⟨M, hM⟩ := lsum_split l j d
    refine ⟨M + (l.getD (j + 1 + d) 0).toNat * 256 ^ d, ?_⟩
    have e : j + 1 + (d + 1) = (j + 1 + d) + 1 := by omega
    rw [e, lsum, hM]
    generalize (l.getD (j + 1 + d) 0).toNat = x
    generalize (l.getD j 0).toNat = y
    have e2 : 256 ^ (j + 1 + d) = 256 ^ j * (256 * 256 ^ d) := by rw [Nat.pow_add, Nat.pow_add]; simp [Nat.mul_assoc]
    rw [e2, Nat.mul_add, Nat.mul_add, Nat.mul_add]
    have e3 : x * (256 ^ j * (256 * 256 ^ d)) = 256 ^ j * (256 * (x * 256 ^ d)) := by
      rw [Nat.mul_left_comm, Nat.mul_left_comm x 256]
    rw [e3, Nat.mul_add]
    omega

theorem lsum_digit (l : List UInt8) (k j : Nat) (h : j < k) : UInt8.ofNat (lsum l k / 256 ^ j) = l.getD j 0 := by
  obtain ⟨M, hM⟩ := lsum_split l j (k - (j + 1))
  rw [show j + 1 + (k - (j + 1)) = k by omega] at hM
  have hp : 0 < 256 ^ j := Nat.pow_pos (by omega)
  rw [hM, Nat.add_mul_div_left _ _ hp, Nat.div_eq_of_lt (lsum_lt l j), Nat.zero_add]
  apply UInt8.toNat_inj.1
  simp

theorem leB_lsum (l : List UInt8) (k : Nat) (h : k ≤ l.length) : leB (lsum l k) k = l.take k := by
  apply List.ext_getElem
  · simp [leB]; omega
  · intro j h1 h2
    have hj : j < k := by simpa [leB] using h1
    simp only [leB, List.getElem_map, List.getElem_range, List.getElem_take]
    rw [lsum_digit l k j hj]
    simp [show j < l.length by omega]

theorem vsum_cons (c : UInt8) (r : List UInt8) : ∀ t, vsum (c :: r) (t + 1) = c.toNat % 128 + 128 * vsum r t
  | 0 => by simp [vsum]
  | t + 1 => by
    rw [vsum, vsum_cons c r t]
    have e : (c :: r).getD (t + 1) 0 = r.getD t 0 := by simp
    rw [e, vsum, Nat.pow_succ]
    generalize (r.getD t 0).toNat % 128 = x
    have : x * (128 ^ t * 128) = 128 * (x * 128 ^ t) := by rw [← Nat.mul_assoc, Nat.mul_comm]
    omega

theorem vsize_pos {s : Nat} : ∀ (r : List UInt8) (k : Nat), vsize k r = (s, 0) → 0 < k → k ≤ 9 → 0 < vsum r (s - k)
  | [], _, h, _, _ => by cases h
  | c :: r, k, h, h0, hk => by
    have hg := vsize_good (c :: r) k h hk
    rw [vsize] at h
    by_cases h1 : k = 9 ∧ 1 < c.toNat
    · rw [if_pos h1] at h; cases h
    · rw [if_neg h1] at h
      by_cases h2 : 0 < k ∧ c.toNat = 0
      · rw [if_pos h2] at h; cases h
      · rw [if_neg h2] at h
        by_cases h3 : c.toNat < 128
        · rw [if_pos h3] at h
          simp only [Prod.mk.injEq, and_true] at h
          rw [← h, show k + 1 - k = 0 + 1 by omega, vsum_cons]
          omega
        · rw [if_neg h3] at h
          have hk' : k + 1 ≤ 9 := by omega
          have hg' := vsize_good r (k + 1) h hk'
          have ih := vsize_pos r (k + 1) h (by omega) hk'
          rw [show s - k = (s - (k + 1)) + 1 by omega, vsum_cons]
          omega

theorem ofNat_toNat' (c : UInt8) (n : Nat) (h : n = c.toNat) : UInt8.ofNat n = c := by
  subst h
  simp

theorem varF_vsum {s : Nat} : ∀ (r : List UInt8) (k f : Nat), vsize k r = (s, 0) → k ≤ 9 → f + k = 9 → varF (f + 1) (vsum r (s - k)) = r.take (s - k)
  | [], _, _, h, _, _ => by cases h
  | c :: r, k, f, h, hk, hf => by
    rw [vsize] at h
    by_cases h1 : k = 9 ∧ 1 < c.toNat
    · rw [if_pos h1] at h; cases h
    · rw [if_neg h1] at h
      by_cases h2 : 0 < k ∧ c.toNat = 0
      · rw [if_pos h2] at h; cases h
      · rw [if_neg h2] at h
        by_cases h3 : c.toNat < 128
        · rw [if_pos h3] at h
          simp only [Prod.mk.injEq, and_true] at h
          rw [← h, show k + 1 - k = 0 + 1 by omega, vsum_cons, varF]
          have e : c.toNat % 128 + 128 * vsum r 0 = c.toNat := by simp only [vsum]; omega
          rw [e, if_pos h3, ofNat_toNat' c _ rfl]
          rfl
        · rw [if_neg h3] at h
          have hk' : k + 1 ≤ 9 := by omega
          have hg' := vsize_good r (k + 1) h hk'
          have hp := vsize_pos r (k + 1) h (by omega) hk'
          obtain ⟨f', rfl⟩ : ∃ f', f = f' + 1 := ⟨f - 1, by omega⟩
          have ih := varF_vsum r (k + 1) f' h hk' (by omega)
          rw [show s - k = (s - (k + 1)) + 1 by omega, vsum_cons, varF]
          generalize vsum r (s - (k + 1)) = y at *
          have hc := UInt8.toNat_lt c
          rw [if_neg (by omega), show (c.toNat % 128 + 128 * y) / 128 = y by omega, ih, ofNat_toNat' c _ (by omega)]
          rfl

theorem varE_vsum {l : List UInt8} {s : Nat} (h : vsize 0 l = (s, 0)) : varE (vsum l s) = l.take s := by
  have := varF_vsum l 0 9 h (by omega) (by omega)
  simpa [varE] using this

theorem piece_eq (bs : List UInt8) (i n : Nat) : (bs.take (i + n)).drop i = (bs.drop i).take n := by
  rw [List.drop_take]
  congr 1
  omega

theorem rget_0 {bs : List UInt8} {i : Nat} {k a b : Int} (hk : k % 9 = 0) : rget bs i k a b = ((rfix bs i 1).1, [], (rfix bs i 1).2) := by unfold rget; rw [if_pos hk]
theorem enc_0 {k : Int} {n : Nat} {B : List UInt8} (hk : k % 9 = 0) : enc k n B = (leB (n % 256) 1, 0) := by unfold enc; rw [if_pos hk]
theorem rget_1 {bs : List UInt8} {i : Nat} {k a b : Int} (hk : k % 9 = 1) : rget bs i k a b = ((rbool bs i).1, [], (rbool bs i).2) := by unfold rget; rw [if_neg (by omega), if_pos hk]
theorem enc_1 {k : Int} {n : Nat} {B : List UInt8} (hk : k % 9 = 1) : enc k n B = (leB (n % 2) 1, 0) := by unfold enc; rw [if_neg (by omega), if_pos hk]
theorem rget_2 {bs : List UInt8} {i : Nat} {k a b : Int} (hk : k % 9 = 2) : rget bs i k a b = ((rfix bs i 4).1, [], (rfix bs i 4).2) := by unfold rget; rw [if_neg (by omega), if_neg (by omega), if_pos hk]
theorem enc_2 {k : Int} {n : Nat} {B : List UInt8} (hk : k % 9 = 2) : enc k n B = (leB (n % 4294967296) 4, 0) := by unfold enc; rw [if_neg (by omega), if_neg (by omega), if_pos hk]
theorem rget_3 {bs : List UInt8} {i : Nat} {k a b : Int} (hk : k % 9 = 3) : rget bs i k a b = ((rfix bs i 8).1, [], (rfix bs i 8).2) := by unfold rget; rw [if_neg (by omega), if_neg (by omega), if_neg (by omega), if_pos hk]
theorem enc_3 {k : Int} {n : Nat} {B : List UInt8} (hk : k % 9 = 3) : enc k n B = (leB n 8, 0) := by unfold enc; rw [if_neg (by omega), if_neg (by omega), if_neg (by omega), if_pos hk]
theorem rget_4 {bs : List UInt8} {i : Nat} {k a b : Int} (hk : k % 9 = 4) : rget bs i k a b = ((rvar bs i).1, [], (rvar bs i).2) := by unfold rget; rw [if_neg (by omega), if_neg (by omega), if_neg (by omega), if_neg (by omega), if_pos hk]
theorem enc_4 {k : Int} {n : Nat} {B : List UInt8} (hk : k % 9 = 4) : enc k n B = (varE n, 0) := by unfold enc; rw [if_neg (by omega), if_neg (by omega), if_neg (by omega), if_neg (by omega), if_pos hk]
theorem rget_5 {bs : List UInt8} {i : Nat} {k a b : Int} (hk : k % 9 = 5) : rget bs i k a b = (0, rraw bs i a) := by unfold rget; rw [if_neg (by omega), if_neg (by omega), if_neg (by omega), if_neg (by omega), if_neg (by omega), if_pos hk]
theorem enc_5 {k : Int} {n : Nat} {B : List UInt8} (hk : k % 9 = 5) : enc k n B = (B, 0) := by unfold enc; rw [if_neg (by omega), if_neg (by omega), if_neg (by omega), if_neg (by omega), if_neg (by omega), if_pos hk]
theorem rget_6 {bs : List UInt8} {i : Nat} {k a b : Int} (hk : k % 9 = 6) : rget bs i k a b = (0, rbytes bs i a) := by unfold rget; rw [if_neg (by omega), if_neg (by omega), if_neg (by omega), if_neg (by omega), if_neg (by omega), if_neg (by omega), if_pos hk]
theorem enc_6 {k : Int} {n : Nat} {B : List UInt8} (hk : k % 9 = 6) : enc k n B = (varE B.length ++ B, 0) := by unfold enc; rw [if_neg (by omega), if_neg (by omega), if_neg (by omega), if_neg (by omega), if_neg (by omega), if_neg (by omega), if_pos hk]
theorem rget_7 {bs : List UInt8} {i : Nat} {k a b : Int} (hk : k % 9 = 7) : rget bs i k a b = (0, rbytes bs i a) := by unfold rget; rw [if_neg (by omega), if_neg (by omega), if_neg (by omega), if_neg (by omega), if_neg (by omega), if_neg (by omega), if_neg (by omega), if_pos hk]
theorem enc_7 {k : Int} {n : Nat} {B : List UInt8} (hk : k % 9 = 7) : enc k n B = (varE B.length ++ B, 0) := by unfold enc; rw [if_neg (by omega), if_neg (by omega), if_neg (by omega), if_neg (by omega), if_neg (by omega), if_neg (by omega), if_neg (by omega), if_pos hk]
theorem rget_8 {bs : List UInt8} {i : Nat} {k a b : Int} (hk : k % 9 = 8) : rget bs i k a b = ((rcount bs i a b).1, [], (rcount bs i a b).2) := by unfold rget; rw [if_neg (by omega), if_neg (by omega), if_neg (by omega), if_neg (by omega), if_neg (by omega), if_neg (by omega), if_neg (by omega), if_neg (by omega)]
theorem enc_8 {k : Int} {n : Nat} {B : List UInt8} (hk : k % 9 = 8) : enc k n B = if n < 9223372036854775808 then (varE n, 0) else ([], 2) := by unfold enc; rw [if_neg (by omega), if_neg (by omega), if_neg (by omega), if_neg (by omega), if_neg (by omega), if_neg (by omega), if_neg (by omega), if_neg (by omega)]

theorem rbytes_enc (bs : List UInt8) (i : Nat) (a : Int) (h : (rbytes bs i a).2.2 = 0) (hle : (rbytes bs i a).2.1 ≤ bs.length) :
    i ≤ (rbytes bs i a).2.1 ∧ varE (rbytes bs i a).1.length ++ (rbytes bs i a).1 = (bs.take (rbytes bs i a).2.1).drop i := by
  unfold rbytes at h hle ⊢
  by_cases h1 : a < 0
  · rw [if_pos h1] at h; cases h
  · rw [if_neg h1] at h hle ⊢
    rcases rvar_cases bs i with ⟨s, hs, hv⟩ | ⟨er, her, h0, hv⟩
    · rw [hv] at h hle ⊢
      rw [if_neg (by simp)] at h hle ⊢
      by_cases h2 : a < (vsum (bs.drop i) s : Int)
      · rw [if_pos h2] at h; cases h
      · rw [if_neg h2] at h hle ⊢
        by_cases h3 : bs.length - (i + s) < vsum (bs.drop i) s
        · rw [if_pos h3] at h; cases h
        · rw [if_neg h3] at h hle ⊢
          simp only at h hle ⊢
          have hlen : ((bs.take (i + s + vsum (bs.drop i) s)).drop (i + s)).length = vsum (bs.drop i) s := by simp; omega
          refine ⟨by omega, ?_⟩
          rw [hlen, varE_vsum hs, piece_eq]
          generalize vsum (bs.drop i) s = x at *
          rw [Nat.add_assoc, piece_eq, List.take_add, List.drop_drop]
    · rw [hv] at h
      rw [if_pos (by simpa using h0)] at h
      simp only at h
      simp [h] at h0

/-- What was read without an error, laid down again, is what was read. -/
theorem rget_enc (bs : List UInt8) (i : Nat) (hi : i ≤ bs.length) (k a b : Int) (ha : a < 9223372036854775808) (h : (rget bs i k a b).2.2.2 = 0) (hle : (rget bs i k a b).2.2.1 ≤ bs.length) :
    i ≤ (rget bs i k a b).2.2.1 ∧ enc (k % 9) (rget bs i k a b).1 (rget bs i k a b).2.1 = ((bs.take (rget bs i k a b).2.2.1).drop i, 0) := by
  have hk : k % 9 = 0 ∨ k % 9 = 1 ∨ k % 9 = 2 ∨ k % 9 = 3 ∨ k % 9 = 4 ∨ k % 9 = 5 ∨ k % 9 = 6 ∨ k % 9 = 7 ∨ k % 9 = 8 := by omega
  have hfix : ∀ n, n ≤ bs.length - i → leB (lsum (bs.drop i) n) n = (bs.take (i + n)).drop i := fun n hn => by
    rw [leB_lsum _ _ (by simp; omega), piece_eq]
  rcases hk with hk | hk | hk | hk | hk | hk | hk | hk | hk
  · rw [rget_0 hk] at h hle ⊢
    rw [enc_0 (by omega)]
    unfold rfix at h hle ⊢
    by_cases h1 : bs.length - i < 1
    · rw [if_pos h1] at h; cases h
    · rw [if_neg h1]
      have hb := lsum_lt (bs.drop i) 1
      simp only
      rw [Nat.mod_eq_of_lt (by omega), hfix 1 (by omega)]
      exact ⟨by omega, rfl⟩
  · rw [rget_1 hk] at h hle ⊢
    rw [enc_1 (by omega)]
    unfold rbool at h hle ⊢
    by_cases h1 : bs.length - i < 1
    · rw [if_pos h1] at h; cases h
    · rw [if_neg h1] at h hle ⊢
      by_cases h2 : 1 < lsum (bs.drop i) 1
      · rw [if_pos h2] at h; cases h
      · rw [if_neg h2]
        simp only
        rw [Nat.mod_eq_of_lt (by omega), hfix 1 (by omega)]
        exact ⟨by omega, rfl⟩
  · rw [rget_2 hk] at h hle ⊢
    rw [enc_2 (by omega)]
    unfold rfix at h hle ⊢
    by_cases h1 : bs.length - i < 4
    · rw [if_pos h1] at h; cases h
    · rw [if_neg h1]
      have hb := lsum_lt (bs.drop i) 4
      simp only
      rw [Nat.mod_eq_of_lt (by omega), hfix 4 (by omega)]
      exact ⟨by omega, rfl⟩
  · rw [rget_3 hk] at h hle ⊢
    rw [enc_3 (by omega)]
    unfold rfix at h hle ⊢
    by_cases h1 : bs.length - i < 8
    · rw [if_pos h1] at h; cases h
    · rw [if_neg h1]
      have hb := lsum_lt (bs.drop i) 8
      simp only
      rw [hfix 8 (by omega)]
      exact ⟨by omega, rfl⟩
  · rw [rget_4 hk] at h hle ⊢
    rw [enc_4 (by omega)]
    rcases rvar_cases bs i with ⟨s, hs, hv⟩ | ⟨er, her, h0, hv⟩
    · rw [hv]
      simp only
      rw [varE_vsum hs, piece_eq]
      exact ⟨by omega, rfl⟩
    · rw [hv] at h
      simp only at h
      simp [h] at h0
  · rw [rget_5 hk] at h hle ⊢
    rw [enc_5 (by omega)]
    unfold rraw at h hle ⊢
    by_cases h1 : a < 0
    · rw [if_pos h1] at h; cases h
    · rw [if_neg h1] at h hle ⊢
      by_cases h2 : bs.length - i < a.toNat
      · rw [if_pos h2] at h; cases h
      · rw [if_neg h2]
        exact ⟨by simp, rfl⟩
  · rw [rget_6 hk] at h hle ⊢
    rw [enc_6 (by omega)]
    obtain ⟨h1, h2⟩ := rbytes_enc bs i a h hle
    exact ⟨h1, by rw [h2]⟩
  · rw [rget_7 hk] at h hle ⊢
    rw [enc_7 (by omega)]
    obtain ⟨h1, h2⟩ := rbytes_enc bs i a h hle
    exact ⟨h1, by rw [h2]⟩
  · rw [rget_8 hk] at h hle ⊢
    have hlt := (rcount_lt (bs := bs) (i := i) (l := b) ha).2
    rw [enc_8 (by omega), if_pos (by omega)]
    unfold rcount at h hle ⊢
    by_cases h1 : a < 0 ∨ b < 0
    · rw [if_pos h1] at h; cases h
    · rw [if_neg h1] at h hle ⊢
      rcases rvar_cases bs i with ⟨s, hs, hv⟩ | ⟨er, her, h0, hv⟩
      · rw [hv] at h hle ⊢
        rw [if_neg (by simp)] at h hle ⊢
        by_cases h2 : a < (vsum (bs.drop i) s : Int)
        · rw [if_pos h2] at h; cases h
        · rw [if_neg h2] at h hle ⊢
          by_cases h3 : bs.length - (i + s) < vsum (bs.drop i) s * b.toNat
          · rw [if_pos h3] at h; cases h
          · rw [if_neg h3]
            simp only
            rw [varE_vsum hs, piece_eq]
            exact ⟨by omega, rfl⟩
      · rw [hv] at h
        rw [if_pos (by simpa using h0)] at h
        simp only at h
        simp [h] at h0
end Go.Proofs.Ytfjdojodbhmmaaa
