/- What is plain: of what was read as signed, its form is what was read. -/
import Derived.Test.YtpfjllkmaogafaaRe
namespace Go.Proofs.Ytpfjllkmaogafaa
open Go.RowKit
set_option linter.unusedVariables false

theorem lsum_split (l : List UInt8) (j : Nat) : ∀ d, ∃ M, lsum l (j + 1 + d) = lsum l j + 256 ^ j * ((l.getD j 0).toNat + 256 * M)
  | 0 => ⟨0, by rw [Nat.add_zero, lsum, Nat.mul_comm]; simp⟩
  | d + 1 => by
    obtain ⟨M, hM⟩ := lsum_split l j d
    refine ⟨M + (l.getD (j + 1 + d) 0).toNat * 256 ^ d, ?_⟩
    have e : j + 1 + (d + 1) = (j + 1 + d) + 1 := by omega
    rw [e, lsum, hM]
    generalize (l.getD (j + 1 + d) 0).toNat = x
    generalize (l.getD j 0).toNat = y
    have e2 : 256 ^ (j + 1 + d) = 256 ^ j * (256 * 256 ^ d) := by rw [Nat.pow_add, Nat.pow_add]; simp [Nat.mul_assoc]
    rw [e2, Nat.mul_add, Nat.mul_add, Nat.mul_add]
    have e3 : x * (256 ^ j * (256 * 256 ^ d)) = 256 ^ j * (256 * (x * 256 ^ d)) := by
      rw [Nat.mul_left_comm, Nat.mul_left_comm x 256]
    rw [e3, Nat.mul_add]
    omega

theorem lsum_digit (l : List UInt8) (k j : Nat) (h : j < k) : UInt8.ofNat (lsum l k / 256 ^ j) = l.getD j 0 := by
  obtain ⟨M, hM⟩ := lsum_split l j (k - (j + 1))
  rw [show j + 1 + (k - (j + 1)) = k by omega] at hM
  have hp : 0 < 256 ^ j := Nat.pow_pos (by omega)
  rw [hM, Nat.add_mul_div_left _ _ hp, Nat.div_eq_of_lt (lsum_lt l j), Nat.zero_add]
  apply UInt8.toNat_inj.1
  simp

theorem leB_lsum (l : List UInt8) (k : Nat) (h : k ≤ l.length) : leB (lsum l k) k = l.take k := by
  apply List.ext_getElem
  · simp [leB]; omega
  · intro j h1 h2
    have hj : j < k := by simpa [leB] using h1
    simp only [leB, List.getElem_map, List.getElem_range, List.getElem_take]
    rw [lsum_digit l k j hj]
    simp [show j < l.length by omega]

theorem vsum_cons (c : UInt8) (r : List UInt8) : ∀ t, vsum (c :: r) (t + 1) = c.toNat % 128 + 128 * vsum r t
  | 0 => by simp [vsum]
  | t + 1 => by
    rw [vsum, vsum_cons c r t]
    have e : (c :: r).getD (t + 1) 0 = r.getD t 0 := by simp
    rw [e, vsum, Nat.pow_succ]
    generalize (r.getD t 0).toNat % 128 = x
    have : x * (128 ^ t * 128) = 128 * (x * 128 ^ t) := by rw [← Nat.mul_assoc, Nat.mul_comm]
    omega

theorem vsize_pos {s : Nat} : ∀ (r : List UInt8) (k : Nat), vsize k r = (s, 0) → 0 < k → k ≤ 9 → 0 < vsum r (s - k)
  | [], _, h, _, _ => by cases h
  | c :: r, k, h, h0, hk => by
    have hg := vsize_good (c :: r) k h hk
    rw [vsize] at h
    by_cases h1 : k = 9 ∧ 1 < c.toNat
    · rw [if_pos h1] at h; cases h
    · rw [if_neg h1] at h
      by_cases h2 : 0 < k ∧ c.toNat = 0
      · rw [if_pos h2] at h; cases h
      · rw [if_neg h2] at h
        by_cases h3 : c.toNat < 128
        · rw [if_pos h3] at h
          simp only [Prod.mk.injEq, and_true] at h
          rw [← h, show k + 1 - k = 0 + 1 by omega, vsum_cons]
          omega
        · rw [if_neg h3] at h
          have hk' : k + 1 ≤ 9 := by omega
          have hg' := vsize_good r (k + 1) h hk'
          have ih := vsize_pos r (k + 1) h (by omega) hk'
          rw [show s - k = (s - (k + 1)) + 1 by omega, vsum_cons]
          omega

theorem ofNat_toNat' (c : UInt8) (n : Nat) (h : n = c.toNat) : UInt8.ofNat n = c := by
  subst h
  simp

theorem varF_vsum {s : Nat} : ∀ (r : List UInt8) (k f : Nat), vsize k r = (s, 0) → k ≤ 9 → f + k = 9 → varF (f + 1) (vsum r (s - k)) = r.take (s - k)
  | [], _, _, h, _, _ => by cases h
  | c :: r, k, f, h, hk, hf => by
    rw [vsize] at h
    by_cases h1 : k = 9 ∧ 1 < c.toNat
    · rw [if_pos h1] at h; cases h
    · rw [if_neg h1] at h
      by_cases h2 : 0 < k ∧ c.toNat = 0
      · rw [if_pos h2] at h; cases h
      · rw [if_neg h2] at h
        by_cases h3 : c.toNat < 128
        · rw [if_pos h3] at h
          simp only [Prod.mk.injEq, and_true] at h
          rw [← h, show k + 1 - k = 0 + 1 by omega, vsum_cons, varF]
          have e : c.toNat % 128 + 128 * vsum r 0 = c.toNat := by simp only [vsum]; omega
          rw [e, if_pos h3, ofNat_toNat' c _ rfl]
          rfl
        · rw [if_neg h3] at h
          have hk' : k + 1 ≤ 9 := by omega
          have hg' := vsize_good r (k + 1) h hk'
          have hp := vsize_pos r (k + 1) h (by omega) hk'
          obtain ⟨f', rfl⟩ : ∃ f', f = f' + 1 := ⟨f - 1, by omega⟩
          have ih := varF_vsum r (k + 1) f' h hk' (by omega)
          rw [show s - k = (s - (k + 1)) + 1 by omega, vsum_cons, varF]
          generalize vsum r (s - (k + 1)) = y at *
          have hc := UInt8.toNat_lt c
          rw [if_neg (by omega), show (c.toNat % 128 + 128 * y) / 128 = y by omega, ih, ofNat_toNat' c _ (by omega)]
          rfl

theorem varE_vsum {l : List UInt8} {s : Nat} (h : vsize 0 l = (s, 0)) : varE (vsum l s) = l.take s := by
  have := varF_vsum l 0 9 h (by omega) (by omega)
  simpa [varE] using this

theorem piece_eq (bs : List UInt8) (i n : Nat) : (bs.take (i + n)).drop i = (bs.drop i).take n := by
  rw [List.drop_take]
  congr 1
  omega

theorem rbytes_enc (bs : List UInt8) (i : Nat) (a : Int) (h : (rbytes bs i a).2.2 = 0) (hle : (rbytes bs i a).2.1 ≤ bs.length) :
    i ≤ (rbytes bs i a).2.1 ∧ varE (rbytes bs i a).1.length ++ (rbytes bs i a).1 = (bs.take (rbytes bs i a).2.1).drop i := by
  unfold rbytes at h hle ⊢
  by_cases h1 : a < 0
  · rw [if_pos h1] at h; cases h
  · rw [if_neg h1] at h hle ⊢
    rcases rvar_cases bs i with ⟨s, hs, hv⟩ | ⟨er, her, h0, hv⟩
    · rw [hv] at h hle ⊢
      rw [if_neg (by simp)] at h hle ⊢
      by_cases h2 : a < (vsum (bs.drop i) s : Int)
      · rw [if_pos h2] at h; cases h
      · rw [if_neg h2] at h hle ⊢
        by_cases h3 : bs.length - (i + s) < vsum (bs.drop i) s
        · rw [if_pos h3] at h; cases h
        · rw [if_neg h3] at h hle ⊢
          simp only at h hle ⊢
          have hlen : ((bs.take (i + s + vsum (bs.drop i) s)).drop (i + s)).length = vsum (bs.drop i) s := by simp; omega
          refine ⟨by omega, ?_⟩
          rw [hlen, varE_vsum hs, piece_eq]
          generalize vsum (bs.drop i) s = x at *
          rw [Nat.add_assoc, piece_eq, List.take_add, List.drop_drop]
    · rw [hv] at h
      rw [if_pos (by simpa using h0)] at h
      simp only at h
      simp [h] at h0

/-- Bytes that are read between two places. -/
def Eats (bs : List UInt8) (i j : Nat) (B : List UInt8) : Prop := i ≤ j ∧ j ≤ bs.length ∧ (bs.drop i).take (j - i) = B
theorem Eats.trans {bs : List UInt8} {i j k : Nat} {A B : List UInt8} (h : Eats bs i j A) (g : Eats bs j k B) : Eats bs i k (A ++ B) := by
  obtain ⟨h1, h2, h3⟩ := h
  obtain ⟨g1, g2, g3⟩ := g
  refine ⟨by omega, g2, ?_⟩
  rw [← h3, ← g3]
  have e1 : k - i = (j - i) + (k - j) := by omega
  rw [e1, List.take_add]
  congr 1
  rw [List.drop_drop]
  congr 2
  omega
theorem gB_zero {bs : List UInt8} {i : Nat} {e : Int} {n j : Nat} (h : gB bs i e = (n, j, 0)) : e = 0 := by
  unfold gB at h
  split at h
  · assumption
  · simp at h; omega
theorem gV_zero {bs : List UInt8} {i : Nat} {e : Int} {n j : Nat} (h : gV bs i e = (n, j, 0)) : e = 0 := by
  unfold gV at h
  split at h
  · assumption
  · simp at h; omega
theorem gR_zero {bs : List UInt8} {i : Nat} {e m : Int} {l : List UInt8} {j : Nat} (h : gR bs i e m = (l, j, 0)) : e = 0 := by
  unfold gR at h
  split at h
  · assumption
  · simp at h; omega
theorem gT_zero {bs : List UInt8} {i : Nat} {e m : Int} {l : List UInt8} {j : Nat} (h : gT bs i e m = (l, j, 0)) : e = 0 := by
  unfold gT at h
  split at h
  · assumption
  · simp at h; omega
theorem gB_eats {bs : List UInt8} {i : Nat} {n j : Nat} (hi : i ≤ bs.length) (h : gB bs i 0 = (n, j, 0)) : Eats bs i j (leB n 1) := by
  unfold gB rfix at h
  rw [if_pos rfl] at h
  split at h
  · simp at h
  · simp only [Prod.mk.injEq] at h
    obtain ⟨rfl, rfl, _⟩ := h
    refine ⟨by omega, by omega, ?_⟩
    rw [leB_lsum _ 1 (by simp; omega)]
    congr 1
    omega
theorem gV_eats {bs : List UInt8} {i : Nat} {n j : Nat} (hi : i ≤ bs.length) (h : gV bs i 0 = (n, j, 0)) : Eats bs i j (varE n) := by
  have hle := gV_le bs i 0 hi
  rw [h] at hle
  unfold gV at h
  rw [if_pos rfl] at h
  rcases rvar_cases bs i with ⟨s, hs, hv⟩ | ⟨er, _, h0, hv⟩
  · rw [hv] at h
    simp only [Prod.mk.injEq] at h
    obtain ⟨rfl, rfl, _⟩ := h
    refine ⟨by omega, hle, ?_⟩
    rw [varE_vsum hs]
    congr 1
    omega
  · rw [hv] at h
    simp only [Prod.mk.injEq] at h
    obtain ⟨_, _, rfl⟩ := h
    simp at h0
theorem gR_eats {bs : List UInt8} {i m : Nat} {l : List UInt8} {j : Nat} (hi : i ≤ bs.length) (h : gR bs i 0 m = (l, j, 0)) : Eats bs i j l ∧ l.length = m := by
  unfold gR rraw at h
  rw [if_pos rfl, if_neg (by omega), Int.toNat_natCast] at h
  split at h
  · simp at h
  · simp only [Prod.mk.injEq] at h
    obtain ⟨rfl, rfl, _⟩ := h
    refine ⟨⟨by omega, by omega, ?_⟩, by simp; omega⟩
    rw [piece_eq]
    congr 1
    omega
theorem gT_eats {bs : List UInt8} {i : Nat} {l : List UInt8} {j : Nat} (hi : i ≤ bs.length) (h : gT bs i 0 16 = (l, j, 0)) : Eats bs i j (varE l.length ++ l) := by
  have hle := gT_le bs i 0 16 hi
  rw [h] at hle
  unfold gT at h
  rw [if_pos rfl] at h
  have he := rbytes_enc bs i 16 (by rw [h]) (by rw [h]; exact hle)
  rw [h] at he
  refine ⟨he.1, hle, ?_⟩
  have := he.2
  dsimp only at this
  rw [this, List.drop_take]
theorem pad_full {n : Nat} {l : List UInt8} (h : l.length = n) : pad n l = l := by simp [pad, h]
theorem cap31_eq {n : Nat} (h : (cap31 n : Int) ≤ 65535) : cap31 n = n := by
  unfold cap31 at *
  split at h
  · rw [if_pos (by assumption)]
  · omega
theorem cap31_eq' {n : Nat} (h : (cap31 n : Int) - 1 < 65535) : cap31 n = n := by
  unfold cap31 at *
  split at h
  · rw [if_pos (by assumption)]
  · omega
theorem rdV_eats {bs : List UInt8} {i : Nat} {e : Int} {x : Vt} {j : Nat} (hi : i ≤ bs.length) (h : rdV bs i e = (x, j, 0)) (hr : x.r ≤ 65535) : e = 0 ∧ Eats bs i j (voB x) ∧ x.se = z16 := by
  simp only [rdV] at h
  obtain ⟨a1, a2, a3, ha⟩ : ∃ p q r, gB bs i e = (p, q, r) := ⟨_, _, _, rfl⟩
  rw [ha] at h
  dsimp only at h
  have la : a2 ≤ bs.length := by have := gB_le bs i e hi; rw [ha] at this; exact this
  obtain ⟨b1, b2, b3, hb⟩ : ∃ p q r, gV bs a2 a3 = (p, q, r) := ⟨_, _, _, rfl⟩
  rw [hb] at h
  dsimp only at h
  have lb : b2 ≤ bs.length := by have := gV_le bs a2 a3 la; rw [hb] at this; exact this
  obtain ⟨c1, c2, c3, hc⟩ : ∃ p q r, gV bs b2 b3 = (p, q, r) := ⟨_, _, _, rfl⟩
  rw [hc] at h
  dsimp only at h
  have lc : c2 ≤ bs.length := by have := gV_le bs b2 b3 lb; rw [hc] at this; exact this
  obtain ⟨d1, d2, d3, hd⟩ : ∃ p q r, gR bs c2 c3 32 = (p, q, r) := ⟨_, _, _, rfl⟩
  rw [hd] at h
  dsimp only at h
  have ld : d2 ≤ bs.length := by have : (gR bs c2 c3 32).2.1 ≤ bs.length := gR_le bs c2 c3 32 lc; rw [hd] at this; exact this
  obtain ⟨t1, t2, t3, ht⟩ : ∃ p q r, gV bs d2 d3 = (p, q, r) := ⟨_, _, _, rfl⟩
  rw [ht] at h
  dsimp only at h
  have lt : t2 ≤ bs.length := by have := gV_le bs d2 d3 ld; rw [ht] at this; exact this
  obtain ⟨f1, f2, f3, hf⟩ : ∃ p q r, gV bs t2 t3 = (p, q, r) := ⟨_, _, _, rfl⟩
  rw [hf] at h
  dsimp only at h
  have lf : f2 ≤ bs.length := by have := gV_le bs t2 t3 lt; rw [hf] at this; exact this
  simp only [Prod.mk.injEq] at h
  obtain ⟨rfl, rfl, rfl⟩ := h
  obtain rfl := gV_zero hf
  obtain rfl := gV_zero ht
  obtain rfl := gR_zero hd
  obtain rfl := gV_zero hc
  obtain rfl := gV_zero hb
  obtain rfl := gB_zero ha
  have hdl := gR_eats lc hd
  dsimp only at hr
  refine ⟨rfl, ?_, rfl⟩
  unfold voB
  dsimp only
  rw [pad_full hdl.2, cap31_eq hr]
  simp only [Int.toNat_natCast]
  exact (gB_eats hi ha).trans ((gV_eats la hb).trans ((gV_eats lb hc).trans (hdl.1.trans ((gV_eats ld ht).trans (gV_eats lt hf)))))
theorem rdP_eats {bs : List UInt8} {i : Nat} {e : Int} {x : Po} {j : Nat} (hi : i ≤ bs.length) (h : rdP bs i e = (x, j, 0)) (hr : x.r ≤ 65535) (hv : x.vr < x.r) : e = 0 ∧ Eats bs i j (poB x) ∧ x.se = z16 := by
  simp only [rdP] at h
  obtain ⟨b1, b2, b3, hb⟩ : ∃ p q r, gV bs i e = (p, q, r) := ⟨_, _, _, rfl⟩
  rw [hb] at h
  dsimp only at h
  have lb : b2 ≤ bs.length := by have := gV_le bs i e hi; rw [hb] at this; exact this
  obtain ⟨c1, c2, c3, hc⟩ : ∃ p q r, gV bs b2 b3 = (p, q, r) := ⟨_, _, _, rfl⟩
  rw [hc] at h
  dsimp only at h
  have lc : c2 ≤ bs.length := by have := gV_le bs b2 b3 lb; rw [hc] at this; exact this
  obtain ⟨s1, s2, s3, hs⟩ : ∃ p q r, gV bs c2 c3 = (p, q, r) := ⟨_, _, _, rfl⟩
  rw [hs] at h
  dsimp only at h
  have ls : s2 ≤ bs.length := by have := gV_le bs c2 c3 lc; rw [hs] at this; exact this
  obtain ⟨d1, d2, d3, hd⟩ : ∃ p q r, gR bs s2 s3 32 = (p, q, r) := ⟨_, _, _, rfl⟩
  rw [hd] at h
  dsimp only at h
  have ld : d2 ≤ bs.length := by have : (gR bs s2 s3 32).2.1 ≤ bs.length := gR_le bs s2 s3 32 ls; rw [hd] at this; exact this
  obtain ⟨f1, f2, f3, hf⟩ : ∃ p q r, gV bs d2 d3 = (p, q, r) := ⟨_, _, _, rfl⟩
  rw [hf] at h
  dsimp only at h
  have lf : f2 ≤ bs.length := by have := gV_le bs d2 d3 ld; rw [hf] at this; exact this
  simp only [Prod.mk.injEq] at h
  obtain ⟨rfl, rfl, rfl⟩ := h
  obtain rfl := gV_zero hf
  obtain rfl := gR_zero hd
  obtain rfl := gV_zero hs
  obtain rfl := gV_zero hc
  obtain rfl := gV_zero hb
  have hdl := gR_eats ls hd
  dsimp only at hr hv
  refine ⟨rfl, ?_, rfl⟩
  unfold poB
  dsimp only
  rw [pad_full hdl.2, cap31_eq hr, cap31_eq' (n := s1) (by omega)]
  have e1 : ((s1 : Int) - 1 + 1).toNat = s1 := by omega
  simp only [Int.toNat_natCast, e1]
  exact (gV_eats hi hb).trans ((gV_eats lb hc).trans ((gV_eats lc hs).trans (hdl.1.trans (gV_eats ld hf))))
/-- What can be read as signed has no error but where it is not empty and begins with its letter. -/
theorem anV_form (bs : List UInt8) (ch : ByteArray) (x : Vt) (h : anV bs = (ch, x, 0)) : sBv ch x = bs ∧ plainSv ch x = 0 ∧ x.se = z16 ∧ bs.getD 0 0 = 86 ∧ 0 < bs.length := by
  have h0 : 0 < bs.length := by
    rcases Nat.eq_zero_or_pos bs.length with q | q
    · have hE : bs = [] := List.eq_nil_of_length_eq_zero q
      subst hE
      rw [anV_nil] at h
      simp at h
    · exact q
  have hne : bs.getD 0 0 = 86 := Classical.byContradiction fun q => by
    rw [anV_bad bs h0 q] at h
    simp at h
  obtain ⟨l, j, e, hT⟩ : ∃ l j e, gT bs 1 0 16 = (l, j, e) := ⟨_, _, _, rfl⟩
  have lT : j ≤ bs.length := by have := gT_le bs 1 0 16 (by omega); rw [hT] at this; exact this
  obtain ⟨y, j1, e1, hx⟩ : ∃ y j1 e1, rdV bs j e = (y, j1, e1) := ⟨_, _, _, rfl⟩
  have hsz : l.length ≤ 16 := by have := gT_sz bs 1 0; rw [hT] at this; exact this
  rw [anV_good bs h0 hne ⟨l.toArray⟩ j e (by rw [hT]) (by rw [hT]) y j1 e1 hx] at h
  by_cases hr : rend bs j1 e1 = 0
  · rw [if_pos hr] at h
    by_cases hc : (⟨l.toArray⟩ : ByteArray) = ⟨#[]⟩
    · rw [hc] at h
      simp [ba_self] at h
    · rw [ba_ne _ hc] at h
      simp only [Bool.false_eq_true, if_false] at h
      by_cases hp : plainE y = 0
      · rw [if_pos hp] at h
        simp only [Prod.mk.injEq] at h
        obtain ⟨rfl, rfl, _⟩ := h
        have hpS : plainSv ⟨l.toArray⟩ y = 0 := by
          unfold plainSv
          rw [cB_of _ (by show l.toArray.size ≤ 16; simpa using hsz), ba_ne _ hc]
          exact hp
        have he1 : e1 = 0 := by
          unfold rend at hr
          split at hr
          · assumption
          · exact hr
        subst he1
        have hj1 : ¬ j1 < bs.length := by
          unfold rend at hr
          rw [if_pos rfl] at hr
          split at hr
          · simp at hr
          · assumption
        obtain ⟨he, hE, hse⟩ := rdV_eats lT hx (plainE_kind hp).2.2.2
        subst he
        have hT' := gT_eats (by omega) hT
        have hB := gB_eats (bs := bs) (i := 0) (n := 86) (j := 1) (Nat.zero_le _) (by rw [gB_pos bs h0, hne]; rfl)
        have hA := hB.trans (hT'.trans hE)
        refine ⟨?_, hpS, hse, hne, h0⟩
        unfold sBv
        rw [if_pos hpS]
        unfold stBv
        obtain ⟨q1, q2, q3⟩ := hA
        have hjl : j1 = bs.length := by omega
        subst hjl
        rw [List.drop_zero, Nat.sub_zero, List.take_length] at q3
        rw [q3]
        show _ = leB 86 1 ++ (varE l.length ++ l ++ voB y)
        have hcs : (⟨l.toArray⟩ : ByteArray).size = l.length := by show l.toArray.size = _; simp
        rw [hcs]
      · rw [if_neg hp] at h
        simp only [Prod.mk.injEq] at h
        exact absurd h.2.2 hp
  · rw [if_neg hr] at h
    rw [if_neg hr] at h
    simp only [Prod.mk.injEq] at h
    exact absurd h.2.2 hr
/-- What can be read as signed has no error but where it is not empty and begins with its letter. -/
theorem anP_form (bs : List UInt8) (ch : ByteArray) (x : Po) (h : anP bs = (ch, x, 0)) : sBp ch x = bs ∧ plainSp ch x = 0 ∧ x.se = z16 ∧ bs.getD 0 0 = 80 ∧ 0 < bs.length := by
  have h0 : 0 < bs.length := by
    rcases Nat.eq_zero_or_pos bs.length with q | q
    · have hE : bs = [] := List.eq_nil_of_length_eq_zero q
      subst hE
      rw [anP_nil] at h
      simp at h
    · exact q
  have hne : bs.getD 0 0 = 80 := Classical.byContradiction fun q => by
    rw [anP_bad bs h0 q] at h
    simp at h
  obtain ⟨l, j, e, hT⟩ : ∃ l j e, gT bs 1 0 16 = (l, j, e) := ⟨_, _, _, rfl⟩
  have lT : j ≤ bs.length := by have := gT_le bs 1 0 16 (by omega); rw [hT] at this; exact this
  obtain ⟨y, j1, e1, hx⟩ : ∃ y j1 e1, rdP bs j e = (y, j1, e1) := ⟨_, _, _, rfl⟩
  have hsz : l.length ≤ 16 := by have := gT_sz bs 1 0; rw [hT] at this; exact this
  rw [anP_good bs h0 hne ⟨l.toArray⟩ j e (by rw [hT]) (by rw [hT]) y j1 e1 hx] at h
  by_cases hr : rend bs j1 e1 = 0
  · rw [if_pos hr] at h
    by_cases hc : (⟨l.toArray⟩ : ByteArray) = ⟨#[]⟩
    · rw [hc] at h
      simp [ba_self] at h
    · rw [ba_ne _ hc] at h
      simp only [Bool.false_eq_true, if_false] at h
      by_cases hp : plainP y = 0
      · rw [if_pos hp] at h
        simp only [Prod.mk.injEq] at h
        obtain ⟨rfl, rfl, _⟩ := h
        have hpS : plainSp ⟨l.toArray⟩ y = 0 := by
          unfold plainSp
          rw [cB_of _ (by show l.toArray.size ≤ 16; simpa using hsz), ba_ne _ hc]
          exact hp
        have he1 : e1 = 0 := by
          unfold rend at hr
          split at hr
          · assumption
          · exact hr
        subst he1
        have hj1 : ¬ j1 < bs.length := by
          unfold rend at hr
          rw [if_pos rfl] at hr
          split at hr
          · simp at hr
          · assumption
        obtain ⟨he, hE, hse⟩ := rdP_eats lT hx (plainP_kind hp).2.1 (plainP_kind hp).2.2.2
        subst he
        have hT' := gT_eats (by omega) hT
        have hB := gB_eats (bs := bs) (i := 0) (n := 80) (j := 1) (Nat.zero_le _) (by rw [gB_pos bs h0, hne]; rfl)
        have hA := hB.trans (hT'.trans hE)
        refine ⟨?_, hpS, hse, hne, h0⟩
        unfold sBp
        rw [if_pos hpS]
        unfold stBp
        obtain ⟨q1, q2, q3⟩ := hA
        have hjl : j1 = bs.length := by omega
        subst hjl
        rw [List.drop_zero, Nat.sub_zero, List.take_length] at q3
        rw [q3]
        show _ = leB 80 1 ++ (varE l.length ++ l ++ poB y)
        have hcs : (⟨l.toArray⟩ : ByteArray).size = l.length := by show l.toArray.size = _; simp
        rw [hcs]
      · rw [if_neg hp] at h
        simp only [Prod.mk.injEq] at h
        exact absurd h.2.2 hp
  · rw [if_neg hr] at h
    rw [if_neg hr] at h
    simp only [Prod.mk.injEq] at h
    exact absurd h.2.2 hr
end Go.Proofs.Ytpfjllkmaogafaa
