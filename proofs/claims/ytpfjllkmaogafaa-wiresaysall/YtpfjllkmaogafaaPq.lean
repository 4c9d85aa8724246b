/- Pb and Pc in one: what is signed, read back; it says all but the seal. -/
import Derived.Test.YtpfjllkmaogafaaPa
/- What is plain: what is signed can be read back. -/
namespace Go.Proofs.Ytpfjllkmaogafaa
open Go.RowKit
set_option linter.unusedVariables false

theorem lsum_append (l r : List UInt8) : ∀ k, k ≤ l.length → lsum (l ++ r) k = lsum l k
  | 0, _ => rfl
  | k + 1, h => by
    rw [lsum, lsum, lsum_append l r k (by omega)]
    have e : (l ++ r).getD k 0 = l.getD k 0 := by simp [List.getElem?_append_left (show k < l.length by omega)]
    rw [e]

theorem lsum_leB (n : Nat) : ∀ k, lsum (leB n k) k = n % 256 ^ k
  | 0 => by simp [lsum]; omega
  | k + 1 => by
    rw [lsum, leB_succ, lsum_append _ _ _ (by simp [leB_length]), lsum_leB n k]
    have e : (leB n k ++ [UInt8.ofNat (n / 256 ^ k)]).getD k 0 = UInt8.ofNat (n / 256 ^ k) := by
      simp [leB_length]
    rw [e, Nat.pow_succ, Nat.mod_mul]
    simp
    rw [Nat.mul_comm]

theorem vsum_append (l r : List UInt8) : ∀ k, k ≤ l.length → vsum (l ++ r) k = vsum l k
  | 0, _ => rfl
  | k + 1, h => by
    rw [vsum, vsum, vsum_append l r k (by omega)]
    have e : (l ++ r).getD k 0 = l.getD k 0 := by simp [List.getElem?_append_left (show k < l.length by omega)]
    rw [e]

theorem toNat_of (x : Nat) (h : x < 256) : (UInt8.ofNat x).toNat = x := by
  simp
  omega

/-- A Var that was laid down, met from number k on. -/
theorem vsize_varF (rest : List UInt8) : ∀ (f k n : Nat), f + k = 9 → n * 128 ^ k < 18446744073709551616 → (0 < k → 0 < n) → vsize k (varF (f + 1) n ++ rest) = (k + (varF (f + 1) n).length, 0) ∧ vsum (varF (f + 1) n) (varF (f + 1) n).length = n
  | 0, k, n, hf, hn, h0 => by
    have hk : k = 9 := by omega
    subst hk
    have hn1 : n ≤ 1 := by omega
    have e : varF 1 n = [UInt8.ofNat n] := by rw [varF, if_pos (by omega)]
    have h00 := h0 (by omega)
    have hn2 : n = 1 := by omega
    subst hn2
    rw [Nat.zero_add, e]
    simp [vsize, vsum]
  | f + 1, k, n, hf, hn, h0 => by
    by_cases hlt : n < 128
    · have e : varF (f + 1 + 1) n = [UInt8.ofNat n] := by rw [varF, if_pos hlt]
      have ht := toNat_of n (by omega)
      rw [e]
      refine ⟨?_, ?_⟩
      · rw [List.singleton_append, vsize, ht, if_neg (by omega), if_neg (by omega), if_pos hlt]
        rfl
      · show vsum [UInt8.ofNat n] (0 + 1) = n
        rw [vsum_cons, ht]
        simp only [vsum]
        omega
    · have e : varF (f + 1 + 1) n = UInt8.ofNat (n % 128 + 128) :: varF (f + 1) (n / 128) := by rw [varF, if_neg hlt]
      have ht := toNat_of (n % 128 + 128) (by omega)
      have hstep : n / 128 * 128 ^ (k + 1) < 18446744073709551616 := by
        have e1 : n / 128 * 128 ^ (k + 1) = n / 128 * 128 * 128 ^ k := by rw [Nat.pow_succ, Nat.mul_assoc, Nat.mul_comm (128 ^ k)]
        have e2 : n / 128 * 128 * 128 ^ k ≤ n * 128 ^ k := Nat.mul_le_mul_right _ (by omega)
        omega
      obtain ⟨h1, h2⟩ := vsize_varF rest f (k + 1) (n / 128) (by omega) hstep (fun _ => by omega)
      rw [e]
      refine ⟨?_, ?_⟩
      · rw [List.cons_append, vsize, ht, if_neg (by omega), if_neg (by omega), if_neg (by omega), h1]
        simp
        omega
      · rw [List.length_cons, vsum_cons, h2, ht]
        omega


theorem drop_more {bs A rest : List UInt8} {i : Nat} (h : bs.drop i = A ++ rest) : bs.drop (i + A.length) = rest := by
  rw [← List.drop_drop, h]
  simp
theorem len_at {bs A rest : List UInt8} {i : Nat} (h : bs.drop i = A ++ rest) : bs.length - i = A.length + rest.length := by
  have := congrArg List.length h
  simpa using this
theorem rvar_at {bs rest : List UInt8} {i n : Nat} (hn : n < 18446744073709551616) (h : bs.drop i = varE n ++ rest) : rvar bs i = (n, i + (varE n).length, 0) := by
  obtain ⟨h1, h2⟩ := vsize_varF rest 9 0 n (by omega) (by simpa using hn) (by omega)
  have h1' : vsize 0 (varE n ++ rest) = ((varE n).length, 0) := by simpa [varE] using h1
  unfold rvar
  rw [h, h1']
  simp only [if_true]
  rw [vsum_append _ _ _ (Nat.le_refl _)]
  have h2' : vsum (varE n) (varE n).length = n := h2
  rw [h2']
theorem gV_at {bs rest : List UInt8} {i n : Nat} (hn : n < 18446744073709551616) (h : bs.drop i = varE n ++ rest) : gV bs i 0 = (n, i + (varE n).length, 0) := by
  unfold gV
  rw [if_pos rfl, rvar_at hn h]
theorem gB_at {bs rest : List UInt8} {i n : Nat} (hn : n < 256) (h : bs.drop i = leB n 1 ++ rest) : gB bs i 0 = (n, i + (leB n 1).length, 0) := by
  have hl := len_at h
  rw [leB_length] at hl ⊢
  unfold gB rfix
  rw [if_pos rfl, if_neg (by omega), h, lsum_append _ _ _ (by rw [leB_length]; omega), lsum_leB, Nat.mod_eq_of_lt (by omega)]
theorem piece_at {bs A rest : List UInt8} {i : Nat} (h : bs.drop i = A ++ rest) : (bs.take (i + A.length)).drop i = A := by
  rw [piece_eq, h]
  simp
theorem gR_at {bs l rest : List UInt8} {i m : Nat} (hm : l.length = m) (h : bs.drop i = l ++ rest) : gR bs i 0 m = (l, i + l.length, 0) := by
  have hl := len_at h
  subst hm
  unfold gR rraw
  rw [if_pos rfl, if_neg (by omega), Int.toNat_natCast, if_neg (by omega), piece_at h]
theorem gT_at {bs l rest : List UInt8} {i : Nat} (hm : l.length ≤ 16) (h : bs.drop i = varE l.length ++ (l ++ rest)) : gT bs i 0 16 = (l, i + (varE l.length).length + l.length, 0) := by
  have h2 := drop_more h
  have hl := len_at h2
  unfold gT rbytes
  rw [if_pos rfl, rvar_at (by omega) h]
  dsimp only
  rw [if_neg (by omega), if_neg (by simp), if_neg (by omega), if_neg (by omega), piece_at h2]
theorem cap31_id {n : Nat} (h : n ≤ 65536) : cap31 n = n := by
  unfold cap31
  rw [if_pos (by omega)]
theorem rdV_at {bs rest : List UInt8} {i : Nat} (x : Vt) (ho : x.fits) (hk1 : 1 ≤ x.k) (hk4 : x.k ≤ 2) (hr1 : 0 ≤ x.r) (hr2 : x.r ≤ 65535) (h : bs.drop i = voB x ++ rest) : ∃ j, rdV bs i 0 = ({ x with se := z16 }, j, 0) ∧ bs.drop j = rest ∧ (i ≤ bs.length → j ≤ bs.length) := by
  obtain ⟨hok, hh, ht, hf⟩ := ho
  have hl := len_at h
  unfold voB at h hl
  simp only [List.length_append] at hl
  simp only [List.append_assoc] at h
  have g1 := gB_at (n := x.k.toNat) (by omega) h
  have h := drop_more h
  have g2 := gV_at (n := x.h.toNat) (by omega) h
  have h := drop_more h
  have g3 := gV_at (n := x.r.toNat) (by omega) h
  have h := drop_more h
  have g4 := gR_at hok.1 h
  have h := drop_more h
  have g5 := gV_at (n := x.t.toNat) (by omega) h
  have h := drop_more h
  have g6 := gV_at (n := x.f.toNat) (by omega) h
  have h := drop_more h
  refine ⟨_, ?_, h, fun hi => ?_⟩
  · simp only [rdV]
    have g4' : ∀ q, gR bs q 0 32 = gR bs q 0 ((32 : Nat) : Int) := fun _ => rfl
    rw [g1]
    dsimp only
    rw [g2]
    dsimp only
    rw [g3]
    dsimp only
    rw [g4', g4]
    dsimp only
    rw [g5]
    dsimp only
    rw [g6]
    dsimp only
    rw [pad_full hok.1, cap31_id (by omega)]
    obtain ⟨k, hh', r, id, t, f, se⟩ := x
    dsimp only at *
    rw [Int.toNat_of_nonneg (by omega), Int.toNat_of_nonneg (by omega), Int.toNat_of_nonneg (by omega), Int.toNat_of_nonneg (by omega), Int.toNat_of_nonneg (by omega)]
  · omega
theorem rdP_at {bs rest : List UInt8} {i : Nat} (x : Po) (ho : x.ok) (hr1 : 0 ≤ x.r) (hr2 : x.r ≤ 65535) (hv1 : -1 ≤ x.vr) (hv2 : x.vr < x.r) (h : bs.drop i = poB x ++ rest) : ∃ j, rdP bs i 0 = ({ x with se := z16 }, j, 0) ∧ bs.drop j = rest ∧ (i ≤ bs.length → j ≤ bs.length) := by
  obtain ⟨hok1, hok2, hh, hf⟩ := ho
  have hl := len_at h
  unfold poB at h hl
  simp only [List.length_append] at hl
  simp only [List.append_assoc] at h
  have g2 := gV_at (n := x.h) (by omega) h
  have h := drop_more h
  have g3 := gV_at (n := x.r.toNat) (by omega) h
  have h := drop_more h
  have g7 := gV_at (n := (x.vr + 1).toNat) (by omega) h
  have h := drop_more h
  have g4 := gR_at hok1 h
  have h := drop_more h
  have g6 := gV_at (n := x.f) (by omega) h
  have h := drop_more h
  refine ⟨_, ?_, h, fun hi => ?_⟩
  · simp only [rdP]
    have g4' : ∀ q, gR bs q 0 32 = gR bs q 0 ((32 : Nat) : Int) := fun _ => rfl
    rw [g2]
    dsimp only
    rw [g3]
    dsimp only
    rw [g7]
    dsimp only
    rw [g4', g4]
    dsimp only
    rw [g6]
    dsimp only
    rw [pad_full hok1, cap31_id (by omega), cap31_id (by omega)]
    obtain ⟨h', r, vr, id, f, se⟩ := x
    dsimp only at *
    rw [Int.toNat_of_nonneg (by omega), Int.toNat_of_nonneg (by omega)]
    simp
  · omega
theorem leB1 (n : Nat) : leB n 1 = [UInt8.ofNat n] := by simp [leB]
theorem anV_back (ch : ByteArray) (x : Vt) (ho : x.fits) (hp : plainSv ch x = 0) : anV (stBv ch x) = (ch, { x with se := z16 }, 0) := by
  obtain ⟨hch, hk1, hk4, hr1, hr2⟩ := plainSv_zero hp
  have hpe : plainE x = 0 ∧ cB ch = true := by
    unfold plainSv at hp
    split at hp
    · exact ⟨hp, by assumption⟩
    · simp at hp
  obtain ⟨B, hB⟩ : ∃ B, stBv ch x = B := ⟨_, rfl⟩
  rw [hB]
  unfold stBv at hB
  rw [leB1] at hB
  have h0 : 0 < B.length := by rw [← hB]; simp
  have h1 : B.getD 0 0 = 86 := by rw [← hB]; rfl
  have h2 : B.drop 1 = varE ch.size ++ (ch.data.toList ++ (voB x ++ [])) := by rw [← hB]; simp
  have hcl : ch.data.toList.length = ch.size := by rw [Array.length_toList]; rfl
  rw [← hcl] at h2
  have gT := gT_at (by omega) h2
  have h3 := drop_more (drop_more h2)
  obtain ⟨j, hr, hd, hj⟩ := rdV_at x ho hk1 hk4 hr1 hr2 h3
  have hj1 : j = B.length := by
    have l := len_at h2
    have := hj (by rw [List.length_append] at l; omega)
    have h4 : B.length - j = 0 := by have := congrArg List.length hd; simpa using this
    omega
  rw [anV_good B h0 h1 ch _ _ (by rw [gT]) (by rw [gT]) _ _ _ hr]
  have hend : rend B j 0 = 0 := by unfold rend; rw [if_pos rfl, if_neg (by omega)]
  have hcb : (ch == (⟨#[]⟩ : ByteArray)) = false := by
    have := cB_of ch hch
    rw [hpe.2] at this
    simpa using this.symm
  have hps : plainE { x with se := z16 } = 0 := hpe.1
  rw [hend, hcb]
  simp [hps]
theorem anP_back (ch : ByteArray) (x : Po) (ho : x.ok) (hp : plainSp ch x = 0) : anP (stBp ch x) = (ch, { x with se := z16 }, 0) := by
  obtain ⟨hch, hr1, hr2, hv1, hv2⟩ := plainSp_zero hp
  have hpe : plainP x = 0 ∧ cB ch = true := by
    unfold plainSp at hp
    split at hp
    · exact ⟨hp, by assumption⟩
    · simp at hp
  obtain ⟨B, hB⟩ : ∃ B, stBp ch x = B := ⟨_, rfl⟩
  rw [hB]
  unfold stBp at hB
  rw [leB1] at hB
  have h0 : 0 < B.length := by rw [← hB]; simp
  have h1 : B.getD 0 0 = 80 := by rw [← hB]; rfl
  have h2 : B.drop 1 = varE ch.size ++ (ch.data.toList ++ (poB x ++ [])) := by rw [← hB]; simp
  have hcl : ch.data.toList.length = ch.size := by rw [Array.length_toList]; rfl
  rw [← hcl] at h2
  have gT := gT_at (by omega) h2
  have h3 := drop_more (drop_more h2)
  obtain ⟨j, hr, hd, hj⟩ := rdP_at x ho hr1 hr2 hv1 hv2 h3
  have hj1 : j = B.length := by
    have l := len_at h2
    have := hj (by rw [List.length_append] at l; omega)
    have h4 : B.length - j = 0 := by have := congrArg List.length hd; simpa using this
    omega
  rw [anP_good B h0 h1 ch _ _ (by rw [gT]) (by rw [gT]) _ _ _ hr]
  have hend : rend B j 0 = 0 := by unfold rend; rw [if_pos rfl, if_neg (by omega)]
  have hcb : (ch == (⟨#[]⟩ : ByteArray)) = false := by
    have := cB_of ch hch
    rw [hpe.2] at this
    simpa using this.symm
  have hps : plainP { x with se := z16 } = 0 := hpe.1
  rw [hend, hcb]
  simp [hps]
/-- A vote's is no proposal's, and the other way. -/
theorem anP_of_vote (ch : ByteArray) (x : Vt) : (anP (stBv ch x)).2.2 = 40 := by
  rw [anP_bad _ (by unfold stBv; rw [leB1]; simp) (by unfold stBv; rw [leB1]; exact (by decide : (86 : UInt8) ≠ 80))]
theorem anV_of_prop (ch : ByteArray) (x : Po) : (anV (stBp ch x)).2.2 = 40 := by
  rw [anV_bad _ (by unfold stBp; rw [leB1]; simp) (by unfold stBp; rw [leB1]; exact (by decide : (80 : UInt8) ≠ 86))]
end Go.Proofs.Ytpfjllkmaogafaa

/- What is plain: what is signed says all but the seal. -/
namespace Go.Proofs.Ytpfjllkmaogafaa
open Go.RowKit
set_option linter.unusedVariables false

/-- A transaction's statement, read. -/
def rdT (B : List UInt8) : List UInt8 × Nat × Nat × Nat × Nat × Nat × Nat :=
  let t := gT B 1 0 16
  let a := gB B t.2.1 t.2.2
  let b := gV B a.2.1 a.2.2
  let c := gV B b.2.1 b.2.2
  let d := gV B c.2.1 c.2.2
  let e := gV B d.2.1 d.2.2
  let f := gV B e.2.1 e.2.2
  (t.1, a.1, b.1, c.1, d.1, e.1, f.1)
theorem rdT_back (ch : ByteArray) (x : Tx) (ho : x.ok) (hp : plainS ch x = 0) : rdT (stB ch x) = (ch.data.toList, x.k.toNat, x.fr, x.to, x.am, x.fe, x.no) := by
  obtain ⟨hch, hk1, hk4⟩ := plainS_zero hp
  obtain ⟨_, o1, o2, o3, o4, o5⟩ := ho
  obtain ⟨B, hB⟩ : ∃ B, stB ch x = B := ⟨_, rfl⟩
  rw [hB]
  unfold stB txB at hB
  rw [leB1] at hB
  have h2 : B.drop 1 = varE ch.size ++ (ch.data.toList ++ (leB x.k.toNat 1 ++ (varE x.fr ++ (varE x.to ++ (varE x.am ++ (varE x.fe ++ (varE x.no ++ []))))))) := by rw [← hB]; simp
  have hcl : ch.data.toList.length = ch.size := by rw [Array.length_toList]; rfl
  rw [← hcl] at h2
  have gT := gT_at (by omega) h2
  have h := drop_more (drop_more h2)
  have g1 := gB_at (n := x.k.toNat) (by omega) h
  have h := drop_more h
  have g2 := gV_at o1 h
  have h := drop_more h
  have g3 := gV_at o2 h
  have h := drop_more h
  have g4 := gV_at o3 h
  have h := drop_more h
  have g5 := gV_at o4 h
  have h := drop_more h
  have g6 := gV_at o5 h
  simp only [rdT]
  rw [gT]
  dsimp only
  rw [g1]
  dsimp only
  rw [g2]
  dsimp only
  rw [g3]
  dsimp only
  rw [g4]
  dsimp only
  rw [g5]
  dsimp only
  rw [g6]
theorem tx_inj (ch ch' : ByteArray) (x x' : Tx) (ho : x.ok) (ho' : x'.ok) (hp : plainS ch x = 0) (hp' : plainS ch' x' = 0) (h : stB ch x = stB ch' x') : ch = ch' ∧ { x with se := z16 } = { x' with se := z16 } := by
  have e := rdT_back ch x ho hp
  rw [h, rdT_back ch' x' ho' hp'] at e
  simp only [Prod.mk.injEq] at e
  obtain ⟨e0, e1, e2, e3, e4, e5, e6⟩ := e
  obtain ⟨_, hk1, _⟩ := plainS_zero hp
  obtain ⟨_, hk1', _⟩ := plainS_zero hp'
  refine ⟨?_, ?_⟩
  · obtain ⟨d⟩ := ch
    obtain ⟨d'⟩ := ch'
    dsimp only at e0
    rw [Array.ext' e0]
  · obtain ⟨k, fr, tt, am, fe, nn, se⟩ := x
    obtain ⟨k', fr', tt', am', fe', nn', se'⟩ := x'
    dsimp only at *
    have : k = k' := by omega
    subst this e2 e3 e4 e5 e6
    rfl
theorem vo_inj (ch ch' : ByteArray) (x x' : Vt) (ho : x.fits) (ho' : x'.fits) (hp : plainSv ch x = 0) (hp' : plainSv ch' x' = 0) (h : stBv ch x = stBv ch' x') : ch = ch' ∧ { x with se := z16 } = { x' with se := z16 } := by
  have e := anV_back ch x ho hp
  rw [h, anV_back ch' x' ho' hp'] at e
  simp only [Prod.mk.injEq] at e
  exact ⟨e.1.symm, e.2.1.symm⟩
theorem po_inj (ch ch' : ByteArray) (x x' : Po) (ho : x.ok) (ho' : x'.ok) (hp : plainSp ch x = 0) (hp' : plainSp ch' x' = 0) (h : stBp ch x = stBp ch' x') : ch = ch' ∧ { x with se := z16 } = { x' with se := z16 } := by
  have e := anP_back ch x ho hp
  rw [h, anP_back ch' x' ho' hp'] at e
  simp only [Prod.mk.injEq] at e
  exact ⟨e.1.symm, e.2.1.symm⟩
/-- The seal is not said. -/
theorem tx_same (ch : ByteArray) (x x' : Tx) (h : { x with se := z16 } = { x' with se := z16 }) : stB ch x = stB ch x' := by
  have : txB { x with se := z16 } = txB { x' with se := z16 } := by rw [h]
  unfold stB
  rw [show txB x = txB x' from this]
theorem vo_same (ch : ByteArray) (x x' : Vt) (h : { x with se := z16 } = { x' with se := z16 }) : stBv ch x = stBv ch x' := by
  have : voB { x with se := z16 } = voB { x' with se := z16 } := by rw [h]
  unfold stBv
  rw [show voB x = voB x' from this]
theorem po_same (ch : ByteArray) (x x' : Po) (h : { x with se := z16 } = { x' with se := z16 }) : stBp ch x = stBp ch x' := by
  have : poB { x with se := z16 } = poB { x' with se := z16 } := by rw [h]
  unfold stBp
  rw [show poB x = poB x' from this]
/-- Unlike kinds. -/
theorem tx_vo (ch ch' : ByteArray) (x : Tx) (y : Vt) : stB ch x ≠ stBv ch' y := fun h => by
  unfold stB stBv at h
  rw [leB1, leB1] at h
  have := congrArg (fun l => l.getD 0 0) h
  exact absurd this (by decide : ¬ (84 : UInt8) = 86)
theorem tx_po (ch ch' : ByteArray) (x : Tx) (y : Po) : stB ch x ≠ stBp ch' y := fun h => by
  unfold stB stBp at h
  rw [leB1, leB1] at h
  have := congrArg (fun l => l.getD 0 0) h
  exact absurd this (by decide : ¬ (84 : UInt8) = 80)
theorem vo_po (ch ch' : ByteArray) (x : Vt) (y : Po) : stBv ch x ≠ stBp ch' y := fun h => by
  unfold stBv stBp at h
  rw [leB1, leB1] at h
  have := congrArg (fun l => l.getD 0 0) h
  exact absurd this (by decide : ¬ (86 : UInt8) = 80)
end Go.Proofs.Ytpfjllkmaogafaa
