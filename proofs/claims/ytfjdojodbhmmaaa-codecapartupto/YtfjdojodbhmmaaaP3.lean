/- Unlike lists of values: neither's bytes are a beginning of the other's. Plain lists and numbers. -/
import Derived.Test.YtfjdojodbhmmaaaV4
namespace Go.Proofs.Ytfjdojodbhmmaaa
set_option linter.unusedVariables false

/-- A number that a read of this value may be asked with. -/
def okAsk (k : Int) (n : Nat) (B : List UInt8) (m : Int) : Prop := (k % 9 = 5 → m = B.length) ∧ (k % 9 = 6 ∨ k % 9 = 7 → (B.length : Int) ≤ m) ∧ (k % 9 = 8 → (n : Int) ≤ m)

theorem rget_back2 (rest : List UInt8) (k : Int) (n : Nat) (B : List UInt8) (m : Int) (hn : n < 18446744073709551616) (hB : B.length < 9223372036854775808) (hm : mayP k n) (ho : okAsk k n B m) :
    rget ((enc k n B).1 ++ rest) 0 (k % 9) m 0 = ((val k n B).1, (val k n B).2, (enc k n B).1.length, 0) := by
  obtain ⟨o5, o67, o8⟩ := ho
  by_cases hs : k % 9 = 6 ∨ k % 9 = 7
  · have hb := rbytes_back [] rest B m (o67 hs) (by omega)
    simp only [List.nil_append, List.length_nil, Nat.zero_add] at hb
    have hv : val k n B = (0, B) := by unfold val; rw [if_neg (by omega), if_neg (by omega), if_neg (by omega), if_pos (by omega)]
    rw [hv]
    rcases hs with hk | hk
    · rw [enc_6 hk, rget_6 (by omega)]
      simp only
      rw [hb]
    · rw [enc_7 hk, rget_7 (by omega)]
      simp only
      rw [hb]
  · by_cases h8 : k % 9 = 8
    · have hn8 : n < 9223372036854775808 := by rcases hm with h | h <;> omega
      have hv : val k n B = (n, []) := by unfold val; rw [if_neg (by omega), if_neg (by omega), if_neg (by omega), if_neg (by omega)]
      have hr := rvar_varE [] rest n hn
      simp only [List.nil_append, List.length_nil, Nat.zero_add] at hr
      have o := o8 h8
      rw [enc_8 h8, if_pos hn8, rget_8 (by omega), hv]
      simp only
      unfold rcount
      rw [if_neg (by omega), hr, if_neg (by simp), if_neg (by simp only; omega), if_neg (by simp)]
    · by_cases h5 : k % 9 = 5
      · have h := (rget_back [] rest k n B hn hB hm).2
        have ha : ask k n B = m := by unfold ask; rw [if_pos h5, o5 h5]
        rw [ha] at h
        simpa using h
      · have h := (rget_back [] rest k n B hn hB hm).2
        have hi : ∀ m', rget ((enc k n B).1 ++ rest) 0 (k % 9) m' 0 = rget ((enc k n B).1 ++ rest) 0 (k % 9) (ask k n B) 0 := by
          intro m'
          have hk : k % 9 = 0 ∨ k % 9 = 1 ∨ k % 9 = 2 ∨ k % 9 = 3 ∨ k % 9 = 4 := by omega
          rcases hk with hk | hk | hk | hk | hk
          · rw [rget_0 (by omega), rget_0 (by omega)]
          · rw [rget_1 (by omega), rget_1 (by omega)]
          · rw [rget_2 (by omega), rget_2 (by omega)]
          · rw [rget_3 (by omega), rget_3 (by omega)]
          · rw [rget_4 (by omega), rget_4 (by omega)]
        rw [hi]
        simpa using h

/-- Two values of one kind, a Raw's of one length. -/
def Pair (x y : Pt) : Prop := x.k = y.k ∧ (x.k % 9 = 5 → x.B.length = y.B.length) ∧ mayB x = true ∧ mayB y = true ∧ x.n < 18446744073709551616 ∧ y.n < 18446744073709551616 ∧ x.B.length < 9223372036854775808 ∧ y.B.length < 9223372036854775808

theorem enc_val {x y : Pt} (h : Pair x y) (hv : val x.k x.n x.B = val y.k y.n y.B) : (enc x.k x.n x.B).1 = (enc y.k y.n y.B).1 := by
  obtain ⟨hk, _, hmx, hmy, hnx, hny, _, _⟩ := h
  have mx := mayP_of hmx
  have my := mayP_of hmy
  rw [hk] at hv mx ⊢
  have hkk : y.k % 9 = 0 ∨ y.k % 9 = 1 ∨ y.k % 9 = 2 ∨ y.k % 9 = 3 ∨ y.k % 9 = 4 ∨ y.k % 9 = 5 ∨ y.k % 9 = 6 ∨ y.k % 9 = 7 ∨ y.k % 9 = 8 := by omega
  unfold val at hv
  rcases hkk with h | h | h | h | h | h | h | h | h
  all_goals simp only [h] at hv
  · simp at hv; rw [enc_0 h, enc_0 h]; simp only; rw [hv]
  · simp at hv; rw [enc_1 h, enc_1 h]; simp only; rw [hv]
  · simp at hv; rw [enc_2 h, enc_2 h]; simp only; rw [hv]
  · simp at hv; rw [enc_3 h, enc_3 h, hv]
  · simp at hv; rw [enc_4 h, enc_4 h, hv]
  · simp at hv; rw [enc_5 h, enc_5 h, hv]
  · simp at hv; rw [enc_6 h, enc_6 h, hv]
  · simp at hv; rw [enc_7 h, enc_7 h, hv]
  · simp at hv; rw [enc_8 h, enc_8 h, hv]

theorem pair_read {x y : Pt} (h : Pair x y) (r s : List UInt8) (he : (enc x.k x.n x.B).1 ++ r = (enc y.k y.n y.B).1 ++ s) : val x.k x.n x.B = val y.k y.n y.B ∧ (enc x.k x.n x.B).1 = (enc y.k y.n y.B).1 ∧ r = s := by
  have hp := h
  obtain ⟨hk, h5, hmx, hmy, hnx, hny, hbx, hby⟩ := h
  obtain ⟨m, ox, oy⟩ : ∃ m, okAsk x.k x.n x.B m ∧ okAsk x.k y.n y.B m := by
    by_cases hs : x.k % 9 = 8
    · exact ⟨max (x.n : Int) y.n, ⟨by omega, by omega, by omega⟩, ⟨by omega, by omega, by omega⟩⟩
    · refine ⟨max (x.B.length : Int) y.B.length, ⟨?_, by omega, by omega⟩, ⟨?_, by omega, by omega⟩⟩
      · intro q; have := h5 q; omega
      · intro q; have := h5 q; omega
  have rx := rget_back2 r x.k x.n x.B m hnx hbx (mayP_of hmx) ox
  have ry := rget_back2 s x.k y.n y.B m hny hby (by have := mayP_of hmy; rwa [← hk] at this) oy
  rw [← hk] at he ⊢
  rw [he, ry] at rx
  simp only [Prod.mk.injEq, and_true] at rx
  obtain ⟨e1, e2, e3⟩ := rx
  have ev : val x.k x.n x.B = val x.k y.n y.B := Prod.ext e1.symm e2.symm
  have hh := List.append_inj he e3.symm
  exact ⟨ev, hh.1, hh.2⟩

/-- All pairs alike. -/
def alike (l : List (Pt × Pt)) : Bool := l.all fun p => (val p.1.k p.1.n p.1.B).1 == (val p.2.k p.2.n p.2.B).1 && (val p.1.k p.1.n p.1.B).2 == (val p.2.k p.2.n p.2.B).2

theorem alike_same : ∀ (l : List (Pt × Pt)), (∀ p ∈ l, Pair p.1 p.2) → alike l = true → laidAll (l.map (·.1)) = laidAll (l.map (·.2))
  | [], _, _ => rfl
  | p :: l, h, ha => by
    have hp := h p (by simp)
    simp only [alike, List.all_cons, Bool.and_eq_true, beq_iff_eq] at ha
    have ih := alike_same l (fun q hq => h q (by simp [hq])) (by simpa [alike] using ha.2)
    simp only [List.map_cons, laidAll]
    rw [if_pos hp.2.2.1, if_pos hp.2.2.2.1, ih, enc_val hp (Prod.ext ha.1.1 ha.1.2)]

theorem begin_alike : ∀ (l : List (Pt × Pt)) (r s : List UInt8), (∀ p ∈ l, Pair p.1 p.2) → laidAll (l.map (·.1)) ++ r = laidAll (l.map (·.2)) ++ s → alike l = true
  | [], _, _, _, _ => rfl
  | p :: l, r, s, h, he => by
    have hp := h p (by simp)
    simp only [List.map_cons, laidAll] at he
    rw [if_pos hp.2.2.1, if_pos hp.2.2.2.1, List.append_assoc, List.append_assoc] at he
    obtain ⟨e1, _, e3⟩ := pair_read hp _ _ he
    have ih := begin_alike l r s (fun q hq => h q (by simp [hq])) e3
    simp only [alike, List.all_cons, Bool.and_eq_true, beq_iff_eq]
    exact ⟨⟨by rw [e1], by rw [e1]⟩, by simpa [alike] using ih⟩

theorem take_begin (c d : List UInt8) (h : c.take (min c.length d.length) = d.take (min c.length d.length)) : ∃ r s, c ++ r = d ++ s := by
  rcases Nat.le_total c.length d.length with q | q
  · rw [Nat.min_eq_left q, List.take_length] at h
    refine ⟨d.drop c.length, [], ?_⟩
    have e := List.take_append_drop c.length d
    rw [← h] at e
    rw [List.append_nil]
    exact e
  · rw [Nat.min_eq_right q, List.take_length] at h
    refine ⟨[], c.drop d.length, ?_⟩
    have e := List.take_append_drop d.length c
    rw [h] at e
    rw [List.append_nil]
    exact e.symm
end Go.Proofs.Ytfjdojodbhmmaaa
