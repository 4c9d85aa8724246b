/- WalStands: the walk. -/
import Derived.Test.YtbkbecjgphjpkaaDoorTornW
namespace Go.Proofs.YtbkbecjgphjpkaaDoor
open Go.RowKit
set_option linter.unusedVariables false

theorem Bl.drop1 {w : World} {g o n cp : Nat} {t : It} {ts : List It} (h : Bl w (.slice (some ⟨g, o, none⟩) n cp) (t :: ts)) : Bl w (.slice (some ⟨g, o + 1, none⟩) ts.length (cp - 1)) ts := by
  obtain ⟨aa, cp', e, hl, hx, hc⟩ := h
  cases e
  simp only [List.length_cons] at hl
  refine ⟨_, _, rfl, by omega, by omega, fun j u hu => ?_⟩
  obtain ⟨g', o', e, c, b⟩ := hc (j + 1) u (by simpa using hu)
  cases e
  exact ⟨g, o + 1, rfl, by rw [show o + 1 + j = o + (j + 1) by omega]; exact c, b⟩
theorem Bl.none1 (w : World) (a : Addr) (ha : a.spot = none) : Bl w (.slice (some a) 0 0) [] := ⟨_, 0, rfl, by simp, by simp, fun j t ht => by simp at ht⟩
theorem filter_fit (ts : List It) (h : ∀ r ∈ ts.map (·.2), r.length ≤ 262400) : ts.filter fit = ts := by
  rw [List.filter_eq_self]
  intro t ht
  have := h t.2 (List.mem_map.2 ⟨t, ht, rfl⟩)
  simp [fit, this]
theorem scan_again {bs : List UInt8} {l : List (List UInt8)} {n : Nat} (h : scan bs = (l, n)) : scan (bs.take n) = (l, n) := by
  obtain ⟨i1, i2, i3⟩ := scan_stands _ bs (Nat.lt_succ_self _)
  rw [h] at i1 i2 i3
  simp only at i1 i2 i3
  have hlen : (cat l).length = n := by rw [i3, List.length_take]; omega
  have := scan_cat _ i1
  rw [hlen, i3] at this
  exact this
theorem scan_ahead {bs : List UInt8} {l : List (List UInt8)} {n : Nat} (h : scan bs = (l, n)) : scan (frameB [97] ++ bs) = ([97] :: l, 14 + n) := by
  rw [scan_frame [97] bs (by simp), h]
  rfl
theorem Bs.cut {w : World} {a : Addr} {N cap : Nat} {bs : List UInt8} (h : Bs w (.slice (some a) N cap) bs) (n : Nat) (hn : n ≤ bs.length) : Bs w (.slice (some a) n cap) (bs.take n) := by
  rcases h with ⟨q, _⟩ | ⟨a', c', q, h1, h2, h3⟩
  · cases q
  · cases q
    refine Or.inr ⟨a, cap, by simp; omega, by simp; omega, h2, fun j u hu => ?_⟩
    rw [List.getElem?_take] at hu
    split at hu
    · exact h3 j u hu
    · cases hu

set_option maxRecDepth 100000 in
set_option maxHeartbeats 4000000 in
theorem stands_walk (w : World) (v : Value) (bs : List UInt8) (hb : Bs w v bs) (hL : LaidT w) (hle : bs.length ≤ 1073741824) :
    Calls Tryd.prog 5 #[v] w fun e w' => e = .returned (.bool true) ∧ Turn no w w' := by
  have c1 := alive20 w hL
  obtain ⟨i1, i2, i3⟩ := scan_stands _ bs (Nat.lt_succ_self _)
  have c2 := fun W (t : Turn no w W) => scan_any W _ bs (hb.turn_no t) (hL.turn_no t) (by omega)
  obtain ⟨sc, hsc⟩ : ∃ sc, scan bs = sc := ⟨_, rfl⟩
  rw [hsc] at i1 i2 i3 c2
  obtain ⟨l, n⟩ := sc
  simp only at i1 i2 i3 c2
  have hcat : (cat l).length = n := by rw [i3, List.length_take]; omega
  obtain ⟨va, N, vc, rfl, hN⟩ : ∃ a n c, v = .slice a n c ∧ Hid (n = bs.length) := by
    obtain ⟨a, c, e⟩ := hb.slice
    exact ⟨a, _, c, e, rfl⟩
  have hnN : (n : Int) ≤ (N : Int) := by rw [hN.out]; omega
  have hN2 : N ≤ 1073741824 := by rw [hN.out]; exact hle
  have hn0 : n ≤ bs.length := i2
  replace hsc := Hid.mk' hsc
  replace c2 := Hid.mk' c2
  replace i3 := Hid.mk' i3
  replace i1 := Hid.mk' i1
  replace hcat := Hid.mk' hcat
  clear hle i2
  go_enter Tryd.func5, Tryd.ntmps5
  go_wp2_with fail
  refine c1.mono ?_
  rintro e w1 ⟨rfl, t1⟩
  have c2 := c2.out w1 t1
  clear c1
  go_wp2_with fail
  refine c2.mono ?_
  rintro e w2 ⟨vl, rfl, X, t2⟩
  have T2 := t1.then_no t2
  obtain ⟨ts, q1, q2, q3⟩ := X.bl
  have c3 := laid21 w2 _ ts q3 (hL.turn_no T2) (by rw [show (List.map (fun x => x.snd) ts) = l from q1, hcat.out]; omega)
  rw [filter_fit ts (by rw [show (List.map (fun x => x.snd) ts) = l from q1]; exact i1.out)] at c3
  obtain ⟨xa, xc, rfl⟩ := X.form
  obtain ⟨L, hl⟩ : ∃ L, l.length = L := ⟨_, rfl⟩
  rw [hl] at q2 q3 X c3 ⊢
  have hlI : ((L : Int) != (L : Int)) = false := by simp
  have hLb : (L : Int) ≤ 1073741824 := by have := cat_count l; have := hcat.out; omega
  have hnI : ((n : Int) != (n : Int)) = false := by simp
  clear c2
  go_wp2_with fail
  refine c3.mono ?_
  rintro e w3 ⟨vb, ve, vm, rfl, K⟩
  have T3 := T2.then_no K.t
  obtain ⟨ba, nb, bc, rfl, hnb⟩ := K.b.fn
  obtain ⟨ea, ne, ec, rfl, hne⟩ := K.e.fn
  obtain ⟨la, nl, lc, rfl, hnl⟩ := K.l.fn
  rw [List.length_map] at hnl
  obtain rfl : nl = L := by have := hnl.out; omega
  have X3 := q3.turn_no K.t
  have Kb := K.b.bs
  rw [show (List.map (fun x => x.snd) ts) = l from q1, i3.out] at Kb
  clear c3 hnb hne hnl X q3 K
  have HB := hb
  rcases hb with ⟨e, e0⟩ | ⟨a, cap, e, h1, h2, h3⟩
  · cases e
    subst e0
    obtain rfl : n = 0 := by simpa using hn0
    have hB5 : Bs w3 (.slice none 0 0) (([] : List UInt8).take 0) := Or.inl ⟨rfl, rfl⟩
    have c4 := same_any w3 _ _ _ _ Kb hB5
    rw [beq_self_eq_true] at c4
    go_wp2_with fail
    refine c4.mono ?_
    rintro e w4 ⟨rfl, m4, rfl⟩
    clear c4
    have t4 := (Turn.refl no w3).drewN m4
    have B4 := hB5.turn_no t4
    have X4 := X3.turn_no t4
    have T4 := T3.then_no t4
    generalize w3.drewN m4 = w4 at *
    clear hB5 X3 T3 t4 Kb
    go_wp2_with (at_builtin; refine wpList_append_src rfl (.tmp 49) (.tmp 52) rfl Tryd.underlying22 Tryd.info5 rfl _ [] rfl (own_empty w4 5) _ (([] : List UInt8).take 0).length ((([] : List UInt8).take 0).map bv) rfl ?src ?b ?m ?_)
    try case src => exact Bs.src Tryd.underlying22 (B4.turn_no ((Turn.refl no w4).alloc _))
    try case b => first | (simp; done) | (simp; omega)
    try case m => unfold maxLen; first | (simp; done) | (simp; omega)
    intro v5 w5 O5 g5
    try intro _
    have f0 : ∀ k, (Value.slice (some ⟨w4.heap.size, 0, none⟩) 0 0).ownBlock = some k → w4.heap.size ≤ k := fun k q => by cases q; exact Nat.le_refl _
    have t5 : Turn no w4 w5 := ((Turn.refl no w4).alloc _).fresh g5 f0
    have O5 : Own w5 5 v5 ((([] : List UInt8).take 0).map bv) := by first | exact O5 | (rw [List.map_take]; exact O5)
    have T5 := T4.then_no t5
    have X5 := X4.turn_no t5
    have c5 := scan_any w5 _ _ O5.bs (hL.turn_no T5) (by first | (simp; done) | (simp; omega))
    rw [scan_again hsc.out] at c5
    obtain ⟨oa, on, oc, rfl⟩ := O5.form
    clear g5 O5 t5 B4 T4 X4
    go_wp2_with fail
    refine c5.mono ?_
    rintro e w6 ⟨v6, rfl, Y, t6⟩
    obtain ⟨ys, y1, y2, y3⟩ := Y.bl
    obtain ⟨ya, yc, rfl⟩ := Y.form
    have X6 := X5.turn_no t6
    have T6 := T5.then_no t6
    have c6 := sameLists18 w6 _ _ _ _ y3 X6 (by rw [y1, q1])
    clear c5 Y X5 T5 t6 y3
    simp only [hl] at c6 ⊢
    go_wp2_with fail
    refine c6.mono ?_
    rintro e w7 ⟨rfl, t7⟩
    have T7 := T6.then_no t7
    have X7 := X6.turn_no t7
    have TA := (Turn.refl no w7).alloc (.cells #[.int .u8 97] 5)
    have c7 := frame_good _ _ [97] (bs_lit w7) ((hL.turn_no T7).turn_no TA) (by simp)
    clear c6 X6 T6 t7
    go_wp2_with fail
    refine c7.mono ?_
    rintro e w8 ⟨f, rfl, F, ff, t8⟩
    have t8 := TA.then_no t8
    have T8 := T7.then_no t8
    have X8 := X7.turn_no t8
    obtain ⟨fa, fn, fc, rfl, hfn⟩ := F.fn
    rw [List.length_map, frameB_len] at hfn
    obtain rfl : fn = 14 := hfn.out
    clear c7 hfn X7 T7 t8 TA
    go_wp2_with (at_builtin; refine wpList_append_src rfl (.tmp 72) (.tmp 73) rfl Tryd.underlying22 Tryd.info5 rfl _ [] rfl (own_empty w8 5) _ (frameB [97]).length ((frameB [97]).map bv) rfl ?src ?b ?m ?_)
    case src => exact Bs.src Tryd.underlying22 (F.bs.turn_no ((Turn.refl no w8).alloc _))
    case b => rw [frameB_len]; simp
    case m => unfold maxLen; rw [frameB_len]; simp
    intro v9 w9 O9 g9
    try intro _
    have f0 : ∀ k, (Value.slice (some ⟨w8.heap.size, 0, none⟩) 0 0).ownBlock = some k → w8.heap.size ≤ k := fun k q => by cases q; exact Nat.le_refl _
    have t9 : Turn no w8 w9 := ((Turn.refl no w8).alloc _).fresh g9 f0
    have f9 := g9.fresh f0 (by simp)
    have O9 : Own w9 5 v9 ((frameB [97]).map bv) := O9
    obtain ⟨pa, pn, pc, rfl⟩ := O9.form
    clear g9
    go_wp2_with (at_builtin; refine wpList_append_src rfl (.tmp 74) (.tmp 75) rfl Tryd.underlying22 Tryd.info5 rfl _ _ rfl O9 _ ([] : List UInt8).length (([] : List UInt8).map bv) rfl ?src ?b ?m ?_)
    try case src => exact Bs.src Tryd.underlying22 (HB.turn_no (T8.then_no t9))
    try case b => rw [List.length_map, frameB_len]; first | (simp; done) | (simp; omega)
    try case m => unfold maxLen; rw [List.length_map, frameB_len]; first | (simp; done) | (simp; omega)
    intro v10 w10 O10 g10
    try intro _
    have t10 : Turn no w8 w10 := t9.fresh g10 f9
    have O10 : Own w10 5 v10 ((frameB [97] ++ ([] : List UInt8)).map bv) := by first | exact O10 | (rw [List.map_append]; exact O10) | (rw [List.append_nil]; exact O10)
    have T10 := T8.then_no t10
    have X10 := X8.turn_no t10
    have c10 := scan_any w10 _ _ O10.bs (hL.turn_no T10) (by rw [List.length_append, frameB_len]; first | (simp; done) | (simp; omega))
    rw [scan_ahead hsc.out] at c10
    obtain ⟨ja, jn, jc, rfl⟩ := O10.form
    clear g10 O10 t10 t9 O9 f9 F T8 X8
    go_wp2_with fail
    refine c10.mono ?_
    rintro e w11 ⟨v11, rfl, Z, t11⟩
    have T11 := T10.then_no t11
    have X11 := X10.turn_no t11
    obtain ⟨zs, z1, z2, z3⟩ := Z.bl
    obtain ⟨zg, zcap, zu, rfl, zc, zcell, zb⟩ := Z.one
    have hz2 : zs.length = l.length + 1 := by simpa using z2
    clear c10 Z T10 X10 t11
    obtain ⟨z0, zr, rfl⟩ : ∃ a b, zs = a :: b := by
      cases zs with
      | nil => simp at hz2
      | cons a b => exact ⟨a, b, rfl⟩
    have z4 : zr.map (·.2) = l := by simpa using congrArg List.tail z1
    have z5 := z3.drop1
    have hzl : zr.length = nl := by rw [← hl, ← z4]; simp
    rw [hzl] at z5
    have TB := (Turn.refl no w11).alloc (.cells #[.int .u8 97] 5)
    have c11 := same_any _ _ _ _ _ (zb.turn_no TB) (bs_lit w11)
    rw [show (([97] : List UInt8) == [97]) = true from rfl] at c11
    have T12 := T11.then_no TB
    have X12 := X11.turn_no TB
    have Z12 := z5.turn_no TB
    have he : zr.map (·.2) = ts.map (·.2) := by rw [z4, q1]
    obtain ⟨ua, uc, rfl⟩ := zb.slice
    rw [hl] at zc ⊢
    have hj : (((14 + 0 : Nat) : Int) == 14 + (((0 : Nat)) : Int)) = true := by simp
    have hj2 : (((nl + 1 : Nat) : Int) == (nl : Int) + 1) = true := by simp
    have hj3 : (((0 : Nat) : Int)) ≤ 1073741824 := by omega
    clear T11 X11 z5 TB zb z1 z2 z3 z4 hz2
    replace he := Hid.mk' he
    replace hzl := Hid.mk' hzl
    clear q1 q2
    by_cases hcap1 : zcap = 1
    · subst hcap1
      obtain rfl : nl = 0 := by omega
      obtain rfl : zr = [] := List.eq_nil_of_length_eq_zero hzl.out
      go_wp2_with fail
      refine c11.mono ?_
      rintro e w12 ⟨rfl, m12, rfl⟩
      have t13 := (Turn.refl no _).drewN (w := w11.alloc (.cells #[.int .u8 97] 5)) m12
      go_wp2_with fail
      refine (sameLists18 _ _ _ [] _ (Bl.none1 _ ⟨zg, 0, none⟩ rfl) (X12.turn_no t13) he.out).mono ?_
      rintro e w13 ⟨rfl, t14⟩
      go_wp2_with fail
      go_ret
      exact ⟨rfl, (T12.then_no t13).then_no t14⟩
    · go_wp2_with fail
      refine c11.mono ?_
      rintro e w12 ⟨rfl, m12, rfl⟩
      have t13 := (Turn.refl no _).drewN (w := w11.alloc (.cells #[.int .u8 97] 5)) m12
      go_wp2_with fail
      refine (sameLists18 _ _ _ _ _ (Z12.turn_no t13) (X12.turn_no t13) he.out).mono ?_
      rintro e w13 ⟨rfl, t14⟩
      go_wp2_with fail
      go_ret
      exact ⟨rfl, (T12.then_no t13).then_no t14⟩
  · cases e
    have ha : a.add 0 = a := by simp [Addr.add]
    have hcap : (n : Int) ≤ (vc : Int) := by omega
    have hB5 : Bs w3 (.slice (some a) n vc) (bs.take n) := (HB.turn_no T3).cut n hn0
    clear h3
    have c4 := same_any w3 _ _ _ _ Kb hB5
    rw [beq_self_eq_true] at c4
    go_wp2_with fail
    refine c4.mono ?_
    rintro e w4 ⟨rfl, m4, rfl⟩
    clear c4
    have t4 := (Turn.refl no w3).drewN m4
    have B4 := hB5.turn_no t4
    have X4 := X3.turn_no t4
    have T4 := T3.then_no t4
    generalize w3.drewN m4 = w4 at *
    clear hB5 X3 T3 t4 Kb
    go_wp2_with (at_builtin; refine wpList_append_src rfl (.tmp 49) (.tmp 52) rfl Tryd.underlying22 Tryd.info5 rfl _ [] rfl (own_empty w4 5) _ (bs.take n).length ((bs.take n).map bv) rfl ?src ?b ?m ?_)
    try case src => exact Bs.src Tryd.underlying22 (B4.turn_no ((Turn.refl no w4).alloc _))
    try case b => first | (simp; done) | (simp; omega)
    try case m => unfold maxLen; first | (simp; done) | (simp; omega)
    intro v5 w5 O5 g5
    try intro _
    have f0 : ∀ k, (Value.slice (some ⟨w4.heap.size, 0, none⟩) 0 0).ownBlock = some k → w4.heap.size ≤ k := fun k q => by cases q; exact Nat.le_refl _
    have t5 : Turn no w4 w5 := ((Turn.refl no w4).alloc _).fresh g5 f0
    have O5 : Own w5 5 v5 ((bs.take n).map bv) := by first | exact O5 | (rw [List.map_take]; exact O5)
    have T5 := T4.then_no t5
    have X5 := X4.turn_no t5
    have c5 := scan_any w5 _ _ O5.bs (hL.turn_no T5) (by first | (simp; done) | (simp; omega))
    rw [scan_again hsc.out] at c5
    obtain ⟨oa, on, oc, rfl⟩ := O5.form
    clear g5 O5 t5 B4 T4 X4
    go_wp2_with fail
    refine c5.mono ?_
    rintro e w6 ⟨v6, rfl, Y, t6⟩
    obtain ⟨ys, y1, y2, y3⟩ := Y.bl
    obtain ⟨ya, yc, rfl⟩ := Y.form
    have X6 := X5.turn_no t6
    have T6 := T5.then_no t6
    have c6 := sameLists18 w6 _ _ _ _ y3 X6 (by rw [y1, q1])
    clear c5 Y X5 T5 t6 y3
    simp only [hl] at c6 ⊢
    go_wp2_with fail
    refine c6.mono ?_
    rintro e w7 ⟨rfl, t7⟩
    have T7 := T6.then_no t7
    have X7 := X6.turn_no t7
    have TA := (Turn.refl no w7).alloc (.cells #[.int .u8 97] 5)
    have c7 := frame_good _ _ [97] (bs_lit w7) ((hL.turn_no T7).turn_no TA) (by simp)
    clear c6 X6 T6 t7
    go_wp2_with fail
    refine c7.mono ?_
    rintro e w8 ⟨f, rfl, F, ff, t8⟩
    have t8 := TA.then_no t8
    have T8 := T7.then_no t8
    have X8 := X7.turn_no t8
    obtain ⟨fa, fn, fc, rfl, hfn⟩ := F.fn
    rw [List.length_map, frameB_len] at hfn
    obtain rfl : fn = 14 := hfn.out
    clear c7 hfn X7 T7 t8 TA
    go_wp2_with (at_builtin; refine wpList_append_src rfl (.tmp 72) (.tmp 73) rfl Tryd.underlying22 Tryd.info5 rfl _ [] rfl (own_empty w8 5) _ (frameB [97]).length ((frameB [97]).map bv) rfl ?src ?b ?m ?_)
    case src => exact Bs.src Tryd.underlying22 (F.bs.turn_no ((Turn.refl no w8).alloc _))
    case b => rw [frameB_len]; simp
    case m => unfold maxLen; rw [frameB_len]; simp
    intro v9 w9 O9 g9
    try intro _
    have f0 : ∀ k, (Value.slice (some ⟨w8.heap.size, 0, none⟩) 0 0).ownBlock = some k → w8.heap.size ≤ k := fun k q => by cases q; exact Nat.le_refl _
    have t9 : Turn no w8 w9 := ((Turn.refl no w8).alloc _).fresh g9 f0
    have f9 := g9.fresh f0 (by simp)
    have O9 : Own w9 5 v9 ((frameB [97]).map bv) := O9
    obtain ⟨pa, pn, pc, rfl⟩ := O9.form
    clear g9
    go_wp2_with (at_builtin; refine wpList_append_src rfl (.tmp 74) (.tmp 75) rfl Tryd.underlying22 Tryd.info5 rfl _ _ rfl O9 _ bs.length (bs.map bv) rfl ?src ?b ?m ?_)
    try case src => exact Bs.src Tryd.underlying22 (HB.turn_no (T8.then_no t9))
    try case b => rw [List.length_map, frameB_len]; first | (simp; done) | (simp; omega)
    try case m => unfold maxLen; rw [List.length_map, frameB_len]; first | (simp; done) | (simp; omega)
    intro v10 w10 O10 g10
    try intro _
    have t10 : Turn no w8 w10 := t9.fresh g10 f9
    have O10 : Own w10 5 v10 ((frameB [97] ++ bs).map bv) := by first | exact O10 | (rw [List.map_append]; exact O10) | (rw [List.append_nil]; exact O10)
    have T10 := T8.then_no t10
    have X10 := X8.turn_no t10
    have c10 := scan_any w10 _ _ O10.bs (hL.turn_no T10) (by rw [List.length_append, frameB_len]; first | (simp; done) | (simp; omega))
    rw [scan_ahead hsc.out] at c10
    obtain ⟨ja, jn, jc, rfl⟩ := O10.form
    clear g10 O10 t10 t9 O9 f9 F T8 X8
    go_wp2_with fail
    refine c10.mono ?_
    rintro e w11 ⟨v11, rfl, Z, t11⟩
    have T11 := T10.then_no t11
    have X11 := X10.turn_no t11
    obtain ⟨zs, z1, z2, z3⟩ := Z.bl
    obtain ⟨zg, zcap, zu, rfl, zc, zcell, zb⟩ := Z.one
    have hz2 : zs.length = l.length + 1 := by simpa using z2
    clear c10 Z T10 X10 t11
    obtain ⟨z0, zr, rfl⟩ : ∃ a b, zs = a :: b := by
      cases zs with
      | nil => simp at hz2
      | cons a b => exact ⟨a, b, rfl⟩
    have z4 : zr.map (·.2) = l := by simpa using congrArg List.tail z1
    have z5 := z3.drop1
    have hzl : zr.length = nl := by rw [← hl, ← z4]; simp
    rw [hzl] at z5
    have TB := (Turn.refl no w11).alloc (.cells #[.int .u8 97] 5)
    have c11 := same_any _ _ _ _ _ (zb.turn_no TB) (bs_lit w11)
    rw [show (([97] : List UInt8) == [97]) = true from rfl] at c11
    have T12 := T11.then_no TB
    have X12 := X11.turn_no TB
    have Z12 := z5.turn_no TB
    have he : zr.map (·.2) = ts.map (·.2) := by rw [z4, q1]
    obtain ⟨ua, uc, rfl⟩ := zb.slice
    rw [hl] at zc ⊢
    have hj : (((14 + n : Nat) : Int) == 14 + (((n : Nat)) : Int)) = true := by simp
    have hj2 : (((nl + 1 : Nat) : Int) == (nl : Int) + 1) = true := by simp
    have hj3 : (((n : Nat) : Int)) ≤ 1073741824 := by omega
    clear T11 X11 z5 TB zb z1 z2 z3 z4 hz2
    replace he := Hid.mk' he
    replace hzl := Hid.mk' hzl
    clear q1 q2
    by_cases hcap1 : zcap = 1
    · subst hcap1
      obtain rfl : nl = 0 := by omega
      obtain rfl : zr = [] := List.eq_nil_of_length_eq_zero hzl.out
      go_wp2_with fail
      refine c11.mono ?_
      rintro e w12 ⟨rfl, m12, rfl⟩
      have t13 := (Turn.refl no _).drewN (w := w11.alloc (.cells #[.int .u8 97] 5)) m12
      go_wp2_with fail
      refine (sameLists18 _ _ _ [] _ (Bl.none1 _ ⟨zg, 0, none⟩ rfl) (X12.turn_no t13) he.out).mono ?_
      rintro e w13 ⟨rfl, t14⟩
      go_wp2_with fail
      go_ret
      exact ⟨rfl, (T12.then_no t13).then_no t14⟩
    · go_wp2_with fail
      refine c11.mono ?_
      rintro e w12 ⟨rfl, m12, rfl⟩
      have t13 := (Turn.refl no _).drewN (w := w11.alloc (.cells #[.int .u8 97] 5)) m12
      go_wp2_with fail
      refine (sameLists18 _ _ _ _ _ (Z12.turn_no t13) (X12.turn_no t13) he.out).mono ?_
      rintro e w13 ⟨rfl, t14⟩
      go_wp2_with fail
      go_ret
      exact ⟨rfl, (T12.then_no t13).then_no t14⟩
end Go.Proofs.YtbkbecjgphjpkaaDoor
