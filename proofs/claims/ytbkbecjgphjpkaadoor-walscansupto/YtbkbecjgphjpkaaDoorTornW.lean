/- WalTorn: the walk. -/
import Derived.Test.YtbkbecjgphjpkaaDoorL4
namespace Go.Proofs.YtbkbecjgphjpkaaDoor
open Go.RowKit
set_option linter.unusedVariables false

theorem fit_mem (ts : List It) : ∀ r ∈ (ts.filter fit).map (·.2), r.length ≤ 262400 := by
  intro r hr
  obtain ⟨t, ht, rfl⟩ := List.mem_map.1 hr
  have := (List.mem_filter.1 ht).2
  simpa [fit] using this
theorem Bl.each {w : World} {v : Value} {ts : List It} (h : Bl w v ts) : ∀ t ∈ ts, Bs w t.1 t.2 := by
  intro t ht
  obtain ⟨_, _, _, _, _, hc⟩ := h
  obtain ⟨j, hj, rfl⟩ := List.mem_iff_getElem.1 ht
  obtain ⟨_, _, _, _, hb⟩ := hc j ts[j] (List.getElem?_eq_getElem hj)
  exact hb
theorem Own.shape2 {w : World} {e : TypeId} {a : Option Addr} {n c : Nat} {xs : List Value} (h : Own w e (.slice a n c) xs) : (a = none ∧ n = 0 ∧ c = 0 ∧ xs = []) ∨ ∃ q, a = some ⟨q, 0, none⟩ ∧ n ≤ c ∧ c ≤ 9223372036854775807 := by
  rcases h.shape with ⟨e, q⟩ | ⟨g, cap, cur, e, _, h1, h2, _⟩
  · cases e; exact Or.inl ⟨rfl, rfl, rfl, q⟩
  · cases e
    simp only [maxLen] at h2
    exact Or.inr ⟨g, rfl, h1, by omega⟩
theorem Ls.own {B : Nat} {w : World} {v : Value} {l : List (List UInt8)} (h : Ls B w v l) : ∃ vs : List Value, vs.length = l.length ∧ Own w 22 v vs := by
  obtain ⟨vs, h1, h2, _⟩ := h
  exact ⟨vs, h1, h2⟩
theorem own_take {w : World} {q n c : Nat} {bs : List UInt8} (h : Own w 5 (.slice (some ⟨q, 0, none⟩) n c) (bs.map bv)) (m : Nat) (hm : m ≤ bs.length) : Bs w (.slice (some ⟨q, 0, none⟩) m c) (bs.take m) := by
  rcases h.shape with ⟨e, _⟩ | ⟨g, cap, cur, e, _, h1, h2, _⟩
  · cases e
  · cases e
    rw [List.length_map] at h1
    refine Or.inr ⟨⟨q, 0, none⟩, c, by simp; omega, by simp; omega, h2, fun j u hu => ?_⟩
    rw [Addr.add_lit, Nat.zero_add]
    rw [List.getElem?_take] at hu
    split at hu
    · exact h.cell j (bv u) (by simp [hu])
    · cases hu

set_option maxRecDepth 100000 in
set_option maxHeartbeats 4000000 in
theorem torn_walk (w : World) (vr vt : Value) (ts : List It) (tail : List UInt8) (cut : Int) (h : Bl w vr ts) (ht : Bs w vt tail) (hL : LaidT w) (h1 : -9223372036854775808 ≤ cut) (h2 : cut < 9223372036854775808) (hle : (cat (ts.map (·.2))).length ≤ 1073741824) (hle2 : tail.length ≤ 1073741824) :
    Calls Tryd.prog 6 #[vr, .int .i64 cut, vt] w fun e w' => e = .returned (.bool true) ∧ Turn no w w' := by
  have c1 := alive20 w hL
  obtain ⟨ra, rc, rfl⟩ := h.form
  obtain ⟨ta, tc, rfl⟩ := ht.slice
  go_enter Tryd.func6, Tryd.ntmps6
  go_wp2_with fail
  refine c1.mono ?_
  rintro e w1 ⟨rfl, t1⟩
  have c2 := laid21 w1 _ ts (h.turn_no t1) (hL.turn_no t1) (by omega)
  clear c1
  go_wp2_with fail
  refine c2.mono ?_
  rintro e w2 ⟨vb, ve, vl, rfl, K⟩
  have T2 := t1.then_no K.t
  have hgs : ∀ t ∈ ts.filter fit, Bs w t.1 t.2 := fun t q => h.each t (List.mem_filter.1 q).1
  have hfm := fit_mem ts
  have hcl : (cat ((ts.filter fit).map (·.2))).length ≤ 1073741824 := Nat.le_trans (cat_le (List.Sublist.map _ List.filter_sublist)) hle
  generalize ts.filter fit = g at *
  have U1 := upto_all _ hfm
  have U2 := upto_torn _ hfm
  obtain ⟨ba, nb, bc, rfl, hnb⟩ := K.b.fn
  obtain ⟨ea, ne, ec, rfl, hne⟩ := K.e.fn
  obtain ⟨la, nl, lc, rfl, hnl⟩ := K.l.fn
  rw [List.length_map] at hnb hnl
  have hnb' : nb ≤ 1073741824 := by rw [hnb.out]; exact hcl
  have c3 := upTo22 w2 _ _ _ _ g nb K.b.bs K.e K.l (fun t q => (hgs t q).turn_no T2) (hL.turn_no T2) (by omega) (by omega) (by rw [hnb.out]; exact U1)
  have hsh := K.b.shape2
  clear c2 U1
  have hnb2 : (nb : Int) ≤ 1073741824 := by omega
  go_wp2_with fail
  refine c3.mono ?_
  rintro e w3 ⟨rfl, t3⟩
  have K3 := K.turn_no t3
  have T3 := T2.then_no t3
  have c4 := mod23 w3 cut (nb + 1) h1 h2 (by omega) (by omega)
  have e4 : ((nb + 1 : Nat) : Int) = (nb : Int) + 1 := by omega
  rw [e4] at c4
  clear c3 K T2 t3
  go_wp2_with fail
  refine c4.mono ?_
  rintro e w4 ⟨m, hm, rfl, rfl⟩
  clear c4
  rcases hsh with ⟨rfl, rfl, rfl, hnil⟩ | ⟨q, rfl, hbc, hbc2⟩
  · have hm0 : m = 0 := by omega
    clear hnil
    subst hm0
    have hB5 : Bs w4 (.slice none 0 0) ((cat (g.map (·.snd))).take 0) := Or.inl ⟨rfl, by simp⟩
    go_wp2_with (at_builtin; refine wpList_append_src rfl (.tmp 33) (.tmp 36) rfl Tryd.underlying22 Tryd.info5 rfl _ [] rfl (own_empty w4 5) _ ((cat (g.map (·.snd))).take 0).length (((cat (g.map (·.snd))).take 0).map bv) rfl ?src ?b ?m ?_)
    try case src => exact Bs.src Tryd.underlying22 (hB5.turn_no ((Turn.refl no w4).alloc _))
    try case b => first | (simp; done) | (simp; omega)
    try case m => unfold maxLen; first | (simp; done) | (simp; omega)
    intro v5 w5 O5 g5
    try intro _
    have f0 : ∀ k, (Value.slice (some ⟨w4.heap.size, 0, none⟩) 0 0).ownBlock = some k → w4.heap.size ≤ k := fun k q => by cases q; exact Nat.le_refl _
    have t5 : Turn no w4 w5 := ((Turn.refl no w4).alloc _).fresh g5 f0
    have O5 : Own w5 5 v5 (((cat (g.map (·.snd))).take 0).map bv) := by first | exact O5 | (rw [List.map_take]; exact O5)
    have K5 := K3.turn_no t5
    have T5 := T3.then_no t5
    have c5 := upTo22 w5 _ _ _ _ g 0 O5.bs K5.e K5.l (fun t q => (hgs t q).turn_no T5) (hL.turn_no T5) (by first | (simp; done) | (simp; omega)) (by omega) (U2 0)
    obtain ⟨va, vn, vc, rfl⟩ := O5.form
    clear g5 O5 t5 hB5
    go_wp2_with fail
    refine c5.mono ?_
    rintro e w6 ⟨rfl, t6⟩
    have K6 := K5.turn_no t6
    have T6 := T5.then_no t6
    clear c5 K3 K5 T3 T5 t6
    go_wp2_with (at_builtin; refine wpList_append_src rfl (.tmp 44) (.tmp 45) rfl Tryd.underlying22 Tryd.info5 rfl _ [] rfl (own_empty w6 5) _ (cat (g.map (·.snd))).length ((cat (g.map (·.snd))).map bv) rfl ?src ?b ?m ?_)
    case src => exact Bs.src Tryd.underlying22 (K6.b.bs.turn_no ((Turn.refl no w6).alloc _))
    case b => simp; omega
    case m => unfold maxLen; simp; omega
    intro v7 w7 O7 g7
    try intro _
    have f0 : ∀ k, (Value.slice (some ⟨w6.heap.size, 0, none⟩) 0 0).ownBlock = some k → w6.heap.size ≤ k := fun k q => by cases q; exact Nat.le_refl _
    have t7 : Turn no w6 w7 := ((Turn.refl no w6).alloc _).fresh g7 f0
    have f7 := g7.fresh f0 (by simp)
    have O7 : Own w7 5 v7 ((cat (g.map (·.snd))).map bv) := O7
    obtain ⟨xa, xn, xc, rfl⟩ := O7.form
    clear g7
    go_wp2_with (at_builtin; refine wpList_append_src rfl (.tmp 46) (.tmp 47) rfl Tryd.underlying22 Tryd.info5 rfl _ _ rfl O7 _ tail.length (tail.map bv) rfl ?src ?b ?m ?_)
    case src => exact Bs.src Tryd.underlying22 (ht.turn_no (T6.then_no t7))
    case b => simp; omega
    case m => unfold maxLen; simp; omega
    intro v8 w8 O8 g8 _
    have t8 : Turn no w6 w8 := t7.fresh g8 f7
    have O8 : Own w8 5 v8 ((cat (g.map (·.snd)) ++ tail).map bv) := by rw [List.map_append]; exact O8
    have K8 := K6.turn_no t8
    have T8 := T6.then_no t8
    have c9 := scan_any w8 _ _ O8.bs (hL.turn_no T8) (by simp; omega)
    rw [scan_cat_tail _ hfm] at c9
    obtain ⟨ya, yn, yc, rfl⟩ := O8.form
    clear g8 t7 O7 f7 t8 K6 T6
    go_wp2_with fail
    refine c9.mono ?_
    rintro e w9 ⟨vx, rfl, X, t9⟩
    have K9 := K8.turn_no t9
    have T9 := T8.then_no t9
    clear c9 K8 T8 t9 O8
    obtain ⟨xs, q1, q2, q3⟩ := X.bl
    obtain ⟨vs, q4, q5⟩ := X.own
    obtain ⟨pa, pc, rfl⟩ := X.form
    have hXl : (g.map (·.snd) ++ (scan tail).1).length = nl + (scan tail).1.length := by rw [List.length_append, List.length_map, hnl.out]
    have hq4 : (((0 : Nat)) : Int) ≤ (((cat (g.map (·.snd))).length + (scan tail).2 : Nat) : Int) := by have := hnb.out; omega
    have q6 := q5.shape2
    rw [hXl] at q6 q3 q2 ⊢
    have q7 := q3.take nl (by omega)
    have BL := Own.bl K9.l (fun t q => (hgs t q).turn_no T9)
    have he : (xs.take nl).map (·.2) = g.map (·.2) := by rw [List.map_take, q1, List.take_left' (by rw [List.length_map, hnl.out])]
    obtain ⟨z1, hz1⟩ : ∃ z, (cat (g.map (·.snd))).length + (scan tail).2 = z := ⟨_, rfl⟩
    obtain ⟨z2, hz2⟩ : ∃ z, nl + (scan tail).1.length = z := ⟨_, rfl⟩
    rw [hz1] at hq4 ⊢
    rw [hz2] at q6 q3 ⊢
    have hz3 : (nl : Int) ≤ (z2 : Int) := by omega
    have c10 := sameLists18 w9 _ _ _ _ q7 BL he
    clear hz1 hz2 q1 q2 q3 q4 q5 hXl
    rcases q6 with ⟨rfl, rfl, rfl, _⟩ | ⟨q', rfl, hpc, hpc2⟩
    · have hnl0 : nl = 0 := by omega
      subst hnl0
      go_wp2_with fail
      refine c10.mono ?_
      rintro e w10 ⟨rfl, t10⟩
      go_wp2_with fail
      go_ret
      exact ⟨rfl, T9.then_no t10⟩
    · have hz4 : (nl : Int) ≤ (pc : Int) := by omega
      go_wp2_with fail
      refine c10.mono ?_
      rintro e w10 ⟨rfl, t10⟩
      go_wp2_with fail
      go_ret
      exact ⟨rfl, T9.then_no t10⟩
  · have hm2 : (m : Int) ≤ (bc : Int) := by omega
    have hB5 : Bs w4 (.slice (some ⟨q, 0, none⟩) m bc) ((cat (g.map (·.snd))).take m) := own_take K3.b m (by rw [← hnb.out]; omega)
    go_wp2_with (at_builtin; refine wpList_append_src rfl (.tmp 33) (.tmp 36) rfl Tryd.underlying22 Tryd.info5 rfl _ [] rfl (own_empty w4 5) _ ((cat (g.map (·.snd))).take m).length (((cat (g.map (·.snd))).take m).map bv) rfl ?src ?b ?m ?_)
    try case src => exact Bs.src Tryd.underlying22 (hB5.turn_no ((Turn.refl no w4).alloc _))
    try case b => first | (simp; done) | (simp; omega)
    try case m => unfold maxLen; first | (simp; done) | (simp; omega)
    intro v5 w5 O5 g5
    try intro _
    have f0 : ∀ k, (Value.slice (some ⟨w4.heap.size, 0, none⟩) 0 0).ownBlock = some k → w4.heap.size ≤ k := fun k q => by cases q; exact Nat.le_refl _
    have t5 : Turn no w4 w5 := ((Turn.refl no w4).alloc _).fresh g5 f0
    have O5 : Own w5 5 v5 (((cat (g.map (·.snd))).take m).map bv) := by first | exact O5 | (rw [List.map_take]; exact O5)
    have K5 := K3.turn_no t5
    have T5 := T3.then_no t5
    have c5 := upTo22 w5 _ _ _ _ g m O5.bs K5.e K5.l (fun t q => (hgs t q).turn_no T5) (hL.turn_no T5) (by first | (simp; done) | (simp; omega)) (by omega) (U2 m)
    obtain ⟨va, vn, vc, rfl⟩ := O5.form
    clear g5 O5 t5 hB5
    go_wp2_with fail
    refine c5.mono ?_
    rintro e w6 ⟨rfl, t6⟩
    have K6 := K5.turn_no t6
    have T6 := T5.then_no t6
    clear c5 K3 K5 T3 T5 t6
    go_wp2_with (at_builtin; refine wpList_append_src rfl (.tmp 44) (.tmp 45) rfl Tryd.underlying22 Tryd.info5 rfl _ [] rfl (own_empty w6 5) _ (cat (g.map (·.snd))).length ((cat (g.map (·.snd))).map bv) rfl ?src ?b ?m ?_)
    case src => exact Bs.src Tryd.underlying22 (K6.b.bs.turn_no ((Turn.refl no w6).alloc _))
    case b => simp; omega
    case m => unfold maxLen; simp; omega
    intro v7 w7 O7 g7
    try intro _
    have f0 : ∀ k, (Value.slice (some ⟨w6.heap.size, 0, none⟩) 0 0).ownBlock = some k → w6.heap.size ≤ k := fun k q => by cases q; exact Nat.le_refl _
    have t7 : Turn no w6 w7 := ((Turn.refl no w6).alloc _).fresh g7 f0
    have f7 := g7.fresh f0 (by simp)
    have O7 : Own w7 5 v7 ((cat (g.map (·.snd))).map bv) := O7
    obtain ⟨xa, xn, xc, rfl⟩ := O7.form
    clear g7
    go_wp2_with (at_builtin; refine wpList_append_src rfl (.tmp 46) (.tmp 47) rfl Tryd.underlying22 Tryd.info5 rfl _ _ rfl O7 _ tail.length (tail.map bv) rfl ?src ?b ?m ?_)
    case src => exact Bs.src Tryd.underlying22 (ht.turn_no (T6.then_no t7))
    case b => simp; omega
    case m => unfold maxLen; simp; omega
    intro v8 w8 O8 g8 _
    have t8 : Turn no w6 w8 := t7.fresh g8 f7
    have O8 : Own w8 5 v8 ((cat (g.map (·.snd)) ++ tail).map bv) := by rw [List.map_append]; exact O8
    have K8 := K6.turn_no t8
    have T8 := T6.then_no t8
    have c9 := scan_any w8 _ _ O8.bs (hL.turn_no T8) (by simp; omega)
    rw [scan_cat_tail _ hfm] at c9
    obtain ⟨ya, yn, yc, rfl⟩ := O8.form
    clear g8 t7 O7 f7 t8 K6 T6
    go_wp2_with fail
    refine c9.mono ?_
    rintro e w9 ⟨vx, rfl, X, t9⟩
    have K9 := K8.turn_no t9
    have T9 := T8.then_no t9
    clear c9 K8 T8 t9 O8
    obtain ⟨xs, q1, q2, q3⟩ := X.bl
    obtain ⟨vs, q4, q5⟩ := X.own
    obtain ⟨pa, pc, rfl⟩ := X.form
    have hXl : (g.map (·.snd) ++ (scan tail).1).length = nl + (scan tail).1.length := by rw [List.length_append, List.length_map, hnl.out]
    have hq4 : (((nb : Nat)) : Int) ≤ (((cat (g.map (·.snd))).length + (scan tail).2 : Nat) : Int) := by have := hnb.out; omega
    have q6 := q5.shape2
    rw [hXl] at q6 q3 q2 ⊢
    have q7 := q3.take nl (by omega)
    have BL := Own.bl K9.l (fun t q => (hgs t q).turn_no T9)
    have he : (xs.take nl).map (·.2) = g.map (·.2) := by rw [List.map_take, q1, List.take_left' (by rw [List.length_map, hnl.out])]
    obtain ⟨z1, hz1⟩ : ∃ z, (cat (g.map (·.snd))).length + (scan tail).2 = z := ⟨_, rfl⟩
    obtain ⟨z2, hz2⟩ : ∃ z, nl + (scan tail).1.length = z := ⟨_, rfl⟩
    rw [hz1] at hq4 ⊢
    rw [hz2] at q6 q3 ⊢
    have hz3 : (nl : Int) ≤ (z2 : Int) := by omega
    have c10 := sameLists18 w9 _ _ _ _ q7 BL he
    clear hz1 hz2 q1 q2 q3 q4 q5 hXl
    rcases q6 with ⟨rfl, rfl, rfl, _⟩ | ⟨q', rfl, hpc, hpc2⟩
    · have hnl0 : nl = 0 := by omega
      subst hnl0
      go_wp2_with fail
      refine c10.mono ?_
      rintro e w10 ⟨rfl, t10⟩
      go_wp2_with fail
      go_ret
      exact ⟨rfl, T9.then_no t10⟩
    · have hz4 : (nl : Int) ≤ (pc : Int) := by omega
      go_wp2_with fail
      refine c10.mono ?_
      rintro e w10 ⟨rfl, t10⟩
      go_wp2_with fail
      go_ret
      exact ⟨rfl, T9.then_no t10⟩
end Go.Proofs.YtbkbecjgphjpkaaDoor
