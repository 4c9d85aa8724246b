/- WalScans: the walk. -/
import Derived.Test.YtbkbecjgphjpkaaDoorR5
namespace Go.Proofs.YtbkbecjgphjpkaaDoor
open Go.RowKit
set_option linter.unusedVariables false

/-- What a list keeps where only blocks of others change. -/
theorem Ls.keepS {B : Nat} {S : Nat → Prop} {w w' : World} {v : Value} {l : List (List UInt8)} (h : Ls B w v l) (t : Turn S w w') (hS : ∀ k, k < w.heap.size → B ≤ k → ¬ S k) : Ls B w' v l := by
  obtain ⟨vs, h1, h2, h3, h4, h5⟩ := h
  refine ⟨vs, h1, h2.turn t (fun g hg => hS g (h2.lt hg) (h3 g hg)), h3, h4, fun j r u hr hu => ?_⟩
  obtain ⟨a, b⟩ := h5 j r u hr hu
  exact ⟨a.turn t (fun g hg => hS g (a.lt hg) (b g hg)), b⟩

set_option maxRecDepth 100000 in
set_option maxHeartbeats 4000000 in
theorem scans_walk (w : World) (v : Value) (bs : List UInt8) (hb : Bs w v bs) (hL : LaidT w) (hle : bs.length ≤ 1073741824) :
    Calls Tryd.prog 4 #[v] w fun e w' => e = .returned (.bool true) ∧ Turn no w w' := by
  have c1 := lent9 w v bs hb (by omega)
  obtain ⟨ra, rn, rc, rfl⟩ : ∃ a n c, v = .slice a n c := by obtain ⟨a, c, e⟩ := hb.slice; exact ⟨a, _, c, e⟩
  obtain ⟨i1, i2, i3⟩ := scan_stands _ bs (Nat.lt_succ_self _)
  obtain ⟨sc, hsc⟩ : ∃ sc, scan bs = sc := ⟨_, rfl⟩
  have C16 : Hid (∀ W u, Bs W u bs → LaidT W → Calls Tryd.prog 16 #[u] W fun e w' => ∃ v', e = .returned (.tuple #[v', .int .i64 (sc.2 : Nat)]) ∧ Ls W.heap.size w' v' sc.1 ∧ Turn no W w') := fun W u h hl => by rw [← hsc]; exact scan_any W u bs h hl (by omega)
  have C17 : Hid (∀ W u, Bs W u bs → Calls Tryd.prog 17 #[u] W fun e w' => ∃ v', e = .returned (.tuple #[v', .int .i64 (sc.2 : Nat)]) ∧ Ls W.heap.size w' v' sc.1 ∧ Turn no W w') := fun W u h => by rw [← hsc]; exact rscan17 W u bs h (by omega)
  rw [hsc] at i1 i2 i3
  obtain ⟨l, n⟩ := sc
  simp only at i1 i2 i3 C16 C17
  have hll : Hid (l.length ≤ 1073741824) := by
    show l.length ≤ 1073741824
    have h1 := cat_count l
    rw [i3, List.length_take] at h1
    omega
  have i1 := Hid.mk' i1
  have hnI : ((n : Int) != (n : Int)) = false := by simp
  have hnE : ((n : Int) == (n : Int)) = true := by simp
  clear i3 i2 hsc
  go_enter Tryd.func4, Tryd.ntmps4
  go_wp2_with fail
  refine c1.mono ?_
  rintro e w1 ⟨vl, g, rfl, Le, hg, hgw, t1⟩
  have hgl : g < w1.heap.size := by obtain ⟨g', _, _, rfl, q, _⟩ := Le; obtain rfl : g' = g := Option.some.inj hg; exact lt_of_obj q
  obtain ⟨la, ln, lc, rfl⟩ : ∃ a n c, vl = .slice a n c := by obtain ⟨_, _, _, rfl, _⟩ := Le; exact ⟨_, _, _, rfl⟩
  clear c1
  go_wp2_with fail
  refine (C16.out w1 _ Le.bs (hL.turn_no t1)).mono ?_
  rintro e w2 ⟨vx, rfl, X2, t2⟩
  have Le2 := Le.turn_no t2
  have T2 := t1.then_no t2
  obtain ⟨xa, xc, rfl⟩ := X2.form
  go_wp2_with fail
  refine (C16.out w2 _ Le2.bs (hL.turn_no T2)).mono ?_
  rintro e w3 ⟨vy, rfl, Y3, t3⟩
  have Le3 := Le2.turn_no t3
  have X3 := X2.turn_no t3
  have T3 := T2.then_no t3
  obtain ⟨ya, yc, rfl⟩ := Y3.form
  go_wp2_with fail
  refine (C17.out w3 _ (hb.turn_no T3)).mono ?_
  rintro e w4 ⟨vw, rfl, W4, t4⟩
  have Le4 := Le3.turn_no t4
  have X4 := X3.turn_no t4
  have Y4 := Y3.turn_no t4
  have T4 := T3.then_no t4
  obtain ⟨wa, wc, rfl⟩ := W4.form
  obtain ⟨xs, xs1, xs2, xsb⟩ := X4.bl
  obtain ⟨ys, ys1, ys2, ysb⟩ := Y4.bl
  obtain ⟨ws, ws1, ws2, wsb⟩ := W4.bl
  obtain ⟨L, hLl⟩ : ∃ L, l.length = L := ⟨_, rfl⟩
  have c5 := sameLists18 w4 _ _ _ _ xsb wsb (by rw [xs1, ws1])
  rw [hLl] at c5 ⊢
  clear xs2 ys2 ws2
  go_wp2_with fail
  refine c5.mono ?_
  rintro e w5 ⟨rfl, t5⟩
  have c6 := sameLists18 w5 _ _ _ _ (ysb.turn_no t5) (wsb.turn_no t5) (by rw [ys1, ws1])
  rw [hLl] at c6
  clear c5
  go_wp2_with fail
  refine c6.mono ?_
  rintro e w6 ⟨rfl, t6⟩
  have t46 := t5.then_no t6
  have Le6 := Le4.turn_no t46
  have X6 := X4.turn_no t46
  have Y6 := Y4.turn_no t46
  have W6 := W4.turn_no t46
  have T6 := T4.then_no t46
  have c7 := kept14 w6 _ _ bs g Le6 hg (hb.turn_no T6) (by omega)
  have s1 := t1.size
  have s2 := t2.size
  have s3 := t3.size
  have s4 := t4.size
  have s46 := t46.size
  clear c6 t5 t6 xsb ysb wsb xs1 ys1 ws1 Le Le2 Le3 Le4 X3 X4 Y4 T2 T3 T4
  go_wp2_with fail
  refine c7.mono ?_
  rintro e w7 ⟨rfl, t7, _⟩
  have T7 : Turn no w w7 := T6.trans t7 (fun i hi q => by subst q; omega)
  have t47 : Turn (fun k => k = g) w4 w7 := (Turn.of_no t46).trans t7 (fun _ _ q => q)
  have t37 : Turn (fun k => k = g) w3 w7 := (Turn.of_no t4).trans t47 (fun _ _ q => q)
  obtain ⟨vs, u1, u2, u3, u4, u5⟩ := id Y3
  have hmem : ∀ u ∈ vs, ∃ r, r ∈ l ∧ Own w3 5 u (r.map bv) ∧ ∀ q, u.ownBlock = some q → w2.heap.size ≤ q := by
    intro u hu
    obtain ⟨j, hj, rfl⟩ := List.mem_iff_getElem.1 hu
    have hjl : j < l.length := by omega
    obtain ⟨a1, a2⟩ := u5 j l[j] _ (List.getElem?_eq_getElem hjl) (List.getElem?_eq_getElem hj)
    exact ⟨l[j], List.getElem_mem _, a1, a2⟩
  have hne : ∀ q, w2.heap.size ≤ q → ¬ q = g := fun q h e => by omega
  have c8 := turnAll19 w7 (.slice ya l.length yc) vs (fun k => w2.heap.size ≤ k ∧ k < w3.heap.size) (u2.turn t37 (fun q hq => hne q (u3 q hq)))
    (by
      rintro k (q | ⟨u, hu, q⟩)
      · exact ⟨u3 k q, u2.lt q⟩
      · obtain ⟨r, _, a1, a2⟩ := hmem u hu
        exact ⟨a2 k q, a1.lt q⟩)
    u4.2
    (fun u hu => by
      obtain ⟨r, hr, a1, a2⟩ := hmem u hu
      exact ⟨r, by have := i1.out r hr; omega, a1.turn t37 (fun q hq => hne q (a2 q hq))⟩)
    (by rw [u1]; exact hll.out)
  rw [hLl] at c8
  clear c7
  go_wp2_with fail
  refine c8.mono ?_
  rintro e w8 ⟨rfl, t8⟩
  have T8 : Turn no w w8 := T7.trans t8 (fun i hi q => by have := q.1; omega)
  have t48 : Turn (fun k => k = g ∨ (w2.heap.size ≤ k ∧ k < w3.heap.size)) w4 w8 := (t47.mono (fun _ _ q => Or.inl q)).trans t8 (fun _ _ q => Or.inr q)
  have t28 : Turn (fun k => k = g ∨ (w2.heap.size ≤ k ∧ k < w3.heap.size)) w2 w8 := (Turn.of_no (t3.then_no t4)).trans t48 (fun _ _ q => q)
  have X8 := X2.keepS t28 (fun k h1 h2 q => by rcases q with q | q <;> omega)
  have W8 := W4.turn t48 (fun k q => by rcases q with q | q <;> omega)
  clear c8 t8 t47 t37 t7 t48 t28 Y6 W6 X6 hmem u2 u3 u4 u5 Le6 T6 T7 Y3 W4 X2
  go_wp2_with fail
  refine (C16.out w8 _ (hb.turn_no T8) (hL.turn_no T8)).mono ?_
  rintro e w9 ⟨vz, rfl, Z9, t9⟩
  have X9 := X8.turn_no t9
  have W9 := W8.turn_no t9
  have T9 := T8.then_no t9
  obtain ⟨za, zc, rfl⟩ := Z9.form
  obtain ⟨zs, zs1, _, zsb⟩ := Z9.bl
  obtain ⟨xs, xs1, _, xsb⟩ := X9.bl
  obtain ⟨ws, ws1, _, wsb⟩ := W9.bl
  have c9 := sameLists18 w9 _ _ _ _ zsb wsb (by rw [zs1, ws1])
  have c10 := fun W (t : Turn no w9 W) => sameLists18 W _ _ _ _ (xsb.turn_no t) (wsb.turn_no t) (by rw [xs1, ws1])
  rw [hLl] at c9 c10 ⊢
  have c10 := Hid.mk' c10
  clear X8 W8 T8 X9 W9 Z9 zsb xsb wsb zs1 xs1 ws1
  go_wp2_with fail
  refine c9.mono ?_
  rintro e w10 ⟨rfl, t10⟩
  clear c9
  go_wp2_with fail
  refine (c10.out w10 t10).mono ?_
  rintro e w11 ⟨rfl, t11⟩
  go_wp2_with fail
  go_ret
  exact ⟨rfl, (T9.then_no t10).then_no t11⟩
end Go.Proofs.YtbkbecjgphjpkaaDoor
