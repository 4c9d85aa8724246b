/- WalFrames: the walk. -/
import Derived.Test.YtbkbecjgphjpkaaDoorF1
import Derived.Test.YtbkbecjgphjpkaaDoorStandsW
namespace Go.Proofs.YtbkbecjgphjpkaaDoor
open Go.RowKit
set_option linter.unusedVariables false

/-- What Frame answers. -/
def frB (bs : List UInt8) : List UInt8 := if bs.length ≤ 262400 then frameB bs else []
def frE (bs : List UInt8) : Int := if bs.length ≤ 262400 then 0 else 4
theorem frB_len (bs : List UInt8) : (frB bs).length ≤ 262413 := by
  unfold frB
  split
  · rw [frameB_len]; omega
  · simp
theorem frame10 (w : World) (v : Value) (bs : List UInt8) (hb : Bs w v bs) (hL : LaidT w) :
    Calls Tryd.prog 10 #[v] w fun e w' => ∃ v', e = .returned (.tuple #[v', .int .i64 (frE bs)]) ∧ Nw w w' v' (frB bs) := by
  by_cases h : bs.length ≤ 262400
  · refine (frame_good w v bs hb hL h).mono ?_
    rintro e w' ⟨v', rfl, O, f, t⟩
    exact ⟨v', by unfold frE; rw [if_pos h], by unfold frB; rw [if_pos h]; exact ⟨O, f, t⟩⟩
  · refine (frame_big w v bs hb (by omega)).mono ?_
    rintro e w' ⟨rfl, rfl⟩
    exact ⟨_, by unfold frE; rw [if_neg h], by unfold frB; rw [if_neg h]; exact ⟨Own.nil _ _, (fun g q => by cases q), Turn.refl _ _⟩⟩
theorem rframe11 (w : World) (v : Value) (bs : List UInt8) (hb : Bs w v bs) :
    Calls Tryd.prog 11 #[v] w fun e w' => ∃ v', e = .returned (.tuple #[v', .int .i64 (frE bs)]) ∧ Nw w w' v' (frB bs) := by
  by_cases h : bs.length ≤ 262400
  · refine (rframe_good w v bs hb h).mono ?_
    rintro e w' ⟨v', rfl, N⟩
    exact ⟨v', by unfold frE; rw [if_pos h], by unfold frB; rw [if_pos h]; exact N⟩
  · refine (rframe_big w v bs hb (by omega)).mono ?_
    rintro e w' ⟨rfl, rfl⟩
    exact ⟨_, by unfold frE; rw [if_neg h], by unfold frB; rw [if_neg h]; exact ⟨Own.nil _ _, (fun g q => by cases q), Turn.refl _ _⟩⟩
theorem over_bs {w : World} {g n cap : Nat} {cur : Array Value} {bs : List UInt8} (hr : Row w g (over cur 0 (bs.map bv)) 5) (hn : bs.length = n) (hc : n ≤ cap) (hm : cap ≤ maxLen) : Bs w (.slice (some ⟨g, 0, none⟩) n cap) bs := by
  refine Or.inr ⟨⟨g, 0, none⟩, cap, by rw [hn], by omega, hm, fun j u hu => ?_⟩
  rw [Addr.add_lit, cell_of_row w g (0 + j) _ 5 (0, 0) hr, Nat.zero_add]
  have hj := (List.getElem?_eq_some_iff.1 hu).1
  unfold over
  simp only [List.take_zero, List.nil_append, List.getElem?_toArray]
  rw [List.getElem?_append_left (by simpa using hj), List.getElem?_map, hu]
  rfl
theorem over_size (cur : Array Value) (cs : List Value) (h : cs.length ≤ cur.size) : (over cur 0 cs).size = cur.size := by
  unfold over
  simp
  omega

set_option maxRecDepth 100000 in
set_option maxHeartbeats 4000000 in
theorem frames_walk (w : World) (vr vo : Value) (bs os : List UInt8) (hb : Bs w vr bs) (ho : Bs w vo os) (hL : LaidT w) (hle : bs.length ≤ 1073741824) (hle2 : os.length ≤ 1073741824) :
    Calls Tryd.prog 3 #[vr, vo] w fun e w' => e = .returned (.bool true) ∧ Turn no w w' := by
  have c1 := lent9 w vr bs hb (by omega)
  obtain ⟨ra, rn, rc, rfl⟩ : ∃ a n c, vr = .slice a n c := by obtain ⟨a, c, e⟩ := hb.slice; exact ⟨a, _, c, e⟩
  obtain ⟨oa, on, oc, rfl, hon⟩ : ∃ a n c, vo = .slice a n c ∧ Hid (n = os.length) := by obtain ⟨a, c, e⟩ := ho.slice; exact ⟨a, _, c, e, rfl⟩
  go_enter Tryd.func3, Tryd.ntmps3
  go_wp2_with fail
  refine c1.mono ?_
  rintro e w1 ⟨vl, g, rfl, Le, hg, hgw, t1⟩
  have c2 := frame10 w1 vl bs Le.bs (hL.turn_no t1)
  have hgl : g < w1.heap.size := by obtain ⟨g', _, _, rfl, q, _⟩ := Le; obtain rfl : g' = g := Option.some.inj hg; exact lt_of_obj q
  obtain ⟨la, ln, lc, rfl⟩ : ∃ a n c, vl = .slice a n c := by obtain ⟨_, _, _, rfl, _⟩ := Le; exact ⟨_, _, _, rfl⟩
  have hFl := frB_len bs
  obtain ⟨FB, hFB⟩ : ∃ F, frB bs = F := ⟨_, rfl⟩
  obtain ⟨FE, hFE⟩ : ∃ F, frE bs = F := ⟨_, rfl⟩
  rw [hFB, hFE] at c2
  rw [hFB] at hFl
  have hFI : (FE != FE) = false := by simp
  clear c1
  go_wp2_with fail
  refine c2.mono ?_
  rintro e w2 ⟨va, rfl, A2⟩
  have Le2 := Le.turn_no A2.t
  have T2 := t1.then_no A2.t
  have c3 := frame10 w2 _ bs Le2.bs (hL.turn_no T2)
  rw [hFB, hFE] at c3
  obtain ⟨aa, an, ac, rfl⟩ := A2.own.form
  clear c2
  go_wp2_with fail
  refine c3.mono ?_
  rintro e w3 ⟨vb, rfl, B3⟩
  have A3 := A2.turn_no B3.t
  have Le3 := Le2.turn_no B3.t
  have T3 := T2.then_no B3.t
  have c4 := rframe11 w3 _ bs (hb.turn_no T3)
  rw [hFB, hFE] at c4
  obtain ⟨ba, bn, bc, rfl⟩ := B3.own.form
  clear c3
  go_wp2_with fail
  refine c4.mono ?_
  rintro e w4 ⟨vw, rfl, W4⟩
  have A4 := A3.turn_no W4.t
  have B4 := B3.turn_no W4.t
  have Le4 := Le3.turn_no W4.t
  have T4 := T3.then_no W4.t
  obtain ⟨wa, wn, wc, rfl⟩ := W4.own.form
  have hA2 : ∀ k, (Value.slice aa an ac).ownBlock = some k → k < w2.heap.size := fun k q => A2.own.lt q
  have hB3 : ∀ k, (Value.slice ba bn bc).ownBlock = some k → k < w3.heap.size := fun k q => B3.own.lt q
  clear c4
  go_wp2_with fail
  refine (num12 _ _).mono ?_
  rintro e w5 ⟨rfl, rfl⟩
  go_wp2_with fail
  refine (num12 _ _).mono ?_
  rintro e w6 ⟨rfl, rfl⟩
  have c5 := same_any w6 _ _ _ _ A4.own.bs W4.own.bs
  rw [beq_self_eq_true] at c5
  go_wp2_with fail
  refine c5.mono ?_
  rintro e w7 ⟨rfl, m7, rfl⟩
  have t7 := (Turn.refl no w6).drewN m7
  have A7 := A4.turn_no t7
  have B7 := B4.turn_no t7
  have W7 := W4.turn_no t7
  have Le7 := Le4.turn_no t7
  have T7 := T4.then_no t7
  generalize w6.drewN m7 = w7 at *
  clear c5
  have c6 := same_any w7 _ _ _ _ B7.own.bs W7.own.bs
  rw [beq_self_eq_true] at c6
  go_wp2_with fail
  refine c6.mono ?_
  rintro e w8 ⟨rfl, m8, rfl⟩
  have t8 := (Turn.refl no w7).drewN m8
  have A8 := A7.turn_no t8
  have B8 := B7.turn_no t8
  have W8 := W7.turn_no t8
  have Le8 := Le7.turn_no t8
  have T8 := T7.then_no t8
  generalize w7.drewN m8 = w8 at *
  clear c6 t7 t8
  have c7 := kept14 w8 _ _ bs g Le8 hg (hb.turn_no T8) (by omega)
  go_wp2_with fail
  refine c7.mono ?_
  rintro e w9 ⟨rfl, t9, cap, cur, hvl, hr9, hcs, hcap, hcm⟩
  cases hvl
  have s2 := A2.t.size
  have s3 := B3.t.size
  have s1 := t1.size
  have T9 : Turn no w w9 := T8.trans t9 (fun i hi q => by subst q; omega)
  have A9 := A8.own.turn t9 (fun k hk q => by subst q; have := A8.fresh k hk; omega)
  have B9 := B8.own.turn t9 (fun k hk q => by subst q; have := B8.fresh k hk; omega)
  have W9 := W8.own.turn t9 (fun k hk q => by subst q; have := W8.fresh k hk; omega)
  have hAf := A8.fresh
  have hBf := B8.fresh
  have hWf := W8.fresh
  clear c7 A7 B7 W7 Le7 A4 B4 W4 Le4 A8 B8 W8 Le8 A3 Le3 A2 B3 Le2 Le T4 T7 T8 t9 T3 T2
  have c8 := turn15 w9 _ FB B9 (by omega)
  go_wp2_with fail
  refine c8.mono ?_
  rintro e w10 ⟨rfl, t10⟩
  have T10 : Turn no w w10 := T9.trans t10 (fun i hi q => by have := hBf i q; omega)
  have A10 := A9.turn t10 (fun k hk q => by have := hBf k q; have := hA2 k hk; omega)
  have W10 := W9.turn t10 (fun k hk q => by have := hWf k hk; have := hB3 k q; omega)
  have hr10 := t10.obj hr9 (fun q => by have := hBf g q; omega)
  have hgB : ¬ ((Value.slice ba bn bc).ownBlock = some g) := fun q => by have := hBf g q; omega
  clear c8 t10 A9 B9 W9 hr9 T9
  have HO := ho
  rcases ho with ⟨e, e0⟩ | ⟨a, ocp, e, h1, h2, h3⟩
  · cases e
    subst e0
    have hS : Bs w10 (.slice none 0 0) (([] : List UInt8).take 0) := Or.inl ⟨rfl, rfl⟩
    by_cases hmn : 0 < bs.length
    · have hmn' : (0 : Int) < (bs.length : Int) := by omega
      have hnl : (0 : Int) ≤ (lc : Int) := by omega
      have hn1 : 0 ≤ bs.length := by omega
      obtain ⟨OS, hOS⟩ : ∃ OS, (([] : List UInt8).take 0) = OS := ⟨_, rfl⟩
      rw [hOS] at hS
      have hOl : OS.length = 0 := by rw [← hOS]; first | rfl | (rw [List.length_take]; omega)
      obtain ⟨w11, hcopy, hr11, t11⟩ := run_copy_over w10 3 g 0 bs.length lc _ OS cur 5 hr10 hS (by rw [hOl, hcs]; omega)
      have hmin : min OS.length bs.length = 0 := by rw [hOl]; omega
      have hcopy' : ∀ ty, (Builtin.copy_ #[22, 22] ty #[.slice (some ⟨g, 0, none⟩) bs.length lc, (.slice none 0 0)]).run Tryd.prog w10 = .ok (.int .i64 ((0 : Nat) : Int)) w11 := fun ty => by
        have := hcopy
        rw [hmin] at this
        exact this
      rw [hmin, List.take_of_length_le (by omega)] at hr11
      have T11 : Turn no w w11 := T10.trans t11 (fun i hi q => by subst q; omega)
      have A11 := A10.turn t11 (fun k hk q => by subst q; have := hAf k hk; omega)
      have W11 := W10.turn t11 (fun k hk q => by subst q; have := hWf k hk; omega)
      have hB11 := over_bs (n := 0) (cap := lc) hr11 hOl (by omega) hcm
      have hS11 : Bs w11 (.slice none 0 0) OS := by rw [← hOS]; exact (Or.inl ⟨rfl, rfl⟩)
      have c12 := frame10 w11 _ OS hB11 (hL.turn_no T11)
      obtain ⟨GE, hGE⟩ : ∃ F, frE OS = F := ⟨_, rfl⟩
      have hGl := frB_len OS
      obtain ⟨GB, hGB⟩ : ∃ F, frB OS = F := ⟨_, rfl⟩
      rw [hGB, hGE] at c12
      rw [hGB] at hGl
      have hGI : (GE != GE) = false := by simp
      clear hcopy hr10 t11 hS
      go_wp2_with (at_builtin; refine wpList_copy rfl _ _ (t := 22) (tx := 22) rfl _ _ rfl rfl (hcopy' _) ?_)
      refine c12.mono ?_
      rintro e w12 ⟨vc, rfl, C12⟩
      have T12 := T11.then_no C12.t
      have hB12 := hB11.turn_no C12.t
      have c13 := rframe11 w12 _ OS (hS11.turn_no C12.t)
      rw [hGB, hGE] at c13
      obtain ⟨ca, cn, cc, rfl⟩ := C12.own.form
      have A12 := A11.turn_no C12.t
      have W12 := W11.turn_no C12.t
      clear c12 hcopy'
      go_wp2_with fail
      refine c13.mono ?_
      rintro e w13 ⟨vd, rfl, D13⟩
      have T13 := T12.then_no D13.t
      have C13 := C12.turn_no D13.t
      have A13 := A12.turn_no D13.t
      have W13 := W12.turn_no D13.t
      obtain ⟨da, dn, dc, rfl⟩ := D13.own.form
      clear c13
      go_wp2_with fail
      refine (num12 _ _).mono ?_
      rintro e w14 ⟨rfl, rfl⟩
      have c14 := same_any w14 _ _ _ _ C13.own.bs D13.own.bs
      rw [beq_self_eq_true] at c14
      go_wp2_with fail
      refine c14.mono ?_
      rintro e w15 ⟨rfl, m15, rfl⟩
      have t15 := (Turn.refl no w14).drewN m15
      have C15 := C13.turn_no t15
      have A15 := A13.turn_no t15
      have W15 := W13.turn_no t15
      have T15 := T13.then_no t15
      generalize w14.drewN m15 = w15 at *
      have c15 := turn15 w15 _ GB C15.own (by omega)
      have hAl : ∀ k, (Value.slice aa an ac).ownBlock = some k → k < w11.heap.size := fun k q => A11.lt q
      have hWl : ∀ k, (Value.slice wa wn wc).ownBlock = some k → k < w11.heap.size := fun k q => W11.lt q
      have hCf := C15.fresh
      have s11 := T11.size
      clear c14 t15 A13 W13 C13 T13 D13 A12 W12 C12 T12 hB12
      go_wp2_with fail
      refine c15.mono ?_
      rintro e w16 ⟨rfl, t16⟩
      have A16 := A15.turn t16 (fun k hk q => by have := hCf k q; have := hAl k hk; omega)
      have W16 := W15.turn t16 (fun k hk q => by have := hCf k q; have := hWl k hk; omega)
      have T16 : Turn no w w16 := T15.trans t16 (fun i hi q => by have := hCf i q; omega)
      have c16 := same_any w16 _ _ _ _ A16.bs W16.bs
      rw [beq_self_eq_true] at c16
      go_wp2_with fail
      refine c16.mono ?_
      rintro e w17 ⟨rfl, m17, rfl⟩
      go_wp2_with fail
      go_ret
      exact ⟨rfl, T16.drewN m17⟩
    · obtain rfl : bs = [] := List.eq_nil_of_length_eq_zero (by omega)
      have hn1 : 0 ≤ ([] : List UInt8).length := by omega
      obtain ⟨OS, hOS⟩ : ∃ OS, (([] : List UInt8).take 0) = OS := ⟨_, rfl⟩
      rw [hOS] at hS
      have hOl : OS.length = 0 := by rw [← hOS]; first | rfl | (rw [List.length_take]; omega)
      obtain ⟨w11, hcopy, hr11, t11⟩ := run_copy_over w10 3 g 0 0 lc _ OS cur 5 hr10 hS (by rw [hOl, hcs]; omega)
      have hmin : min OS.length 0 = 0 := by rw [hOl]; omega
      have hcopy' : ∀ ty, (Builtin.copy_ #[22, 22] ty #[.slice (some ⟨g, 0, none⟩) 0 lc, (.slice none 0 0)]).run Tryd.prog w10 = .ok (.int .i64 ((0 : Nat) : Int)) w11 := fun ty => by
        have := hcopy
        rw [hmin] at this
        exact this
      rw [hmin, List.take_of_length_le (by omega)] at hr11
      have T11 : Turn no w w11 := T10.trans t11 (fun i hi q => by subst q; omega)
      have A11 := A10.turn t11 (fun k hk q => by subst q; have := hAf k hk; omega)
      have W11 := W10.turn t11 (fun k hk q => by subst q; have := hWf k hk; omega)
      have hB11 := over_bs (n := 0) (cap := lc) hr11 hOl (by omega) hcm
      have hS11 : Bs w11 (.slice none 0 0) OS := by rw [← hOS]; exact (Or.inl ⟨rfl, rfl⟩)
      have c12 := frame10 w11 _ OS hB11 (hL.turn_no T11)
      obtain ⟨GE, hGE⟩ : ∃ F, frE OS = F := ⟨_, rfl⟩
      have hGl := frB_len OS
      obtain ⟨GB, hGB⟩ : ∃ F, frB OS = F := ⟨_, rfl⟩
      rw [hGB, hGE] at c12
      rw [hGB] at hGl
      have hGI : (GE != GE) = false := by simp
      clear hcopy hr10 t11 hS
      go_wp2_with (at_builtin; refine wpList_copy rfl _ _ (t := 22) (tx := 22) rfl _ _ rfl rfl (hcopy' _) ?_)
      refine c12.mono ?_
      rintro e w12 ⟨vc, rfl, C12⟩
      have T12 := T11.then_no C12.t
      have hB12 := hB11.turn_no C12.t
      have c13 := rframe11 w12 _ OS (hS11.turn_no C12.t)
      rw [hGB, hGE] at c13
      obtain ⟨ca, cn, cc, rfl⟩ := C12.own.form
      have A12 := A11.turn_no C12.t
      have W12 := W11.turn_no C12.t
      clear c12 hcopy'
      go_wp2_with fail
      refine c13.mono ?_
      rintro e w13 ⟨vd, rfl, D13⟩
      have T13 := T12.then_no D13.t
      have C13 := C12.turn_no D13.t
      have A13 := A12.turn_no D13.t
      have W13 := W12.turn_no D13.t
      obtain ⟨da, dn, dc, rfl⟩ := D13.own.form
      clear c13
      go_wp2_with fail
      refine (num12 _ _).mono ?_
      rintro e w14 ⟨rfl, rfl⟩
      have c14 := same_any w14 _ _ _ _ C13.own.bs D13.own.bs
      rw [beq_self_eq_true] at c14
      go_wp2_with fail
      refine c14.mono ?_
      rintro e w15 ⟨rfl, m15, rfl⟩
      have t15 := (Turn.refl no w14).drewN m15
      have C15 := C13.turn_no t15
      have A15 := A13.turn_no t15
      have W15 := W13.turn_no t15
      have T15 := T13.then_no t15
      generalize w14.drewN m15 = w15 at *
      have c15 := turn15 w15 _ GB C15.own (by omega)
      have hAl : ∀ k, (Value.slice aa an ac).ownBlock = some k → k < w11.heap.size := fun k q => A11.lt q
      have hWl : ∀ k, (Value.slice wa wn wc).ownBlock = some k → k < w11.heap.size := fun k q => W11.lt q
      have hCf := C15.fresh
      have s11 := T11.size
      clear c14 t15 A13 W13 C13 T13 D13 A12 W12 C12 T12 hB12
      go_wp2_with fail
      refine c15.mono ?_
      rintro e w16 ⟨rfl, t16⟩
      have A16 := A15.turn t16 (fun k hk q => by have := hCf k q; have := hAl k hk; omega)
      have W16 := W15.turn t16 (fun k hk q => by have := hCf k q; have := hWl k hk; omega)
      have T16 : Turn no w w16 := T15.trans t16 (fun i hi q => by have := hCf i q; omega)
      have c16 := same_any w16 _ _ _ _ A16.bs W16.bs
      rw [beq_self_eq_true] at c16
      go_wp2_with fail
      refine c16.mono ?_
      rintro e w17 ⟨rfl, m17, rfl⟩
      go_wp2_with fail
      go_ret
      exact ⟨rfl, T16.drewN m17⟩
  · cases e
    have ha : a.add 0 = a := by simp [Addr.add]
    clear h3
    by_cases hmn : os.length < bs.length
    · have hmn' : (os.length : Int) < (bs.length : Int) := by omega
      have hnl : (os.length : Int) ≤ (lc : Int) := by omega
      have hn1 : os.length ≤ bs.length := by omega
      have hn2 : os.length ≤ os.length := by omega
      have hcap3 : (os.length : Int) ≤ (oc : Int) := by omega
      have hS : Bs w10 (.slice (some a) os.length oc) (os.take os.length) := (HO.turn_no T10).cut os.length hn2
      obtain ⟨OS, hOS⟩ : ∃ OS, (os.take os.length) = OS := ⟨_, rfl⟩
      rw [hOS] at hS
      have hOl : OS.length = os.length := by rw [← hOS]; first | rfl | (rw [List.length_take]; omega)
      obtain ⟨w11, hcopy, hr11, t11⟩ := run_copy_over w10 3 g 0 bs.length lc _ OS cur 5 hr10 hS (by rw [hOl, hcs]; omega)
      have hmin : min OS.length bs.length = os.length := by rw [hOl]; omega
      have hcopy' : ∀ ty, (Builtin.copy_ #[22, 22] ty #[.slice (some ⟨g, 0, none⟩) bs.length lc, (.slice (some a) os.length oc)]).run Tryd.prog w10 = .ok (.int .i64 ((os.length : Nat) : Int)) w11 := fun ty => by
        have := hcopy
        rw [hmin] at this
        exact this
      rw [hmin, List.take_of_length_le (by omega)] at hr11
      have T11 : Turn no w w11 := T10.trans t11 (fun i hi q => by subst q; omega)
      have A11 := A10.turn t11 (fun k hk q => by subst q; have := hAf k hk; omega)
      have W11 := W10.turn t11 (fun k hk q => by subst q; have := hWf k hk; omega)
      have hB11 := over_bs (n := os.length) (cap := lc) hr11 hOl (by omega) hcm
      have hS11 : Bs w11 (.slice (some a) os.length oc) OS := by rw [← hOS]; exact ((HO.turn_no T11).cut os.length hn2)
      have c12 := frame10 w11 _ OS hB11 (hL.turn_no T11)
      obtain ⟨GE, hGE⟩ : ∃ F, frE OS = F := ⟨_, rfl⟩
      have hGl := frB_len OS
      obtain ⟨GB, hGB⟩ : ∃ F, frB OS = F := ⟨_, rfl⟩
      rw [hGB, hGE] at c12
      rw [hGB] at hGl
      have hGI : (GE != GE) = false := by simp
      clear hcopy hr10 t11 hS
      go_wp2_with (at_builtin; refine wpList_copy rfl _ _ (t := 22) (tx := 22) rfl _ _ rfl rfl (hcopy' _) ?_)
      refine c12.mono ?_
      rintro e w12 ⟨vc, rfl, C12⟩
      have T12 := T11.then_no C12.t
      have hB12 := hB11.turn_no C12.t
      have c13 := rframe11 w12 _ OS (hS11.turn_no C12.t)
      rw [hGB, hGE] at c13
      obtain ⟨ca, cn, cc, rfl⟩ := C12.own.form
      have A12 := A11.turn_no C12.t
      have W12 := W11.turn_no C12.t
      clear c12 hcopy'
      go_wp2_with fail
      refine c13.mono ?_
      rintro e w13 ⟨vd, rfl, D13⟩
      have T13 := T12.then_no D13.t
      have C13 := C12.turn_no D13.t
      have A13 := A12.turn_no D13.t
      have W13 := W12.turn_no D13.t
      obtain ⟨da, dn, dc, rfl⟩ := D13.own.form
      clear c13
      go_wp2_with fail
      refine (num12 _ _).mono ?_
      rintro e w14 ⟨rfl, rfl⟩
      have c14 := same_any w14 _ _ _ _ C13.own.bs D13.own.bs
      rw [beq_self_eq_true] at c14
      go_wp2_with fail
      refine c14.mono ?_
      rintro e w15 ⟨rfl, m15, rfl⟩
      have t15 := (Turn.refl no w14).drewN m15
      have C15 := C13.turn_no t15
      have A15 := A13.turn_no t15
      have W15 := W13.turn_no t15
      have T15 := T13.then_no t15
      generalize w14.drewN m15 = w15 at *
      have c15 := turn15 w15 _ GB C15.own (by omega)
      have hAl : ∀ k, (Value.slice aa an ac).ownBlock = some k → k < w11.heap.size := fun k q => A11.lt q
      have hWl : ∀ k, (Value.slice wa wn wc).ownBlock = some k → k < w11.heap.size := fun k q => W11.lt q
      have hCf := C15.fresh
      have s11 := T11.size
      clear c14 t15 A13 W13 C13 T13 D13 A12 W12 C12 T12 hB12
      go_wp2_with fail
      refine c15.mono ?_
      rintro e w16 ⟨rfl, t16⟩
      have A16 := A15.turn t16 (fun k hk q => by have := hCf k q; have := hAl k hk; omega)
      have W16 := W15.turn t16 (fun k hk q => by have := hCf k q; have := hWl k hk; omega)
      have T16 : Turn no w w16 := T15.trans t16 (fun i hi q => by have := hCf i q; omega)
      have c16 := same_any w16 _ _ _ _ A16.bs W16.bs
      rw [beq_self_eq_true] at c16
      go_wp2_with fail
      refine c16.mono ?_
      rintro e w17 ⟨rfl, m17, rfl⟩
      go_wp2_with fail
      go_ret
      exact ⟨rfl, T16.drewN m17⟩
    · have hmn' : ¬ (os.length : Int) < (bs.length : Int) := by omega
      have hnl : (bs.length : Int) ≤ (lc : Int) := by omega
      have hn1 : bs.length ≤ bs.length := by omega
      have hn2 : bs.length ≤ os.length := by omega
      have hcap3 : (bs.length : Int) ≤ (oc : Int) := by omega
      have hS : Bs w10 (.slice (some a) bs.length oc) (os.take bs.length) := (HO.turn_no T10).cut bs.length hn2
      obtain ⟨OS, hOS⟩ : ∃ OS, (os.take bs.length) = OS := ⟨_, rfl⟩
      rw [hOS] at hS
      have hOl : OS.length = bs.length := by rw [← hOS]; first | rfl | (rw [List.length_take]; omega)
      obtain ⟨w11, hcopy, hr11, t11⟩ := run_copy_over w10 3 g 0 bs.length lc _ OS cur 5 hr10 hS (by rw [hOl, hcs]; omega)
      have hmin : min OS.length bs.length = bs.length := by rw [hOl]; omega
      have hcopy' : ∀ ty, (Builtin.copy_ #[22, 22] ty #[.slice (some ⟨g, 0, none⟩) bs.length lc, (.slice (some a) bs.length oc)]).run Tryd.prog w10 = .ok (.int .i64 ((bs.length : Nat) : Int)) w11 := fun ty => by
        have := hcopy
        rw [hmin] at this
        exact this
      rw [hmin, List.take_of_length_le (by omega)] at hr11
      have T11 : Turn no w w11 := T10.trans t11 (fun i hi q => by subst q; omega)
      have A11 := A10.turn t11 (fun k hk q => by subst q; have := hAf k hk; omega)
      have W11 := W10.turn t11 (fun k hk q => by subst q; have := hWf k hk; omega)
      have hB11 := over_bs (n := bs.length) (cap := lc) hr11 hOl (by omega) hcm
      have hS11 : Bs w11 (.slice (some a) bs.length oc) OS := by rw [← hOS]; exact ((HO.turn_no T11).cut bs.length hn2)
      have c12 := frame10 w11 _ OS hB11 (hL.turn_no T11)
      obtain ⟨GE, hGE⟩ : ∃ F, frE OS = F := ⟨_, rfl⟩
      have hGl := frB_len OS
      obtain ⟨GB, hGB⟩ : ∃ F, frB OS = F := ⟨_, rfl⟩
      rw [hGB, hGE] at c12
      rw [hGB] at hGl
      have hGI : (GE != GE) = false := by simp
      clear hcopy hr10 t11 hS
      go_wp2_with (at_builtin; refine wpList_copy rfl _ _ (t := 22) (tx := 22) rfl _ _ rfl rfl (hcopy' _) ?_)
      refine c12.mono ?_
      rintro e w12 ⟨vc, rfl, C12⟩
      have T12 := T11.then_no C12.t
      have hB12 := hB11.turn_no C12.t
      have c13 := rframe11 w12 _ OS (hS11.turn_no C12.t)
      rw [hGB, hGE] at c13
      obtain ⟨ca, cn, cc, rfl⟩ := C12.own.form
      have A12 := A11.turn_no C12.t
      have W12 := W11.turn_no C12.t
      clear c12 hcopy'
      go_wp2_with fail
      refine c13.mono ?_
      rintro e w13 ⟨vd, rfl, D13⟩
      have T13 := T12.then_no D13.t
      have C13 := C12.turn_no D13.t
      have A13 := A12.turn_no D13.t
      have W13 := W12.turn_no D13.t
      obtain ⟨da, dn, dc, rfl⟩ := D13.own.form
      clear c13
      go_wp2_with fail
      refine (num12 _ _).mono ?_
      rintro e w14 ⟨rfl, rfl⟩
      have c14 := same_any w14 _ _ _ _ C13.own.bs D13.own.bs
      rw [beq_self_eq_true] at c14
      go_wp2_with fail
      refine c14.mono ?_
      rintro e w15 ⟨rfl, m15, rfl⟩
      have t15 := (Turn.refl no w14).drewN m15
      have C15 := C13.turn_no t15
      have A15 := A13.turn_no t15
      have W15 := W13.turn_no t15
      have T15 := T13.then_no t15
      generalize w14.drewN m15 = w15 at *
      have c15 := turn15 w15 _ GB C15.own (by omega)
      have hAl : ∀ k, (Value.slice aa an ac).ownBlock = some k → k < w11.heap.size := fun k q => A11.lt q
      have hWl : ∀ k, (Value.slice wa wn wc).ownBlock = some k → k < w11.heap.size := fun k q => W11.lt q
      have hCf := C15.fresh
      have s11 := T11.size
      clear c14 t15 A13 W13 C13 T13 D13 A12 W12 C12 T12 hB12
      go_wp2_with fail
      refine c15.mono ?_
      rintro e w16 ⟨rfl, t16⟩
      have A16 := A15.turn t16 (fun k hk q => by have := hCf k q; have := hAl k hk; omega)
      have W16 := W15.turn t16 (fun k hk q => by have := hCf k q; have := hWl k hk; omega)
      have T16 : Turn no w w16 := T15.trans t16 (fun i hi q => by have := hCf i q; omega)
      have c16 := same_any w16 _ _ _ _ A16.bs W16.bs
      rw [beq_self_eq_true] at c16
      go_wp2_with fail
      refine c16.mono ?_
      rintro e w17 ⟨rfl, m17, rfl⟩
      go_wp2_with fail
      go_ret
      exact ⟨rfl, T16.drewN m17⟩
end Go.Proofs.YtbkbecjgphjpkaaDoor
