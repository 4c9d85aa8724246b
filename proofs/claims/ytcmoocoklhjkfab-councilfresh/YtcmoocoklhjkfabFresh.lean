/- CouncilFresh: the walk and the row. -/
import Derived.Test.YtcmoocoklhjkfabF2
import Derived.Test.YtcmoocoklhjkfabE2
namespace Go.Proofs.Ytcmoocoklhjkfab
open Go.ChangeShapes Go.WideShapes Go.ChangeAt Go.RowKit Go.Joins Go.Deep
set_option linter.unusedVariables false

set_option maxRecDepth 100000 in
set_option maxHeartbeats 20000000 in
theorem fresh_any (w : World) (v vn : Value) (l nx : List Mb) (zz : Int) (h : Ms w v l) (hx : Ms w vn nx) (hb : l.length * 24 ≤ 140737488351232) (hbx : nx.length * 24 ≤ 140737488351232) (hz0 : -9223372036854775808 ≤ zz) (hz1 : zz < 9223372036854775808) :
    Calls Try.prog 7 #[v, .int .i64 zz, vn] w fun e w' => e = .returned (.bool true) ∧ Turn no w w' := by
  have c1 := alive9 w
  obtain ⟨va, vcap, ev⟩ := h.shape
  obtain ⟨na, ncap, en⟩ := hx.shape
  obtain ⟨n, hn⟩ : ∃ n, Hid (l.length = n) := ⟨_, rfl⟩
  obtain ⟨nn, hnn⟩ : ∃ nn, Hid (nx.length = nn) := ⟨_, rfl⟩
  rw [show l.length = n from hn.out] at ev
  rw [show nx.length = nn from hnn.out] at en
  subst ev
  subst en
  go_enter Try.func7, Try.ntmps7
  go_wp2_with fail
  refine c1.mono ?_
  rintro e w1 ⟨rfl, T⟩
  by_cases hL : weighE l = 0
  · have c2 := rnew16_yes w1 _ l (h.turn_no T) hL
    clear c1
    go_wp2_with fail
    refine c2.mono ?_
    rintro e w2 ⟨cu, rfl, MD, t⟩
    obtain ⟨cg, cc, rfl, RC, hcg⟩ := MD
    have hs1 := T.size
    have TA : Turn no w2 (w2.alloc (.cells #[.slice (some ⟨cg, 0, none⟩) (zeroed l).length cc] 26)) := (Turn.refl no w2).alloc _
    have B0 := Bx.new w2 (.slice (some ⟨cg, 0, none⟩) (zeroed l).length cc) 26
    have T2 := (T.then_no t).then_no TA
    have hnl : nx ≠ [] → ∀ g, Value.ownBlock (.slice na nn ncap) = some g → g < w.heap.size := fun hne g q => by
      obtain ⟨a', c', e', MA⟩ := hx
      cases e'
      cases nx with
      | nil => exact absurd rfl hne
      | cons m rest =>
        obtain ⟨b, off, ea, c0, _⟩ := MA.cells 0 m rfl
        subst ea
        cases q
        exact World.block_lt_of_cell? w _ c0
    have hll : l ≠ [] → ∀ g, Value.ownBlock (.slice va n vcap) = some g → g < w.heap.size := fun hne g q => by
      obtain ⟨a', c', e', MA⟩ := h
      cases e'
      cases l with
      | nil => exact absurd rfl hne
      | cons m rest =>
        obtain ⟨b, off, ea, c0, _⟩ := MA.cells 0 m rfl
        subst ea
        cases q
        exact World.block_lt_of_cell? w _ c0
    have FR : Fr (w2.heap.size + 1) (w2.alloc (.cells #[.slice (some ⟨cg, 0, none⟩) (zeroed l).length cc] 26)) w2.heap.size (.slice (some ⟨cg, 0, none⟩) (zeroed l).length cc) (.slice va n vcap) (.slice na nn ncap) (zeroed l) l nx [] [] (lf (zeroed l) (turnsN (tot (zeroed l)) (zeroed l) (turnsOf zz)) (renewR (zeroed l) nx)) :=
      ⟨B0, by omega, ⟨_, cc, rfl, (RC.turn_no TA).at⟩, fun g q => (by cases q; exact Nat.lt_succ_of_lt RC.lt), fun g q => (by cases q; obtain ⟨cur, ho, _⟩ := (RC.turn_no TA).obj; exact ⟨cur, ho⟩), h.turn_no T2, fun hne g q => (by have := hll hne g q; have := (T.then_no t).size; omega), hx.turn_no T2, fun hne g q => (by have := hnl hne g q; have := T2.size; have := (T.then_no t).size; omega),
        ⟨fun k v hv => (by simp at hv), fun k v hv => (by simp at hv), fun i j v u g hv => (by simp at hv)⟩, fun g ⟨k, v, hv, _⟩ => (by simp at hv), fun k v hv => (by simp at hv), fun k v g hv => (by simp at hv), fun k v g hv => (by simp at hv)⟩
    have hbs : w2.heap.size + 1 ≤ (w2.alloc (.cells #[.slice (some ⟨cg, 0, none⟩) (zeroed l).length cc] 26)).heap.size := by simp
    have hlz : (zeroed l).length = n := by rw [zeroed_len]; exact hn.out
    have hSZ : soundE (zeroed l) = 0 := by rw [zeroed_sound]; exact hL
    have h64 := (weigh_ok l hL).2.1
    have hn0 := (weigh_ok l hL).1
    rw [hlz] at FR hbs T2
    rw [hlz]
    have c3 := turns23 (w2.alloc (.cells #[.slice (some ⟨cg, 0, none⟩) n cc] 26)) zz hz0 hz1
    have hKt := turnsOf_lt zz
    have hwB0 : w.heap.size ≤ w2.heap.size := (T.then_no t).size
    clear B0 TA RC hcg t T h hx hnl hll c2
    go_wp2_with fail
    refine c3.mono ?_
    rintro e w4 ⟨rfl, rfl⟩
    clear c3
    generalize turnsOf zz = K at *
    obtain ⟨B, hB⟩ : ∃ B, Hid (w2.heap.size + 1 = B) := ⟨_, rfl⟩
    obtain ⟨bx, hbx2⟩ : ∃ bx, Hid (w2.heap.size = bx) := ⟨_, rfl⟩
    rw [show w2.heap.size + 1 = B from hB.out] at FR hbs
    rw [show w2.heap.size = bx from hbx2.out] at FR ⊢
    have hwB : w.heap.size ≤ B := by have := hwB0; have := hB.out; omega
    clear hB hbx2 hwB0
    generalize w2.alloc (.cells #[.slice (some ⟨cg, 0, none⟩) n cc] 26) = w3 at *
    obtain ⟨z, hz⟩ : ∃ z, Hid (zeroed l = z) := ⟨_, rfl⟩
    have hz' : zeroed l = z := hz.out
    rw [hz'] at FR hlz hSZ
    clear hz'
    obtain ⟨y, hy⟩ : ∃ y, Hid (turnsN (tot z) z K = y) := ⟨_, rfl⟩
    obtain ⟨rr, hrr⟩ : ∃ rr, Hid (renewR z nx = rr) := ⟨_, rfl⟩
    obtain ⟨rE, hrE⟩ : ∃ rE, Hid (renewE z nx = rE) := ⟨_, rfl⟩
    rw [show turnsN (tot z) z K = y from hy.out, show renewR z nx = rr from hrr.out] at FR
    go_wp2_with fail
    go_loopw [11, 12, 13] (fun u1 u2 x wr => ∃ (i : Nat) (vs ws : List Value), i ≤ 2 ∧ x = .int .i64 i ∧ vs.length = 4 * i ∧ ws.length = 4 * i ∧ Own wr 22 u1 vs ∧ Own wr 22 u2 ws ∧ (∀ g, u1.ownBlock = some g → B ≤ g) ∧ (∀ g, u2.ownBlock = some g → B ≤ g) ∧ (∀ g, u1.ownBlock = some g → u2.ownBlock = some g → False) ∧ Fr B wr bx (.slice (some ⟨cg, 0, none⟩) n cc) (.slice va n vcap) (.slice na nn ncap) z l nx vs ws (lf z y rr) ∧ B ≤ wr.heap.size ∧ Turn no w wr) (fun _ _ x _ => 2 - (intOf x).toNat)
    case atStart => exact ⟨0, [], [], by omega, rfl, rfl, rfl, Own.nil _ _, Own.nil _ _, fun g q => (by cases q), fun g q => (by cases q), fun g q => (by cases q), FR, hbs, T2⟩
    case round =>
      obtain ⟨i, vs, ws, hi, rfl, hvl, hwl, O1, O2, f1, f2, f12, FR, hbs, T⟩ := hrel
      by_cases hil : i < 2
      · have hil' : (i : Int) < 2 := by omega
        have hvb : ∀ g, Lb vs g → g < wr.heap.size := fun g q => lb_lt FR.lot q
        have hwb : ∀ (k : Nat) (v : Value) (g : Nat), ws[k]? = some v → v.ownBlock = some g → g < wr.heap.size := fun k v g hv q => (FR.wx k v g hv q).2
        obtain ⟨ny, hny⟩ : ∃ ny, Hid (y.length = ny) := ⟨_, rfl⟩
        obtain ⟨nr, hnr⟩ : ∃ nr, Hid (rr.length = nr) := ⟨_, rfl⟩
        have lz : z.length = n := hlz
        have ly : y.length = ny := hny.out
        have lr : rr.length = nr := hnr.out
        obtain ⟨u1a, u1c, e1, _⟩ := OwnN.form (show OwnN _ 22 1 _ _ _ from O1)
        obtain ⟨u2a, u2c, e2, _⟩ := OwnN.form (show OwnN _ 22 1 _ _ _ from O2)
        rw [hvl] at e1
        rw [hwl] at e2
        subst e1
        subst e2
        have cA := new15_yes wr _ l FR.ml hL
        rw [show zeroed l = z from hz.out] at cA
        have kb := FR.box.c
        go_wp2_with fail
        refine cA.mono ?_
        rintro e wA ⟨uA, rfl, MA, t⟩
        have NA := MA.nw
        obtain ⟨aA, pA, eA, _⟩ := NA.own.form
        rw [lz] at eA
        subst eA
        have zA := t.size
        have FR := FR.turn_no t
        have O1 := O1.turn_no t
        have O2 := O2.turn_no t
        have T := T.then_no t
        have tb : Turn no wA (wA.alloc (.cells #[.slice aA n pA] 26)) := (Turn.refl no wA).alloc _
        have XA := Bx.new wA (.slice aA n pA) 26
        have FR := FR.turn_no tb
        have O1 := O1.turn_no tb
        have O2 := O2.turn_no tb
        have NA := NA.turn_no tb
        have T := T.then_no tb
        have yA := tb.size
        clear cA t tb MA kb
        have cB := turn10_yes _ (.slice (some ⟨cg, 0, none⟩) n cc) z FR.cm K hSZ (by omega)
        rw [show turnsN (tot z) z K = y from hy.out] at cB
        have kb := FR.box.c
        go_wp2_with fail
        refine cB.mono ?_
        rintro e wB ⟨uB, rfl, MB, t⟩
        have NB := MB.nw
        obtain ⟨aB, pB, eB, _⟩ := NB.own.form
        rw [ly] at eB
        subst eB
        have zB := t.size
        have FR := FR.turn_no t
        have O1 := O1.turn_no t
        have O2 := O2.turn_no t
        have NA := NA.turn_no t
        have XA := XA.turn_no t
        have T := T.then_no t
        have tb : Turn no wB (wB.alloc (.cells #[.slice aB ny pB] 26)) := (Turn.refl no wB).alloc _
        have XB := Bx.new wB (.slice aB ny pB) 26
        have FR := FR.turn_no tb
        have O1 := O1.turn_no tb
        have O2 := O2.turn_no tb
        have NA := NA.turn_no tb
        have XA := XA.turn_no tb
        have NB := NB.turn_no tb
        have T := T.then_no tb
        have yB := tb.size
        clear cB t tb MB kb
        have cC := turn10_yes _ (.slice (some ⟨cg, 0, none⟩) n cc) z FR.cm 0 hSZ (by omega)
        rw [show turnsN (tot z) z 0 = z from rfl] at cC
        have kb := FR.box.c
        go_wp2_with fail
        refine cC.mono ?_
        rintro e wC ⟨uC, rfl, MC, t⟩
        have NC := MC.nw
        obtain ⟨aC, pC, eC, _⟩ := NC.own.form
        rw [lz] at eC
        subst eC
        have zC := t.size
        have FR := FR.turn_no t
        have O1 := O1.turn_no t
        have O2 := O2.turn_no t
        have NA := NA.turn_no t
        have NB := NB.turn_no t
        have XA := XA.turn_no t
        have XB := XB.turn_no t
        have T := T.then_no t
        have tb : Turn no wC (wC.alloc (.cells #[.slice aC n pC] 26)) := (Turn.refl no wC).alloc _
        have XC := Bx.new wC (.slice aC n pC) 26
        have FR := FR.turn_no tb
        have O1 := O1.turn_no tb
        have O2 := O2.turn_no tb
        have NA := NA.turn_no tb
        have NB := NB.turn_no tb
        have XA := XA.turn_no tb
        have XB := XB.turn_no tb
        have NC := NC.turn_no tb
        have T := T.then_no tb
        have yC := tb.size
        clear cC t tb MC kb
        have cD := renew11_nw _ (.slice (some ⟨cg, 0, none⟩) n cc) (.slice na nn ncap) z nx FR.cm FR.mn
        rw [show renewR z nx = rr from hrr.out, show renewE z nx = rE from hrE.out] at cD
        have kb := FR.box.c
        go_wp2_with fail
        refine cD.mono ?_
        rintro e wD ⟨uD, rfl, MD, t⟩
        have ND := MD
        obtain ⟨aD, pD, eD, _⟩ := ND.own.form
        rw [lr] at eD
        subst eD
        have zD := t.size
        have FR := FR.turn_no t
        have O1 := O1.turn_no t
        have O2 := O2.turn_no t
        have NA := NA.turn_no t
        have NB := NB.turn_no t
        have NC := NC.turn_no t
        have XA := XA.turn_no t
        have XB := XB.turn_no t
        have XC := XC.turn_no t
        have T := T.then_no t
        have tb : Turn no wD (wD.alloc (.cells #[.slice aD nr pD] 26)) := (Turn.refl no wD).alloc _
        have XD := Bx.new wD (.slice aD nr pD) 26
        have FR := FR.turn_no tb
        have O1 := O1.turn_no tb
        have O2 := O2.turn_no tb
        have NA := NA.turn_no tb
        have NB := NB.turn_no tb
        have NC := NC.turn_no tb
        have XA := XA.turn_no tb
        have XB := XB.turn_no tb
        have XC := XC.turn_no tb
        have ND := ND.turn_no tb
        have T := T.then_no tb
        have yD := tb.size
        clear cD t tb MD kb
        have k1 := XA.c
        have k2 := XB.c
        have k3 := XC.c
        have k4 := XD.c
        have hs := src_four (e := 22) Try.underlying50 (wD.alloc (.cells #[.slice aD nr pD] 26)) #[.slice aA n pA, .slice aB ny pB, .slice aC n pC, .slice aD nr pD] 4 rfl (by simp [Value.oneCell'])
        rw [show (wD.alloc (.cells #[.slice aD nr pD] 26)).heap.size = wD.heap.size + 1 by simp] at hs
        have tr : Turn no (wD.alloc (.cells #[.slice aD nr pD] 26)) ((wD.alloc (.cells #[.slice aD nr pD] 26)).alloc (.cells #[.slice aA n pA, .slice aB ny pB, .slice aC n pC, .slice aD nr pD] 22)) := (Turn.refl no _).alloc _
        have P1 := O1.turn_no tr
        go_wp2_with (at_builtin; go_loud (refine wpList_append_src rfl (.tmp 69) (.tmp 78) rfl Try.underlying50 info22 rfl (.slice u1a (4 * i) u1c) vs rfl P1 (.slice (some ⟨wD.heap.size + 1, 0, none⟩) 4 4) 4 _ rfl hs ?_ ?_ ?_))
        · rw [hvl]; omega
        · rw [hvl]; simp only [maxLen]; omega
        intro v3 w3x O3 G3 _
        have zr := tr.size
        have FR := FR.turn_no tr
        have O2 := O2.turn_no tr
        have NA := NA.turn_no tr
        have NB := NB.turn_no tr
        have NC := NC.turn_no tr
        have ND := ND.turn_no tr
        have NA := NA.row P1 G3.turn
        have NB := NB.row P1 G3.turn
        have NC := NC.row P1 G3.turn
        have ND := ND.row P1 G3.turn
        have FR := FR.row P1 f1 G3.turn
        have O2W := O2
        have O2 := O2.turn G3.turn (fun g q r => f12 g r q)
        have hB1 : B ≤ w3x.heap.size := by have := G3.turn.size; omega
        have T := (T.then_no tr).of_no.trans G3.turn (fun _ _ q => q) |>.mono (S' := no) (fun b hb q => by have := f1 b q; omega)
        have f3 := G3.fresh f1 (by omega)
        have zG := G3.turn.size
        have FR := FR.got (4 * i) hvl (by rw [lf0]; exact NA) hbs hvb hwb
        have FR := FR.got (4 * i + 1) (by simp [hvl]) (by rw [lf1]; exact NB) (by omega) (fun g q => (lb_push q).elim (fun r => by have := hvb g r; omega) (fun r => by have := (NA.lo g r).2; omega)) (fun k v g hv q => by have := hwb k v g hv q; omega)
        have FR := FR.got (4 * i + 2) (by simp [hvl]) (by rw [lf2]; exact NC) (by omega) (fun g q => (lb_push q).elim (fun q => (lb_push q).elim (fun r => by have := hvb g r; omega) (fun r => by have := (NA.lo g r).2; omega)) (fun r => by have := (NB.lo g r).2; omega)) (fun k v g hv q => by have := hwb k v g hv q; omega)
        have FR := FR.got (4 * i + 3) (by simp [hvl]) (by rw [lf3]; exact ND) (by omega) (fun g q => (lb_push q).elim (fun q => (lb_push q).elim (fun q => (lb_push q).elim (fun r => by have := hvb g r; omega) (fun r => by have := (NA.lo g r).2; omega)) (fun r => by have := (NB.lo g r).2; omega)) (fun r => by have := (NC.lo g r).2; omega)) (fun k v g hv q => by have := hwb k v g hv q; omega)
        rw [show vs ++ [Value.slice aA n pA] ++ [Value.slice aB ny pB] ++ [Value.slice aC n pC] ++ [Value.slice aD nr pD] = vs ++ [Value.slice aA n pA, Value.slice aB ny pB, Value.slice aC n pC, Value.slice aD nr pD] by simp] at FR
        have hf34 : ∀ g, v3.ownBlock = some g → Value.ownBlock (.slice u2a (4 * i) u2c) = some g → False := fun g q r => by
          rcases G3.blk with q2 | ⟨g2, q2, q3, _⟩
          · exact f12 g (by rw [← q2]; exact q) r
          · rw [q] at q2; cases q2; have := O2W.lt r; omega
        obtain ⟨vs2, hvs2⟩ : ∃ vs2 : List Value, Hid (vs ++ [Value.slice aA n pA, Value.slice aB ny pB, Value.slice aC n pC, Value.slice aD nr pD] = vs2) := ⟨_, rfl⟩
        have O3 : Own w3x 22 v3 (vs ++ [Value.slice aA n pA, Value.slice aB ny pB, Value.slice aC n pC, Value.slice aD nr pD]) := O3
        rw [show vs ++ [Value.slice aA n pA, Value.slice aB ny pB, Value.slice aC n pC, Value.slice aD nr pD] = vs2 from hvs2.out] at FR O3
        have hvl2 : vs2.length = 4 * i + 4 := by rw [← hvs2.out]; simp [hvl]
        obtain ⟨u3a, u3c, e3, _⟩ := OwnN.form (show OwnN _ 22 1 _ _ _ from O3)
        rw [hvl2] at e3
        subst e3
        clear hvs2 NA NB NC ND XA XB XC XD hvb hwb G3 k1 k2 k3 k4 hs tr P1 O1 O2W zA zB zC zD yA yB yC yD zr zG f1 hbs f12 hvl
        have hvb2 : ∀ g, Lb vs2 g → g < w3x.heap.size := fun g q => lb_lt FR.lot q
        have O1 := O3
        clear O3
        have cE := rturn25_yes _ (.slice (some ⟨cg, 0, none⟩) n cc) z FR.cm K hSZ (by omega)
        rw [show turnsN (tot z) z K = y from hy.out] at cE
        have kb := FR.box.c
        go_wp2_with fail
        refine cE.mono ?_
        rintro e wE ⟨uE, rfl, ME, t⟩
        have NE := ME.nw
        obtain ⟨aE, pE, eE, _⟩ := NE.own.form
        rw [ly] at eE
        subst eE
        have zE := t.size
        have FR := FR.turn_no t
        have O1 := O1.turn_no t
        have O2 := O2.turn_no t
        have T := T.then_no t
        have tb : Turn no wE (wE.alloc (.cells #[.slice aE ny pE] 26)) := (Turn.refl no wE).alloc _
        have XE := Bx.new wE (.slice aE ny pE) 26
        have FR := FR.turn_no tb
        have O1 := O1.turn_no tb
        have O2 := O2.turn_no tb
        have NE := NE.turn_no tb
        have T := T.then_no tb
        have yE := tb.size
        clear cE t tb ME kb
        have cF := rrenew21_nw _ (.slice (some ⟨cg, 0, none⟩) n cc) (.slice na nn ncap) z nx FR.cm FR.mn hbx
        rw [show renewR z nx = rr from hrr.out, show renewE z nx = rE from hrE.out] at cF
        have kb := FR.box.c
        go_wp2_with fail
        refine cF.mono ?_
        rintro e wF ⟨uF, rfl, MF, t⟩
        have NF := MF
        obtain ⟨aF, pF, eF, _⟩ := NF.own.form
        rw [lr] at eF
        subst eF
        have zF := t.size
        have FR := FR.turn_no t
        have O1 := O1.turn_no t
        have O2 := O2.turn_no t
        have NE := NE.turn_no t
        have XE := XE.turn_no t
        have T := T.then_no t
        have tb : Turn no wF (wF.alloc (.cells #[.slice aF nr pF] 26)) := (Turn.refl no wF).alloc _
        have XF := Bx.new wF (.slice aF nr pF) 26
        have FR := FR.turn_no tb
        have O1 := O1.turn_no tb
        have O2 := O2.turn_no tb
        have NE := NE.turn_no tb
        have XE := XE.turn_no tb
        have NF := NF.turn_no tb
        have T := T.then_no tb
        have yF := tb.size
        clear cF t tb MF kb
        have k1 := XE.c
        have k2 := XF.c
        have k3 := FR.box.c
        have hs := src_four (e := 22) Try.underlying50 (wF.alloc (.cells #[.slice aF nr pF] 26)) #[.slice (some ⟨cg, 0, none⟩) n cc, .slice aE ny pE, .slice (some ⟨cg, 0, none⟩) n cc, .slice aF nr pF] 4 rfl (by simp [Value.oneCell'])
        rw [show (wF.alloc (.cells #[.slice aF nr pF] 26)).heap.size = wF.heap.size + 1 by simp] at hs
        have tr : Turn no (wF.alloc (.cells #[.slice aF nr pF] 26)) ((wF.alloc (.cells #[.slice aF nr pF] 26)).alloc (.cells #[.slice (some ⟨cg, 0, none⟩) n cc, .slice aE ny pE, .slice (some ⟨cg, 0, none⟩) n cc, .slice aF nr pF] 22)) := (Turn.refl no _).alloc _
        have P1 := O2.turn_no tr
        go_wp2_with (at_builtin; go_loud (refine wpList_append_src rfl (.tmp 92) (.tmp 101) rfl Try.underlying50 info22 rfl (.slice u2a (4 * i) u2c) ws rfl P1 (.slice (some ⟨wF.heap.size + 1, 0, none⟩) 4 4) 4 _ rfl hs ?_ ?_ ?_))
        · rw [hwl]; omega
        · rw [hwl]; simp only [maxLen]; omega
        intro v4 w4x O4 G4 _
        have zr := tr.size
        have FR := FR.turn_no tr
        have O1 := O1.turn_no tr
        have NE := NE.turn_no tr
        have NF := NF.turn_no tr
        have l1 : ∀ g, Value.ownBlock (.slice u3a (4 * i + 4) u3c) = some g → g < _ := fun g q => O1.lt q
        have NE := NE.row P1 G4.turn
        have NF := NF.row P1 G4.turn
        have FR := FR.row P1 f2 G4.turn
        have O1 := O1.turn G4.turn (fun g q r => hf34 g q r)
        have zG := G4.turn.size
        have hB2 : B ≤ w4x.heap.size := by omega
        have T := (T.then_no tr).of_no.trans G4.turn (fun _ _ q => q) |>.mono (S' := no) (fun b hb q => by have := f2 b q; omega)
        have f4 := G4.fresh f2 (by omega)
        have hcx : ∀ g, Value.ownBlock (.slice (some ⟨cg, 0, none⟩) n cc) = some g → ¬ Lb vs2 g ∧ g < w4x.heap.size := fun g q => ⟨fun r => by have := FR.cl g q; have := FR.lo g r; omega, by have := FR.cl g q; omega⟩
        have FR := FR.want (4 * i) hwl (by rw [lf0]; exact FR.cm) hcx FR.ct
        have FR := FR.want (4 * i + 1) (by simp [hwl]) (by rw [lf1]; exact NE.ms) (fun g q => ⟨fun r => by have := hvb2 g r; have := (NE.lo g q).1; omega, by have := (NE.lo g q).2; omega⟩) NE.tag
        have FR := FR.want (4 * i + 2) (by simp [hwl]) (by rw [lf2]; exact FR.cm) hcx FR.ct
        have FR := FR.want (4 * i + 3) (by simp [hwl]) (by rw [lf3]; exact NF.ms) (fun g q => ⟨fun r => by have := hvb2 g r; have := (NF.lo g q).1; omega, by have := (NF.lo g q).2; omega⟩) NF.tag
        have f34 : ∀ g, Value.ownBlock (.slice u3a (4 * i + 4) u3c) = some g → v4.ownBlock = some g → False := fun g q r => by
          rcases G4.blk with q2 | ⟨g2, q2, q3, _⟩
          · exact hf34 g q (by rw [← q2]; exact r)
          · rw [r] at q2; cases q2; have := l1 g q; omega
        rw [show ws ++ [Value.slice (some ⟨cg, 0, none⟩) n cc] ++ [Value.slice aE ny pE] ++ [Value.slice (some ⟨cg, 0, none⟩) n cc] ++ [Value.slice aF nr pF] = ws ++ [Value.slice (some ⟨cg, 0, none⟩) n cc, Value.slice aE ny pE, Value.slice (some ⟨cg, 0, none⟩) n cc, Value.slice aF nr pF] by simp] at FR
        have hwl2 : (ws ++ [Value.slice (some ⟨cg, 0, none⟩) n cc, Value.slice aE ny pE, Value.slice (some ⟨cg, 0, none⟩) n cc, Value.slice aF nr pF]).length = 4 * i + 4 := by simp [hwl]
        have O4 : Own w4x 22 v4 (ws ++ [.slice (some ⟨cg, 0, none⟩) n cc, .slice aE ny pE, .slice (some ⟨cg, 0, none⟩) n cc, .slice aF nr pF]) := O4
        obtain ⟨u4a, u4c, e4, _⟩ := OwnN.form (show OwnN _ 22 1 _ _ _ from O4)
        rw [hwl2] at e4
        subst e4
        clear NE NF XE XF hvb2 G4 k1 k2 k3 hs tr P1 zE zF yE yF zr zG hcx
        go_wp2_with fail
        go_roundw
        case rel => exact ⟨i + 1, vs2, _, by omega, by go_num, by omega, by rw [hwl2]; omega, O1, O4, f3, f4, f34, FR, hB2, T⟩
        case measure => simp [intOf]; omega
      · have hie : i = 2 := by omega
        subst hie
        rw [show ((2 : Nat) : Int) = 2 from rfl]
        obtain ⟨u1a, u1c, e1, _⟩ := OwnN.form (show OwnN _ 22 1 _ _ _ from O1)
        obtain ⟨u2a, u2c, e2, _⟩ := OwnN.form (show OwnN _ 22 1 _ _ _ from O2)
        rw [hvl] at e1
        rw [hwl] at e2
        subst e1
        subst e2
        obtain ⟨g1, rfl⟩ : ∃ g1, u1a = some ⟨g1, 0, none⟩ := by
          rcases O1.shape with ⟨_, e⟩ | ⟨g1, cap, cur, e, _⟩
          · rw [e] at hvl; simp at hvl
          · rw [hvl] at e; cases e; exact ⟨g1, rfl⟩
        obtain ⟨g2, rfl⟩ : ∃ g2, u2a = some ⟨g2, 0, none⟩ := by
          rcases O2.shape with ⟨_, e⟩ | ⟨g2, cap, cur, e, _⟩
          · rw [e] at hwl; simp at hwl
          · rw [hwl] at e; cases e; exact ⟨g2, rfl⟩
        have hvl : vs.length = 8 := by omega
        have hwl : ws.length = 8 := by omega
        rw [show 4 * 2 = 8 from rfl] at O1 O2 ⊢
        clear f12
        go_wp2_with fail
        obtain ⟨wx, hwx⟩ : ∃ wx, wx = wr := ⟨_, rfl⟩
        subst hwx
        go_loopw [26] (fun x wr => ∃ j : Nat, j ≤ 8 ∧ x = .int .i64 j ∧ Turn no wx wr) (fun x _ => 8 - (intOf x).toNat)
        case atStart => exact ⟨0, by omega, rfl, Turn.refl _ _⟩
        case round =>
          obtain ⟨j, hj, rfl, TJ⟩ := hrel
          by_cases hjl : j < 8
          · have hjl' : (j : Int) < 8 := by omega
            obtain ⟨v, hv⟩ : ∃ v, vs[j]? = some v := ⟨vs[j]'(by omega), List.getElem?_eq_getElem _⟩
            obtain ⟨wv, hw⟩ : ∃ wv, ws[j]? = some wv := ⟨ws[j]'(by omega), List.getElem?_eq_getElem _⟩
            have MV := ((FR.lot.own j v hv).ms rfl (FR.lot.ok j v hv)).turn_no TJ
            have MW := (FR.wm j wv hw).turn_no TJ
            have cS := fun W (hW : Turn no wr W) => same13 W v wv _ (MV.turn_no hW) (MW.turn_no hW)
            obtain ⟨ln, hln⟩ : ∃ ln, Hid ((lf z y rr j).length = ln) := ⟨_, rfl⟩
            obtain ⟨va1, vc1, e1⟩ := MV.shape
            obtain ⟨wa1, wc1, e2⟩ := MW.shape
            rw [show (lf z y rr j).length = ln from hln.out] at e1 e2
            subst e1
            subst e2
            have hc1 := (O1.turn_no TJ).cell j _ hv
            have hc2 := (O2.turn_no TJ).cell j _ hw
            clear MV MW hv hw
            go_wp2_with fail
            refine wp_region_held_drew (S := fun W => Turn no wr W) (by kernel_rfl) (Turn.refl _ wr).drew (fun hHeld => ?_)
            refine' wpAnyH_take (i := 0) (v := .slice (some ⟨g1, 0, none⟩) 8 u1c) rfl (by kernel_rfl) (by kernel_rfl) (by kernel_rfl) (fun _ _ _ h => h) (Or.inl ⟨by kernel_rfl, fun W hW => ?y1⟩) hHeld ?r1
            · go_simp
            refine' wpAnyH_take (i := 1) (v := .int .i64 j) rfl (by kernel_rfl) (by kernel_rfl) (by kernel_rfl) (fun _ _ _ h => h) (Or.inl ⟨by kernel_rfl, fun W hW => ?y2⟩) hHeld ?r2
            · go_simp
            refine' wpAnyH_take (i := 2) (v := .pointer (some ⟨g1, j, none⟩)) rfl (by kernel_rfl) (by kernel_rfl) (by kernel_rfl) (fun _ _ _ h => h) (Or.inl ⟨by kernel_rfl, fun W hW => ?y3⟩) hHeld ?r3
            · go_simp
            refine' wpAnyH_take (i := 3) (v := .slice va1 ln vc1) rfl (by kernel_rfl) (by kernel_rfl) (by kernel_rfl) (fun _ _ _ h => h) (Or.inl ⟨by kernel_rfl, fun W hW => ?y4⟩) hHeld ?r4
            · have c := hW.keep hc1 (fun q => q)
              go_simp
            refine' wpAnyH_take (i := 4) (v := .slice (some ⟨g2, 0, none⟩) 8 u2c) rfl (by kernel_rfl) (by kernel_rfl) (by kernel_rfl) (fun _ _ _ h => h) (Or.inl ⟨by kernel_rfl, fun W hW => ?y5⟩) hHeld ?r5
            · go_simp
            refine' wpAnyH_take (i := 5) (v := .int .i64 j) rfl (by kernel_rfl) (by kernel_rfl) (by kernel_rfl) (fun _ _ _ h => h) (Or.inl ⟨by kernel_rfl, fun W hW => ?y6⟩) hHeld ?r6
            · go_simp
            refine' wpAnyH_take (i := 6) (v := .pointer (some ⟨g2, j, none⟩)) rfl (by kernel_rfl) (by kernel_rfl) (by kernel_rfl) (fun _ _ _ h => h) (Or.inl ⟨by kernel_rfl, fun W hW => ?y7⟩) hHeld ?r7
            · go_simp
            refine' wpAnyH_take (i := 7) (v := .slice wa1 ln wc1) rfl (by kernel_rfl) (by kernel_rfl) (by kernel_rfl) (fun _ _ _ h => h) (Or.inl ⟨by kernel_rfl, fun W hW => ?y8⟩) hHeld ?r8
            · have c := hW.keep hc2 (fun q => q)
              go_simp
            refine wpAnyH_ready (rs := [8]) (by kernel_rfl) (by simp) ?_
            refine AllReadyH.cons rfl (fun K hK => ?_) AllReadyH.nil
            go_simp
            refine (cS _ hHeld).mono ?_
            rintro e w4 ⟨rfl, t⟩
            have t := hHeld.then_no t
            go_wp2_with fail
            refine hK.out _ _ t (fun hHeld => ?_)
            clear hK
            refine wpAnyH_ready (rs := [9]) (by kernel_rfl) (by simp) ?_
            refine AllReadyH.cons rfl (fun K hK => ?_) AllReadyH.nil
            go_simp
            refine hK.out _ _ t (fun hHeld => ?_)
            clear hK
            refine wpAnyH_done (by kernel_rfl) ?_ _
            clear hHeld cS hc1 hc2
            go_wp2_with fail
            go_roundw
            case rel => exact ⟨j + 1, by omega, by go_num, TJ.then_no t⟩
            case measure => simp [intOf]; omega
          · have hjl' : ¬ (j : Int) < 8 := by omega
            have hLf : ∀ k, (lf z y rr k).length ≤ 100000 := fun k => by
              have e1 : y.length = n := by rw [← hy.out, turns_len]; exact hlz
              have e2 : rr.length ≤ 64 := by
                rw [← hrr.out, renewR]
                split
                · rename_i q
                  rw [renewE, if_neg (by omega)] at q
                  rw [renew_len]
                  exact (weigh_ok nx q).2.1
                · simp
              have e3 : n ≤ 64 := by rw [← hn.out]; exact h64
              unfold lf
              split
              · omega
              · split <;> omega
            have FR := FR.turn_no TJ
            have O1 := O1.turn_no TJ
            have O2 := O2.turn_no TJ
            have T := T.then_no TJ
            have cP := apart27 wr g1 8 u1c vs (lf z y rr) O1 hvl (by omega) (by omega) FR.lot hLf
            clear hLf
            go_wp2_with fail
            refine cP.mono ?_
            rintro e wP ⟨rfl, tP⟩
            have BX := FR.box.turn tP (fun q => by have := FR.lo _ q; have := FR.bxl; omega)
            have CM := FR.cm.turn tP (fun g q r => by have := FR.cl g q; have := FR.lo g r; omega)
            have MN := FR.mn.late tP (fun hne g q r => by have := FR.nl hne g q; have := FR.lo g r; omega)
            obtain ⟨w1v, hw1⟩ : ∃ w1v, ws[1]? = some w1v := ⟨ws[1]'(by omega), List.getElem?_eq_getElem _⟩
            obtain ⟨w3v, hw3⟩ : ∃ w3v, ws[3]? = some w3v := ⟨ws[3]'(by omega), List.getElem?_eq_getElem _⟩
            have W1 : Ms wP w1v y := (FR.wm 1 w1v hw1).turn tP (fun g q r => (FR.wx 1 w1v g hw1 q).1 r)
            have W3 : Ms wP w3v rr := (FR.wm 3 w3v hw3).turn tP (fun g q r => (FR.wx 3 w3v g hw3 q).1 r)
            have OP := O2.turn tP (fun g q r => FR.lot.away O2 g q r)
            have T := T.of_no.trans tP (fun _ _ q => q) |>.mono (S' := no) (fun b hb q => by have := FR.lo b q; omega)
            clear cP FR O1 O2 tP
            have cG := turn10_yes _ (.slice (some ⟨cg, 0, none⟩) n cc) z CM K hSZ (by omega)
            rw [show turnsN (tot z) z K = y from hy.out] at cG
            have kb := BX.c
            go_wp2_with fail
            refine cG.mono ?_
            rintro e wG ⟨uG, rfl, MG, t⟩
            have MG := MG.ms
            obtain ⟨ny, hny⟩ : ∃ ny, Hid (y.length = ny) := ⟨_, rfl⟩
            obtain ⟨nr, hnr⟩ : ∃ nr, Hid (rr.length = nr) := ⟨_, rfl⟩
            obtain ⟨aG, pG, eG⟩ := MG.shape
            rw [show y.length = ny from hny.out] at eG
            subst eG
            have BX := BX.turn_no t
            have CM := CM.turn_no t
            have MN := MN.turn_no t
            have W1 := W1.turn_no t
            have W3 := W3.turn_no t
            have OP := OP.turn_no t
            have T := T.then_no t
            have tb : Turn no wG (wG.alloc (.cells #[.slice aG ny pG] 26)) := (Turn.refl no wG).alloc _
            have XG := Bx.new wG (.slice aG ny pG) 26
            have BX := BX.turn_no tb
            have CM := CM.turn_no tb
            have MN := MN.turn_no tb
            have W1 := W1.turn_no tb
            have W3 := W3.turn_no tb
            have OP := OP.turn_no tb
            have MG := MG.turn_no tb
            have T := T.then_no tb
            have cH := renew11_nw _ (.slice (some ⟨cg, 0, none⟩) n cc) (.slice na nn ncap) z nx CM MN
            rw [show renewR z nx = rr from hrr.out, show renewE z nx = rE from hrE.out] at cH
            clear cG t tb kb
            have kb := BX.c
            go_wp2_with fail
            refine cH.mono ?_
            rintro e wH ⟨uH, rfl, MH, t⟩
            have MH := MH.ms
            obtain ⟨aH, pH, eH⟩ := MH.shape
            rw [show rr.length = nr from hnr.out] at eH
            subst eH
            have tb : Turn no wH (wH.alloc (.cells #[.slice aH nr pH] 26)) := (Turn.refl no wH).alloc _
            have XH := Bx.new wH (.slice aH nr pH) 26
            have t2 := t.then_no tb
            have W1 := W1.turn_no t2
            have W3 := W3.turn_no t2
            have OP := OP.turn_no t2
            have MG := MG.turn_no t2
            have XG := XG.turn_no t2
            have MH := MH.turn_no tb
            have T := T.then_no t2
            have k1 := XG.c
            have k2 := XH.c
            obtain ⟨a1, p1, e1⟩ := W1.shape
            rw [show y.length = ny from hny.out] at e1
            subst e1
            obtain ⟨a3, p3, e3⟩ := W3.shape
            rw [show rr.length = nr from hnr.out] at e3
            subst e3
            have k3 := OP.cell 1 _ hw1
            have k4 := OP.cell 3 _ hw3
            clear cH t tb t2 kb BX CM MN
            go_wp2_with fail
            generalize wH.alloc (.cells #[.slice aH nr pH] 26) = wI at *
            have cS1 := fun W (hW : Turn no wI W) => same13 W _ _ _ (MG.turn_no hW) (W1.turn_no hW)
            have cS2 := fun W (hW : Turn no wI W) => same13 W _ _ _ (MH.turn_no hW) (W3.turn_no hW)
            refine wp_region_held_drew (S := fun W => Turn no wI W) (by kernel_rfl) (Turn.refl _ wI).drew (fun hHeld => ?_)
            refine' wpAnyH_take (i := 0) (v := .pointer (some ⟨wG.heap.size, 0, none⟩)) rfl (by kernel_rfl) (by kernel_rfl) (by kernel_rfl) (fun _ _ _ h => h) (Or.inl ⟨by kernel_rfl, fun W hW => ?y9⟩) hHeld ?r9
            · go_simp
            refine' wpAnyH_take (i := 1) (v := .slice aG ny pG) rfl (by kernel_rfl) (by kernel_rfl) (by kernel_rfl) (fun _ _ _ h => h) (Or.inl ⟨by kernel_rfl, fun W hW => ?y10⟩) hHeld ?r10
            · have c := hW.keep k1 (fun q => q)
              go_simp
            refine' wpAnyH_take (i := 2) (v := .slice (some ⟨g2, 0, none⟩) 8 u2c) rfl (by kernel_rfl) (by kernel_rfl) (by kernel_rfl) (fun _ _ _ h => h) (Or.inl ⟨by kernel_rfl, fun W hW => ?y11⟩) hHeld ?r11
            · go_simp
            refine' wpAnyH_take (i := 3) (v := .pointer (some ⟨g2, 1, none⟩)) rfl (by kernel_rfl) (by kernel_rfl) (by kernel_rfl) (fun _ _ _ h => h) (Or.inl ⟨by kernel_rfl, fun W hW => ?y12⟩) hHeld ?r12
            · go_simp
            refine' wpAnyH_take (i := 4) (v := .slice a1 ny p1) rfl (by kernel_rfl) (by kernel_rfl) (by kernel_rfl) (fun _ _ _ h => h) (Or.inl ⟨by kernel_rfl, fun W hW => ?y13⟩) hHeld ?r13
            · have c := hW.keep k3 (fun q => q)
              go_simp
            refine wpAnyH_ready (rs := [5]) (by kernel_rfl) (by simp) ?_
            refine AllReadyH.cons rfl (fun K hK => ?_) AllReadyH.nil
            go_simp
            refine (cS1 _ hHeld).mono ?_
            rintro e w4 ⟨rfl, t⟩
            have t := hHeld.then_no t
            go_wp2_with fail
            refine hK.out _ _ t (fun hHeld => ?_)
            clear hK
            refine' wpAnyH_take (i := 6) (v := .bool true) rfl (by kernel_rfl) (by kernel_rfl) (by kernel_rfl) (fun _ _ _ h => h) (Or.inl ⟨by kernel_rfl, fun W hW => ?y14⟩) hHeld ?r14
            · go_simp
            refine' wpAnyH_take (i := 7) (v := .pointer (some ⟨wH.heap.size, 0, none⟩)) rfl (by kernel_rfl) (by kernel_rfl) (by kernel_rfl) (fun _ _ _ h => h) (Or.inl ⟨by kernel_rfl, fun W hW => ?y15⟩) hHeld ?r15
            · go_simp
            refine' wpAnyH_take (i := 8) (v := .slice aH nr pH) rfl (by kernel_rfl) (by kernel_rfl) (by kernel_rfl) (fun _ _ _ h => h) (Or.inl ⟨by kernel_rfl, fun W hW => ?y16⟩) hHeld ?r16
            · have c := hW.keep k2 (fun q => q)
              go_simp
            refine' wpAnyH_take (i := 9) (v := .slice (some ⟨g2, 0, none⟩) 8 u2c) rfl (by kernel_rfl) (by kernel_rfl) (by kernel_rfl) (fun _ _ _ h => h) (Or.inl ⟨by kernel_rfl, fun W hW => ?y17⟩) hHeld ?r17
            · go_simp
            refine' wpAnyH_take (i := 10) (v := .pointer (some ⟨g2, 3, none⟩)) rfl (by kernel_rfl) (by kernel_rfl) (by kernel_rfl) (fun _ _ _ h => h) (Or.inl ⟨by kernel_rfl, fun W hW => ?y18⟩) hHeld ?r18
            · go_simp
            refine' wpAnyH_take (i := 11) (v := .slice a3 nr p3) rfl (by kernel_rfl) (by kernel_rfl) (by kernel_rfl) (fun _ _ _ h => h) (Or.inl ⟨by kernel_rfl, fun W hW => ?y19⟩) hHeld ?r19
            · have c := hW.keep k4 (fun q => q)
              go_simp
            refine wpAnyH_ready (rs := [12]) (by kernel_rfl) (by simp) ?_
            refine AllReadyH.cons rfl (fun K hK => ?_) AllReadyH.nil
            rw [if_pos (by rfl)]
            go_simp
            refine (cS2 _ hHeld).mono ?_
            rintro e w5 ⟨rfl, t5⟩
            have t := hHeld.then_no t5
            go_wp2_with fail
            refine hK.out _ _ t (fun hHeld => ?_)
            clear hK
            refine' wpAnyH_take (i := 13) (v := .bool true) rfl (by kernel_rfl) (by kernel_rfl) (by kernel_rfl) (fun _ _ _ h => h) (Or.inl ⟨by kernel_rfl, fun W hW => ?y20⟩) hHeld ?r20
            · go_simp
            refine wpAnyH_ready (rs := [14]) (by kernel_rfl) (by simp) ?_
            refine AllReadyH.cons rfl (fun K hK => ?_) AllReadyH.nil
            go_simp
            refine hK.out _ _ t (fun hHeld => ?_)
            clear hK
            refine wpAnyH_done (by kernel_rfl) ?_ _
            clear hHeld cS1 cS2
            go_wp2_with fail
            go_ret
            exact ⟨rfl, T.then_no t⟩
  · have c2 := rnew16_no w1 _ l (h.turn_no T) hb hL
    have hL' : (weighE l == 0) = false := by simp; exact hL
    have hL2 : (weighE l != 0) = true := by simp; exact hL
    clear c1
    generalize weighE l = lE at *
    go_wp2_with fail
    refine c2.mono ?_
    rintro e w2 ⟨rfl, t⟩
    have T := (T.then_no t).then_no ((Turn.refl no w2).alloc (.cells #[.slice none 0 0] 26))
    clear c2
    go_wp2_with fail
    go_ret
    exact ⟨rfl, T⟩
end Go.Proofs.Ytcmoocoklhjkfab
