/- CouncilRenews: the walk and the row. -/
import Derived.Test.YtcmoocoklhjkfabR7
import Derived.Test.YtcmoocoklhjkfabOpen
namespace Go.Proofs.Ytcmoocoklhjkfab
open Go.ChangeShapes Go.WideShapes Go.ChangeAt Go.RowKit Go.Joins Go.Deep
set_option linter.unusedVariables false

def renewR (c l : List Mb) : List Mb := if renewE c l = 0 then renewL c l else []
theorem renew11_any (w : World) (vc v : Value) (c l : List Mb) (hc : Ms w vc c) (h : Ms w v l) : Calls Try.prog 11 #[.agg #[vc], v] w fun e w' => ∃ u, e = .returned (.tuple #[.agg #[u], .int .i64 (renewE c l)]) ∧ Ms w' u (renewR c l) ∧ (renewE c l = 0 → Made w.heap.size w' u (renewR c l)) ∧ Turn no w w' := by
  by_cases hE : soundE c = 0
  · have e1 : renewE c l = weighE l := by rw [renewE, if_neg (by omega)]
    by_cases hL : weighE l = 0
    · refine (renew11_yes w vc v c l hc h hE hL).mono ?_
      rintro _ w' ⟨u, rfl, M, T⟩
      have e2 : renewR c l = renewL c l := by rw [renewR, if_pos (by omega)]
      rw [e2]
      exact ⟨u, by rw [e1, hL], M.ms, fun _ => M, T⟩
    · refine (renew11_list w vc v c l hc h hE hL).mono ?_
      rintro _ w' ⟨rfl, T⟩
      exact ⟨_, by rw [e1], by rw [renewR, if_neg (by omega)]; exact ms_empty _, fun q => by omega, T⟩
  · have e1 : renewE c l = soundE c := by rw [renewE, if_pos hE]
    refine (renew11_bad w vc v c l hc h hE).mono ?_
    rintro _ w' ⟨rfl, T⟩
    exact ⟨_, by rw [e1], by rw [renewR, if_neg (by omega)]; exact ms_empty _, fun q => by omega, T⟩
theorem rrenew21_any (w : World) (vc v : Value) (c l : List Mb) (hc : Ms w vc c) (h : Ms w v l) (hb : l.length * 24 ≤ 140737488351232) : Calls Try.prog 21 #[.agg #[vc], v] w fun e w' => ∃ u, e = .returned (.tuple #[.agg #[u], .int .i64 (renewE c l)]) ∧ Ms w' u (renewR c l) ∧ Turn no w w' := by
  by_cases hE : soundE c = 0
  · have e1 : renewE c l = weighE l := by rw [renewE, if_neg (by omega)]
    by_cases hL : weighE l = 0
    · refine (rrenew21_yes w vc v c l hc h hE hL).mono ?_
      rintro _ w' ⟨u, rfl, M, T⟩
      have e2 : renewR c l = renewL c l := by rw [renewR, if_pos (by omega)]
      rw [e2]
      exact ⟨u, by rw [e1, hL], M.ms, T⟩
    · refine (rrenew21_list w vc v c l hc h hb hE hL).mono ?_
      rintro _ w' ⟨rfl, T⟩
      exact ⟨_, by rw [e1], by rw [renewR, if_neg (by omega)]; exact ms_empty _, T⟩
  · have e1 : renewE c l = soundE c := by rw [renewE, if_pos hE]
    refine (rrenew21_bad w vc v c l hc h hE).mono ?_
    rintro _ w' ⟨rfl, T⟩
    exact ⟨_, by rw [e1], by rw [renewR, if_neg (by omega)]; exact ms_empty _, T⟩

theorem Ms.late {S : Nat → Prop} {w w' : World} {v : Value} {l : List Mb} (h : Ms w v l) (t : Turn S w w') (hn : l ≠ [] → ∀ g, v.ownBlock = some g → ¬ S g) : Ms w' v l := by
  obtain ⟨a, cap, e, M⟩ := h
  by_cases hl : l = []
  · subst hl
    exact ⟨a, cap, e, M.le, M.cap, M.ok, fun j m hm => by simp at hm⟩
  · exact ⟨a, cap, e, M.turn t (fun x hx => hn hl x.block (by rw [e, hx]; rfl))⟩
theorem Bx.put {w : World} {g : Nat} {u : Value} (h : Bx w g u) (x : Value) : Bx (w.setCell ⟨g, 0, none⟩ x) g x := ⟨h.set x, by rw [World.frozen?_setCell]; exact h.f⟩

set_option maxRecDepth 100000 in
set_option maxHeartbeats 2000000 in
theorem renews_any (w : World) (vc v : Value) (c l : List Mb) (hc : Ms w vc c) (h : Ms w v l) (hbc : c.length * 24 ≤ 140737488351232) (hb : l.length * 24 ≤ 140737488351232) : Calls Try.prog 6 #[.agg #[vc], v] w fun e w' => e = .returned (.bool true) ∧ Turn no w w' := by
  have T0 : Turn no w (w.alloc (.cells #[vc] 26)) := (Turn.refl no w).alloc _
  have B0 := Bx.new w vc 26
  have h0 := h.turn_no T0
  have hc0 := hc.turn_no T0
  have c1 := alive9 (w.alloc (.cells #[vc] 26))
  obtain ⟨va, vcap, ev⟩ := h.shape
  obtain ⟨ca, ccap, ec⟩ := hc.shape
  obtain ⟨n, hn⟩ : ∃ n, Hid (l.length = n) := ⟨_, rfl⟩
  have hn' : l.length = n := hn.out
  obtain ⟨nc, hnc⟩ : ∃ nc, Hid (c.length = nc) := ⟨_, rfl⟩
  have hnc' : c.length = nc := hnc.out
  rw [hn'] at ev
  rw [hnc'] at ec
  subst ev
  subst ec
  clear h hc
  obtain ⟨tE, htE⟩ : ∃ tE, Hid (renewE c l = tE) := ⟨_, rfl⟩
  obtain ⟨tR, htR⟩ : ∃ tR, Hid (renewR c l = tR) := ⟨_, rfl⟩
  obtain ⟨ul, hul⟩ : ∃ ul, Hid (tR.length = ul) := ⟨_, rfl⟩
  go_enter Try.func6, Try.ntmps6
  go_wp2_with fail
  refine c1.mono ?_
  rintro e w1 ⟨rfl, t⟩
  have B1 := B0.turn_no t
  have h1 := h0.turn_no t
  have hc1 := hc0.turn_no t
  have T := T0.then_no t
  have k1 := B1.c
  have c2 := roomy14 w1 _ c hc1 hbc
  rw [hnc'] at c2
  clear h0 hc0 B0 T0 t c1
  go_wp2_with fail
  refine c2.mono ?_
  rintro e w2 ⟨g, cap, rfl, R, hg, t⟩
  have B1 := B1.turn_no t
  have h1 := h1.turn_no t
  have hc1 := hc1.turn_no t
  have T := T.then_no t
  have c3 := roomy14 w2 _ l h1 hb
  rw [hn'] at c3
  clear t c2 k1 hg
  go_wp2_with fail
  refine c3.mono ?_
  rintro e w3 ⟨g2, cap2, rfl, R2, hg2, t⟩
  have B1 := B1.turn_no t
  have h1 := h1.turn_no t
  have hc1 := hc1.turn_no t
  have T := T.then_no t
  have R := R.turn_no t
  have hle := R.le
  have hmo := R.most
  simp only [maxLen] at hmo
  rw [List.length_append, show mark.length = 2 from rfl, hnc'] at hle
  have hle2 := R2.le
  have hmo2 := R2.most
  simp only [maxLen] at hmo2
  rw [List.length_append, show mark.length = 2 from rfl, hn'] at hle2
  have F := R.front
  have F2 := R2.front
  rw [hnc'] at F
  rw [hn'] at F2
  have k1 := B1.c
  have cR := fun W (hT : Turn no w3 W) => renew11_any W _ _ c l (F.turn_no hT) (F2.turn_no hT)
  rw [show renewE c l = tE from htE.out, show renewR c l = tR from htR.out] at cR
  clear t c3 hg2 hn' hnc' F F2
  go_wp2_with fail
  refine wp_region_held_drew (S := fun W => Turn no w3 W) (by kernel_rfl) (Turn.refl _ w3).drew (fun hHeld => ?_)
  refine' wpAnyH_take (i := 0) (v := .slice (some ⟨g, 0, none⟩) (nc + 2) cap) rfl (by kernel_rfl) (by kernel_rfl) (by kernel_rfl) (fun _ _ _ h => h) (Or.inl ⟨by kernel_rfl, fun W hW => ?y1⟩) hHeld ?r1
  · go_simp
  refine' wpAnyH_take (i := 1) (v := .pointer (some ⟨w.heap.size, 0, none⟩)) rfl (by kernel_rfl) (by kernel_rfl) (by kernel_rfl) (fun _ _ _ h => h) (Or.inl ⟨by kernel_rfl, fun W hW => ?y2⟩) hHeld ?r2
  · go_simp
  refine' wpAnyH_take (i := 2) (v := .slice ca nc ccap) rfl (by kernel_rfl) (by kernel_rfl) (by kernel_rfl) (fun _ _ _ h => h) (Or.inl ⟨by kernel_rfl, fun W hW => ?y3⟩) hHeld ?r3
  · have c := hW.keep k1 (fun q => q)
    go_simp
  refine' wpAnyH_take (i := 3) (v := .int .i64 nc) rfl (by kernel_rfl) (by kernel_rfl) (by kernel_rfl) (fun _ _ _ h => h) (Or.inl ⟨by kernel_rfl, fun W hW => ?y4⟩) hHeld ?r4
  · go_simp
  refine' wpAnyH_take (i := 4) (v := .slice (some ⟨g, 0, none⟩) nc cap) rfl (by kernel_rfl) (by kernel_rfl) (by kernel_rfl) (fun _ _ _ h => h) (Or.inl ⟨by kernel_rfl, fun W hW => ?y5⟩) hHeld ?r5
  · go_simp
    intro q
    omega
  refine' wpAnyH_take (i := 5) (v := .agg #[.slice (some ⟨g, 0, none⟩) nc cap]) rfl (by kernel_rfl) (by kernel_rfl) (by kernel_rfl) (fun _ _ _ h => h) (Or.inl ⟨by kernel_rfl, fun W hW => ?y6⟩) hHeld ?r6
  · go_simp
  refine' wpAnyH_take (i := 6) (v := .slice (some ⟨g2, 0, none⟩) (n + 2) cap2) rfl (by kernel_rfl) (by kernel_rfl) (by kernel_rfl) (fun _ _ _ h => h) (Or.inl ⟨by kernel_rfl, fun W hW => ?y7⟩) hHeld ?r7
  · go_simp
  refine' wpAnyH_take (i := 7) (v := .slice va n vcap) rfl (by kernel_rfl) (by kernel_rfl) (by kernel_rfl) (fun _ _ _ h => h) (Or.inl ⟨by kernel_rfl, fun W hW => ?y8⟩) hHeld ?r8
  · go_simp
  refine' wpAnyH_take (i := 8) (v := .int .i64 n) rfl (by kernel_rfl) (by kernel_rfl) (by kernel_rfl) (fun _ _ _ h => h) (Or.inl ⟨by kernel_rfl, fun W hW => ?y9⟩) hHeld ?r9
  · go_simp
  refine' wpAnyH_take (i := 9) (v := .slice (some ⟨g2, 0, none⟩) n cap2) rfl (by kernel_rfl) (by kernel_rfl) (by kernel_rfl) (fun _ _ _ h => h) (Or.inl ⟨by kernel_rfl, fun W hW => ?y10⟩) hHeld ?r10
  · go_simp
    intro q
    omega
  refine wpAnyH_ready (rs := [10, 14]) (by kernel_rfl) (by simp) ?_
  refine AllReadyH.cons rfl (fun K hK => ?_) (AllReadyH.cons rfl (fun K hK => ?_) AllReadyH.nil)
  · go_simp
    refine (cR _ hHeld).mono ?_
    rintro e w4 ⟨u, rfl, M, _, t⟩
    have t := hHeld.then_no t
    obtain ⟨ua, uc, eu⟩ := M.shape
    rw [show tR.length = ul from hul.out] at eu
    subst eu
    go_wp2_with fail
    refine hK.out _ _ t (fun hHeld => ?_)
    clear hK
    refine' wpAnyH_take (i := 11) (v := .tuple #[.agg #[.slice ua ul uc], .int .i64 tE]) rfl (by kernel_rfl) (by kernel_rfl) (by kernel_rfl) (fun _ _ _ h => h) (Or.inl ⟨by kernel_rfl, fun W hW => ?y11⟩) hHeld ?r11
    · go_simp
    refine' wpAnyH_take (i := 12) (v := .agg #[.slice ua ul uc]) rfl (by kernel_rfl) (by kernel_rfl) (by kernel_rfl) (fun _ _ _ h => h) (Or.inl ⟨by kernel_rfl, fun W hW => ?y12⟩) hHeld ?r12
    · go_simp
    refine' wpAnyH_take (i := 13) (v := .int .i64 tE) rfl (by kernel_rfl) (by kernel_rfl) (by kernel_rfl) (fun _ _ _ h => h) (Or.inl ⟨by kernel_rfl, fun W hW => ?y13⟩) hHeld ?r13
    · go_simp
    refine wpAnyH_ready (rs := [14]) (by kernel_rfl) (by simp) ?_
    refine AllReadyH.cons rfl (fun K hK => ?_) AllReadyH.nil
    go_simp
    have TA : Turn no w4 (w4.alloc (.cells #[.slice none 0 0] 26)) := (Turn.refl no w4).alloc _
    refine hK.out _ _ (t.then_no TA) (fun hHeld => ?_)
    clear hK
    refine wpAnyH_ready (rs := [15]) (by kernel_rfl) (by simp) ?_
    refine AllReadyH.cons rfl (fun K hK => ?_) AllReadyH.nil
    go_simp
    have TB : Turn no w4 (w4.alloc (.cells #[.slice ua ul uc] 26)) := (Turn.refl no w4).alloc _
    have BX := Bx.new w4 (.slice ua ul uc) 26
    have M := M.turn_no TB
    have t := t.then_no TB
    refine hK.out _ _ t (fun hHeld => ?_)
    clear hK
    refine wpAnyH_ready (rs := [16]) (by kernel_rfl) (by simp) ?_
    refine AllReadyH.cons rfl (fun K hK => ?_) AllReadyH.nil
    go_simp
    refine hK.out _ _ t (fun hHeld => ?_)
    clear hK
    refine wpAnyH_done (by kernel_rfl) ?_ _
    obtain ⟨p, hp⟩ : ∃ p, Hid (w4.heap.size = p) := ⟨_, rfl⟩
    rw [show w4.heap.size = p from hp.out] at BX ⊢
    clear hHeld TA TB hp
    generalize w4.alloc (.cells #[.slice ua ul uc] 26) = w5 at *
    have B1 := B1.turn_no t
    have h1 := h1.turn_no t
    have hc1 := hc1.turn_no t
    have T := T.then_no t
    have R := R.turn_no t
    have R2 := R2.turn_no t
    have k2 := B1.c
    have c3 := rrenew21_any w5 _ _ c l hc1 h1 hb
    rw [show renewE c l = tE from htE.out, show renewR c l = tR from htR.out] at c3
    clear t k1 cR
    go_wp2_with fail
    refine c3.mono ?_
    rintro e w6 ⟨x, rfl, X, t⟩
    have TC : Turn no w6 (w6.alloc (.cells #[x] 26)) := (Turn.refl no w6).alloc _
    have BC := Bx.new w6 x 26
    have t2 := t.then_no TC
    have R := R.turn_no t2
    have R2 := R2.turn_no t2
    have B1 := B1.turn_no t2
    have h1 := h1.turn_no t2
    have hc1 := hc1.turn_no t2
    have T := T.then_no t2
    have M := M.turn_no t2
    have BX := BX.turn_no t2
    have X := X.turn_no TC
    have k4 := BX.c
    have k5 := BC.c
    have c5 := same13 _ _ _ tR M X
    obtain ⟨xa, xc, ex⟩ := X.shape
    rw [show tR.length = ul from hul.out] at ex
    subst ex
    clear t t2 TC k2 c3
    go_wp2_with fail
    generalize w6.alloc (.cells #[.slice xa ul xc] 26) = w8 at *
    refine c5.mono ?_
    rintro e w9 ⟨rfl, t⟩
    have R := R.turn_no t
    have R2 := R2.turn_no t
    have B1 := B1.turn_no t
    have h1 := h1.turn_no t
    have hc1 := hc1.turn_no t
    have T := T.then_no t
    have k6 := B1.c
    have c6 := kept17 _ _ c g cap R hc1
    rw [show c.length = nc from hnc.out] at c6
    clear t k4 k5 c5
    go_wp2_with fail
    refine c6.mono ?_
    rintro e w10 ⟨rfl, t⟩
    have R2 := R2.turn_no t
    have h1 := h1.turn_no t
    have T := T.then_no t
    have c7 := kept17 _ _ l g2 cap2 R2 h1
    rw [show l.length = n from hn.out] at c7
    clear t k6 c6
    go_wp2_with fail
    refine c7.mono ?_
    rintro e w11 ⟨rfl, t⟩
    have T := T.then_no t
    go_wp2_with fail
    go_ret
    exact ⟨rfl, T⟩
  · go_simp
    have TA : Turn no w3 (w3.alloc (.cells #[.slice none 0 0] 26)).drew := ((Turn.refl no w3).alloc _).drew
    have BX : Bx (w3.alloc (.cells #[.slice none 0 0] 26)).drew w3.heap.size (.slice none 0 0) := (Bx.new w3 (.slice none 0 0) 26).turn_no (Turn.refl no _).drew
    refine hK.out _ _ TA (fun hHeld => ?_)
    clear hK
    refine wpAnyH_ready (rs := [10]) (by kernel_rfl) (by simp) ?_
    refine AllReadyH.cons rfl (fun K hK => ?_) AllReadyH.nil
    go_simp
    refine (cR _ hHeld).mono ?_
    rintro e w4 ⟨u, rfl, M, MD, t⟩
    have BX := BX.turn_no t
    have t := hHeld.then_no t
    obtain ⟨ua, uc, eu⟩ := M.shape
    rw [show tR.length = ul from hul.out] at eu
    subst eu
    go_wp2_with fail
    refine hK.out _ _ t (fun hHeld => ?_)
    clear hK
    refine' wpAnyH_take (i := 11) (v := .tuple #[.agg #[.slice ua ul uc], .int .i64 tE]) rfl (by kernel_rfl) (by kernel_rfl) (by kernel_rfl) (fun _ _ _ h => h) (Or.inl ⟨by kernel_rfl, fun W hW => ?y14⟩) hHeld ?r14
    · go_simp
    refine' wpAnyH_take (i := 12) (v := .agg #[.slice ua ul uc]) rfl (by kernel_rfl) (by kernel_rfl) (by kernel_rfl) (fun _ _ _ h => h) (Or.inl ⟨by kernel_rfl, fun W hW => ?y15⟩) hHeld ?r15
    · go_simp
    refine' wpAnyH_take (i := 13) (v := .int .i64 tE) rfl (by kernel_rfl) (by kernel_rfl) (by kernel_rfl) (fun _ _ _ h => h) (Or.inl ⟨by kernel_rfl, fun W hW => ?y16⟩) hHeld ?r16
    · go_simp
    refine wpAnyH_ready (rs := [15]) (by kernel_rfl) (by simp) ?_
    refine AllReadyH.cons rfl (fun K hK => ?_) AllReadyH.nil
    have x4 := BX.c
    have f4 := BX.f
    go_simp
    have TS : Turn no w3 (w4.setCell ⟨w3.heap.size, 0, none⟩ (.slice ua ul uc)) := t.set0 (Nat.le_refl _) _
    have TS2 := (Turn.refl (fun b => b = w3.heap.size) w4).setCell (p := ⟨w3.heap.size, 0, none⟩) (fun _ => rfl) (.slice ua ul uc)
    refine hK.out _ _ TS (fun hHeld => ?_)
    clear hK
    refine wpAnyH_ready (rs := [16]) (by kernel_rfl) (by simp) ?_
    refine AllReadyH.cons rfl (fun K hK => ?_) AllReadyH.nil
    go_simp
    refine hK.out _ _ TS (fun hHeld => ?_)
    clear hK
    refine wpAnyH_done (by kernel_rfl) ?_ _
    have BX : Bx (w4.setCell ⟨w3.heap.size, 0, none⟩ (.slice ua ul uc)) w3.heap.size (.slice ua ul uc) := BX.put _
    have M : Ms (w4.setCell ⟨w3.heap.size, 0, none⟩ (.slice ua ul uc)) (.slice ua ul uc) tR := M.late TS2 (fun hne g hg q => by
      by_cases hz : tE = 0
      · obtain ⟨g', cap', e', _, ho⟩ := MD hz
        rw [e'] at hg
        cases hg
        have h1 : w3.heap.size + 1 ≤ g' := by simpa using ho
        have h2 : g' = w3.heap.size := q
        omega
      · exact hne (by rw [← htR.out, renewR, if_neg (by rw [htE.out]; exact hz)]))
    have t := TS
    obtain ⟨p, hp⟩ : ∃ p, Hid (w3.heap.size = p) := ⟨_, rfl⟩
    rw [show w3.heap.size = p from hp.out] at BX M t ⊢
    clear hHeld TA TS TS2 hp x4 f4
    generalize w4.setCell ⟨p, 0, none⟩ (.slice ua ul uc) = w5 at *
    have B1 := B1.turn_no t
    have h1 := h1.turn_no t
    have hc1 := hc1.turn_no t
    have T := T.then_no t
    have R := R.turn_no t
    have R2 := R2.turn_no t
    have k2 := B1.c
    have c3 := rrenew21_any w5 _ _ c l hc1 h1 hb
    rw [show renewE c l = tE from htE.out, show renewR c l = tR from htR.out] at c3
    clear t k1 cR
    go_wp2_with fail
    refine c3.mono ?_
    rintro e w6 ⟨x, rfl, X, t⟩
    have TC : Turn no w6 (w6.alloc (.cells #[x] 26)) := (Turn.refl no w6).alloc _
    have BC := Bx.new w6 x 26
    have t2 := t.then_no TC
    have R := R.turn_no t2
    have R2 := R2.turn_no t2
    have B1 := B1.turn_no t2
    have h1 := h1.turn_no t2
    have hc1 := hc1.turn_no t2
    have T := T.then_no t2
    have M := M.turn_no t2
    have BX := BX.turn_no t2
    have X := X.turn_no TC
    have k4 := BX.c
    have k5 := BC.c
    have c5 := same13 _ _ _ tR M X
    obtain ⟨xa, xc, ex⟩ := X.shape
    rw [show tR.length = ul from hul.out] at ex
    subst ex
    clear t t2 TC k2 c3
    go_wp2_with fail
    generalize w6.alloc (.cells #[.slice xa ul xc] 26) = w8 at *
    refine c5.mono ?_
    rintro e w9 ⟨rfl, t⟩
    have R := R.turn_no t
    have R2 := R2.turn_no t
    have B1 := B1.turn_no t
    have h1 := h1.turn_no t
    have hc1 := hc1.turn_no t
    have T := T.then_no t
    have k6 := B1.c
    have c6 := kept17 _ _ c g cap R hc1
    rw [show c.length = nc from hnc.out] at c6
    clear t k4 k5 c5
    go_wp2_with fail
    refine c6.mono ?_
    rintro e w10 ⟨rfl, t⟩
    have R2 := R2.turn_no t
    have h1 := h1.turn_no t
    have T := T.then_no t
    have c7 := kept17 _ _ l g2 cap2 R2 h1
    rw [show l.length = n from hn.out] at c7
    clear t k6 c6
    go_wp2_with fail
    refine c7.mono ?_
    rintro e w11 ⟨rfl, t⟩
    have T := T.then_no t
    go_wp2_with fail
    go_ret
    exact ⟨rfl, T⟩

/-- How long a council's list may be, of what was read. -/
theorem co_sized {H : Type} {ts : List TypeId} {ds : List (DataW H)} (hsz : (DataW.weightsEach Try.prog ts ds).all (· ≤ reachBytes) = true) {j : Nat} {d : DataW H} (ht : ts[j]? = some 26) (hd : ds[j]? = some d) {l : List Mb}
    (hw : l = [] ∨ ∃ es sp, d = .agg [.slice es sp] ∧ l.length ≤ es.length) : l.length * 24 ≤ 140737488351232 := by
  rcases hw with rfl | ⟨es, sp, rfl, hl⟩
  · simp
  · have := List.all_eq_true.1 hsz _ (DataW.weights_mem_each ht hd ((es.length + sp.length) * Try.prog.bytesOf 55) (by simp [DataW.weights, Try.underlying26, DataW.weightsEach, Try.underlying22]))
    rw [bytes44] at this
    have h2 : (es.length + sp.length) * 24 ≤ 140737488351232 := by
      have := of_decide_eq_true this
      exact this
    omega
theorem ms_sized {H : Type} {ts : List TypeId} {ds : List (DataW H)} (hsz : (DataW.weightsEach Try.prog ts ds).all (· ≤ reachBytes) = true) {j : Nat} {d : DataW H} (ht : ts[j]? = some 22) (hd : ds[j]? = some d) {l : List Mb}
    (hw : l = [] ∨ ∃ es sp, d = .slice es sp ∧ l.length ≤ es.length) : l.length * 24 ≤ 140737488351232 := by
  rcases hw with rfl | ⟨es, sp, rfl, hl⟩
  · simp
  · have := sized_slice hsz (j := j) (t := 22) (e := 55) (elems := es) (spare := sp) ht hd Try.underlying22
    rw [bytes44] at this
    have h2 : (es.length + sp.length) * 24 ≤ 140737488351232 := this
    omega

set_option maxRecDepth 100000 in
theorem renews_lifted (os : Os) (started : os.Started) (H : Type) (enc : TypeId × Value → H) :
    ReturnsInHanded {} Try.checked os 6 .any (Rows.councilRenewsSpec.pre6 enc Try.prog Try.f6 Rows.councilRenewsRow.domain false) (Rows.councilRenewsSpec.post enc Try.prog Try.f6 false true false false) := by
  refine returnsInHanded_of_change_sized (C := Try.checked) own started (by kernel_rfl) Try.func6
    (ChangeSpec.witness6 (enc := enc) (C := Try.checked) false ⟨#[], #[.agg #[.slice none 0 0], .slice none 0 0], []⟩ 8 (by kernel_rfl) (by kernel_rfl) (by kernel_rfl) (by kernel_rfl)) ?_
  intro W base args ds gs before hval0 hW hcnd hsz _
  have hval : ∀ (j : Nat) t v, Try.f6.params[j]? = some t → args[j]? = some v → Value.okWide Try.prog W .any base t v := hval0
  have hW' := hW
  obtain ⟨p, q, hA0, hV, rfl, hfz, hnd⟩ := hW
  have hA : DataW.TrodAll enc Try.prog W 0 (fun _ => true) true Try.f6.params.toList args.toList ds p := hA0
  rw [Try.params6] at hA hval hsz
  obtain ⟨v0, v1, d0, d1, p0, p1, rfl, rfl, rfl, h0, h1⟩ := trodAll_two hA
  obtain ⟨rfl, rfl⟩ := trodVars_none hV
  have k0 := h0
  have k1 := h1
  have lt0 : ∀ x ∈ p0, x.block < W.heap.size := by obtain ⟨m, hm⟩ := k0; exact DataW.trod_lt m _ _ _ hm
  have lt1 : ∀ x ∈ p1, x.block < W.heap.size := by obtain ⟨m, hm⟩ := k1; exact DataW.trod_lt m _ _ _ hm
  obtain ⟨cs, rfl, _, _⟩ : ∃ cs, v0 = .agg cs ∧ cs.size = Try.prog.cellsOf 26 ∧ Row.okWide Try.prog W .any base 26 cs := by
    have := hval 0 26 v0 rfl rfl
    simpa [Value.okWide, Try.underlying26] using this
  obtain ⟨a1, l1, c1, rfl⟩ := okWide_slice Try.underlying22 (hval 1 22 v1 rfl rfl)
  obtain ⟨m0, t0⟩ := h0
  obtain ⟨m1, t1⟩ := h1
  obtain ⟨v, c, hcs, M, hw⟩ := open_co (L := cs.toList) t0
  obtain ⟨l, M1, hw1⟩ := open_ms (v := .slice a1 l1 c1) t1
  have hle := co_sized hsz (j := 0) rfl rfl hw
  have hle1 := ms_sized hsz (j := 1) rfl rfl hw1
  have hc : cs = #[v] := by
    apply Array.ext'
    simpa using hcs
  subst hc
  clear hA0 hval0
  refine (renews_any W _ _ c l M M1 hle hle1).mono fun e W' ⟨he, tt⟩ => ?_
  subst he
  have bel := tt.below
  exact ⟨_, rfl, _, _, _, [], _, [], hW', trodAll_mk1 (shut_bool Try.underlying4 _), (trodAll_mk2 (Below.trod laidOut (by kernel_rfl) (of_decide_eq_true (by kernel_rfl)) k0 bel lt0) (Below.trod laidOut (by kernel_rfl) (of_decide_eq_true (by kernel_rfl)) k1 bel lt1)), rfl, bel.frame _, fun h => by cases h⟩

theorem renews_holds : Rows.CouncilRenewsSaid :=
  OpenClaim.holds_of_wide 6 Try.f6 rfl rfl rfl rfl rfl rfl rfl ⟨rfl, rfl, rfl, rfl, rfl⟩ rfl rfl rfl rfl rfl (by kernel_rfl) Try.func6 (by kernel_rfl)
    (of_decide_eq_true (by kernel_rfl)) (by unfold Func.isWrapper; first | (rw [if_pos (by decide +kernel)]; kernel_rfl) | (rw [if_neg (by decide +kernel)]; exact ⟨rfl, rfl⟩))
    (fun os started H enc _ => renews_lifted os started H enc)
#print axioms renews_holds
end Go.Proofs.Ytcmoocoklhjkfab
