/- BlamePowers: the walk. -/
import Derived.Test.YtmfphlagpifkaaaG6
namespace Go.Proofs.Ytmfphlagpifkaaa
open Go.RowKit
set_option linter.unusedVariables false

theorem Ms.of_at {w : World} {a : Option Addr} {cap : Nat} {l r : List Mb} (h : MsAt w a cap (l ++ r)) : Ms w (.slice a l.length cap) l :=
  ⟨a, cap, rfl, by have := h.le; rw [List.length_append] at this; omega, h.cap, fun m hm => h.ok m (by simp [hm]), fun j m hj => h.cells j m (by rw [List.getElem?_append_left (List.getElem?_eq_some_iff.1 hj).1]; exact hj)⟩
theorem bld35 (w : World) (v : Value) : (Instr.build 35 #[(2, .agg #[v])]).run Try.prog w = .ok (.agg (caseL v).toArray) w := by kernel_rfl
theorem case_size (v : Value) : (caseL v).toArray.size = 75 := by kernel_rfl
theorem case_one (v : Value) (h : v.oneCell' = true) : (caseL v).toArray.all (·.oneCell') = true := by
  have e : (caseL v).toArray = zC.setIfInBounds 2 v := by kernel_rfl
  rw [e]
  exact set_one (by kernel_rfl) h
theorem case2 (v : Value) : (caseL v).toArray[2]? = some v := by kernel_rfl
theorem case37 (v : Value) : (caseL v).toArray[37]? = some (.slice none 0 0) := by kernel_rfl
theorem case72 (v : Value) : (caseL v).toArray[72]? = some (.slice none 0 0) := by kernel_rfl
theorem case73 (v : Value) : (caseL v).toArray[73]? = some (.slice none 0 0) := by kernel_rfl
theorem gu71_one : ∀ u ∈ gu71.cs.toArray.toList, u.oneCell' = true := by
  rw [List.toList_toArray]
  exact gu71.one
theorem wpList_bslice1 {P : Program} {ops : Array Oper} {rest : List Oper} {op : Oper} {a : Act} {w : World} {Q : Exit → Act → World → Prop} (hgd : Region.wanted op (yielded ops a.tmps) = true) (t : TypeId) (x : Operand) (ho : op.op = .buildSlice t 1 #[(0, x)]) (v : Value) (hx : a.eval x = v) (r : Value) (w' : World) (hr : (Instr.buildSlice t 1 #[(0, v)]).run P w = .ok r w') (h : wpList P ops Q rest (a.put op.dst r) w') : wpList P ops Q (op :: rest) a w :=
  wpList_want hgd fun K hK => by
    unfold Oper.wp execOp
    simp only [ho, hx, Sem.run_bind, List.map_toArray, List.map_cons, List.map_nil, hr, Result.andThen_ok, Sem.run_pure]
    exact hK _ _ h
theorem bsl25 (w : World) : (Instr.buildSlice 25 1 #[(0, .agg gu71.cs.toArray)]).run Try.prog w = .ok (.slice (some ⟨w.heap.size, 0, none⟩) 1 1) (w.alloc (.cells gu71.cs.toArray 43)) := by kernel_rfl
set_option maxRecDepth 100000 in
set_option maxHeartbeats 80000000 in
theorem powers3 (w : World) (v : Value) (M : List Mb) (hM : Ms w v M) (hbM : M.length * 24 ≤ 140737488351232) (u : Value) (l : List Gu) (hG : Gs w u l) (hbG : l.length * 192 ≤ 140737488351232) :
    Calls Try.prog 3 #[.agg #[v], u] w fun e w' => e = .returned (.bool true) ∧ Turn no w w' := by
  have HMs := shut hM
  have HGs := shut hG
  obtain ⟨a, cp, rfl, hMA⟩ := hM
  obtain ⟨a2, cp2, rfl, hGA⟩ := hG
  have T0 : Turn no w (w.alloc (.cells #[.slice a M.length cp] 24)) := (Turn.refl no w).alloc _
  have R0 := Row.new w #[.slice a M.length cp] 24
  obtain ⟨w0, hw0⟩ : ∃ w0, w.alloc (.cells #[.slice a M.length cp] 24) = w0 := ⟨_, rfl⟩
  rw [hw0] at T0 R0
  have hcp := copied4 w0 (caseL (.slice a M.length cp)).toArray (case_size _) a cp M (case2 _) (case37 _) (case72 _) (case73 _) (case_one _ rfl) (hMA.turn_no T0) hbM
  have HMA := shut hMA
  have HGA := shut hGA
  have HT0 := shut T0
  have HR0 := shut R0
  have HBG := shut hbG
  have hb35 := bld35 w0 (.slice a M.length cp)
  have HX2 := shut (case2 (.slice a M.length cp))
  have HX37 := shut (case37 (.slice a M.length cp))
  have HX72 := shut (case72 (.slice a M.length cp))
  have HX73 := shut (case73 (.slice a M.length cp))
  have HXS := shut (case_size (.slice a M.length cp))
  have HB35 := shut (fun W => bld35 W (.slice a M.length cp))
  have HX1 := shut (case_one (.slice a M.length cp) rfl)
  clear hMA hGA T0 hbM hbG
  have b0 := R0.cell 0 _ rfl
  clear R0
  generalize (caseL (.slice a M.length cp)).toArray = X at *
  obtain ⟨n, hn⟩ : ∃ n, M.length = n := ⟨_, rfl⟩
  obtain ⟨p, hp⟩ : ∃ p, l.length = p := ⟨_, rfl⟩
  rw [hn] at hw0 hcp HR0 hb35 HX2 HB35 b0 ⊢
  rw [hp] at HBG ⊢
  have HN := shut hn
  have HP := shut hp
  clear hn hp
  obtain ⟨ZC, hZC, hzv⟩ : ∃ ZC : Array Value, ZC.size = 75 ∧ ∀ W, (zeroValue 35).run Try.prog W = .ok (.agg ZC) W := ⟨zC, zero35, zero35v⟩
  go_enter Try.func3, Try.ntmps3
  go_upto_region 1 with fail
  try rw [hw0]
  clear hw0
  go_upto_region 2 with (first
    | (guard_target =~ wpList _ _ _ ({ dst := _, op := Op.build 35 _, .. } :: _) _ _; refine wpList_build1G (by kernel_rfl) 35 2 _ rfl _ rfl _ hb35 ?_; clear hb35)
    | (go_at_call 4; refine hcp.mono ?_; clear hcp; rintro e w1 ⟨g, c, ga, ca, gb, cb, gv, cv, rfl, hM1, hA1, hB1, hV1, t1⟩; obtain ⟨C, hC⟩ : ∃ C, ((((X.setIfInBounds 2 (.slice (some ⟨g, 0, none⟩) n c)).setIfInBounds 37 (.slice (some ⟨ga, 0, none⟩) 0 ca)).setIfInBounds 72 (.slice (some ⟨gb, 0, none⟩) 0 cb)).setIfInBounds 73 (.slice (some ⟨gv, 0, none⟩) 0 cv)) = C := ⟨_, rfl⟩; rw [hC]; have hCs : C.size = 75 := by { rw [← hC]; simp only [Array.size_setIfInBounds]; exact HXS.out }; have hC1 : C.all (·.oneCell') = true := by { rw [← hC]; exact set_one (set_one (set_one (set_one HX1.out rfl) rfl) rfl) rfl }; have hi : (Try.prog.info? 35).map (·.size) = some C.size := by { rw [hCs]; exact size35 }; have hold : ZC.size = C.size := by { rw [hCs]; exact hZC }; have HC := shut hC; clear hC hCs)
    | (guard_target =~ wpList _ _ _ ({ dst := _, op := Op.store 35 _ _, .. } :: _) _ _; refine wpList_store_anyN rfl rfl 35 (.tmp 5) (.tmp 12) rfl w1.heap.size C rfl rfl 35 ZC (Row.new w1 ZC 35) hi hold hC1 ?_; intro w2 R2 t2))
  have T12 : Turn (fun k => k = w1.heap.size) w1 w2 := ((Turn.refl no w1).alloc _).of_no.trans t2 (fun _ _ e => e)
  have T02 : Turn no w0 w2 := t1.trans T12 (fun i hi e => by have := t1.size; omega)
  have TW2 : Turn no w w2 := HT0.out.then_no T02
  have lt1 : ∀ (b o : Nat) (z : Value), w1.cell? ⟨b, o, none⟩ = some z → ¬ b = w1.heap.size := fun b o z h e => by
    have : (Addr.mk b o none).block < w1.heap.size := World.block_lt_of_cell? w1 _ h
    exact absurd e (Nat.ne_of_lt this)
  have hM2 := hM1.turn T12 (fun x q => by
    cases q
    obtain ⟨b, off, e1, c0, _⟩ := hM1.cells M.length mb71 (by rw [List.getElem?_append_right (by omega)]; simp)
    cases e1
    exact lt1 _ _ _ c0)
  have hA2 := hA1.turn T12 (lt1 _ _ _ (hA1.at0 0 (.int .i64 (-71)) rfl))
  have hB2 := hB1.turn T12 (lt1 _ _ _ (hB1.at0 0 (.int .i64 (-71)) rfl))
  have hV2 := hV1.turn T12 (lt1 _ _ _ (hV1.at0 0 (.int .i64 0) rfl))
  have hbb : (p + 1) * 192 ≤ 140737488355328 := by have := HBG.out; omega
  have hpm : p + 1 ≤ maxLen := by have := HBG.out; simp only [maxLen]; omega
  have TA : Turn no w2 (w2.alloc (.cells #[] 43)) := (Turn.refl no w2).alloc _
  have hS : Src Try.prog 108 25 (.slice a2 p cp2) p (guF l) (w2.alloc (.cells #[] 43)) := by
    have := (HGA.out.turn_no (TW2.then_no TA)).src
    rw [HP.out] at this
    exact this
  obtain ⟨v1, w3, r1, O1, f1, T3, _, a1, c1, rfl⟩ := app_first Try.underlying25 info43 rfl (by decide) TA (own_empty w2 43 108) (fun g q => by cases q; exact Nat.le_refl _) hS hbb hpm
  have TX : Turn no w3 (w3.alloc (.cells gu71.cs.toArray 43)) := (Turn.refl no w3).alloc _
  obtain ⟨v2, w4, r2, O2, T4, g2, c2, rfl, hc2, hg2⟩ := app_second Try.underlying25 info43 rfl (by decide) (T3.then_no TX) (O1.turn_no TX) f1 (Row.new w3 gu71.cs.toArray 43) (Gu.size gu71_ok) gu71_one hbb hpm
  have O2' : OwnN w4 43 108 (.slice (some ⟨g2, 0, none⟩) (p + 1) c2) (p + 1) (guF (l ++ [gu71])) := by
    have e : guF (l ++ [gu71]) = guF l ++ gu71.cs.toArray.toList := by rw [guF_append]; simp [guF]
    rw [e]
    exact O2
  obtain ⟨g5, c5, e5, hG4⟩ := O2'.gsAt (by simp [HP.out]) (by omega) (fun m hm => (List.mem_append.1 hm).elim (HGA.out.ok m) (fun q => by rw [List.mem_singleton.1 q]; exact gu71_ok))
  cases e5
  have HW : Shut (∀ W, Turn no w4 W → Row W w.heap.size #[.slice a n cp] 24 ∧ Row W w1.heap.size C 35 ∧ Ms W (.slice a n cp) M ∧ Gs W (.slice a2 p cp2) l ∧ MsAt W (some ⟨g, 0, none⟩) c (M ++ [mb71]) ∧ Beh W ga ca (mkL mk71) ∧ Beh W gb cb (mkL mk71) ∧ Beh W gv cv vt71.cs ∧ GsAt W (some ⟨g2, 0, none⟩) c2 (l ++ [gu71]) ∧ MsAt W a cp M ∧ Turn no w W) := fun W t => by
    have t4 := T4.then_no t
    have tw := TW2.then_no t4
    refine ⟨HR0.out.turn (T02.then_no t4) (fun q => q), R2.turn t4 (fun q => q), ?_, ?_, hM2.turn_no t4, hA2.turn t4 (fun q => q), hB2.turn t4 (fun q => q), hV2.turn t4 (fun q => q), hG4.turn_no t, HMA.out.turn_no tw, tw⟩
    · have := HMs.out.turn_no tw
      rw [HN.out] at this
      exact this
    · have := HGs.out.turn_no tw
      rw [HP.out] at this
      exact this
  have hb43 := shut (fun W => bld43 W)
  have hs25 := shut (fun W => bsl25 W)
  have HZ := shut hi
  clear hi
  clear hM1 hM2 hA1 hA2 hB1 hB2 hV1 hV2 hG4 O1 O2 O2' f1 lt1 t1 t2 R2 T12 T02 TW2 T3 T4 TX TA hS HMA HGA HMs HGs HT0 HR0 b0 hbb hold hC1 hzv hZC HX1
  generalize hG71 : gu71.cs.toArray = G71 at *
  go_upto_region 4 with (first
    | (guard_target =~ wpList _ _ _ ({ dst := some 15, op := Op.call _, .. } :: _) _ _; at_builtin; refine wpList_append_run rfl (.tmp 13) (.tmp 14) rfl _ _ rfl rfl r1 ?_; clear r1)
    | (guard_target =~ wpList _ _ _ ({ dst := some 18, op := Op.call _, .. } :: _) _ _; at_builtin; refine wpList_append_run rfl (.tmp 15) (.tmp 17) rfl _ _ rfl rfl r2 ?_; clear r2)
    | (guard_target =~ wpList _ _ _ ({ dst := _, op := Op.build 43 _, .. } :: _) _ _; refine wpList_build1G (by kernel_rfl) 43 1 _ rfl _ rfl _ (hb43.out _) ?_)
    | (guard_target =~ wpList _ _ _ ({ dst := some 17, op := Op.buildSlice _ _ _, .. } :: _) _ _; refine wpList_bslice1 (by kernel_rfl) 25 (.tmp 16) rfl _ rfl _ _ (hs25.out _) ?_))
  have HC2 : Shut (C[2]? = some (.slice (some ⟨g, 0, none⟩) n c) ∧ C[37]? = some (.slice (some ⟨ga, 0, none⟩) 0 ca) ∧ C[72]? = some (.slice (some ⟨gb, 0, none⟩) 0 cb) ∧ C[73]? = some (.slice (some ⟨gv, 0, none⟩) 0 cv)) := by
    have hx := HXS.out
    rw [← HC.out]
    refine ⟨?_, ?_, ?_, ?_⟩
    · rw [Array.getElem?_setIfInBounds_ne (by decide), Array.getElem?_setIfInBounds_ne (by decide), Array.getElem?_setIfInBounds_ne (by decide), Array.getElem?_setIfInBounds_self_of_lt (by omega)]
    · rw [Array.getElem?_setIfInBounds_ne (by decide), Array.getElem?_setIfInBounds_ne (by decide), Array.getElem?_setIfInBounds_self_of_lt (by simp; omega)]
    · rw [Array.getElem?_setIfInBounds_ne (by decide), Array.getElem?_setIfInBounds_self_of_lt (by simp; omega)]
    · rw [Array.getElem?_setIfInBounds_self_of_lt (by simp; omega)]
  have hpc : ¬ c2 < p := by omega
  have hcm : c2 ≤ 9223372036854775807 := by have := (HW.out w4 (Turn.refl no w4)).2.2.2.2.2.2.2.2.1.cap; simp only [maxLen] at this; omega
  have HFG : Shut (∀ W, Turn no w4 W → Gs W (.slice (some ⟨g2, 0, none⟩) p c2) l) := fun W t => by
    have := (HW.out W t).2.2.2.2.2.2.2.2.1.front
    refine ⟨_, _, ?_, this⟩
    rw [HP.out]
  have HP5 : Shut (∀ W, Turn no w4 W → Calls Try.prog 5 #[.agg #[.slice (some ⟨g, 0, none⟩) n c], .slice (some ⟨g2, 0, none⟩) p c2] W fun e w' => e = .returned (.int .u64 (powE M l)) ∧ Turn no W w') := fun W t => by
    have e1 := Ms.of_at (HW.out W t).2.2.2.2.1
    rw [HN.out] at e1
    exact power5 W _ _ M l e1 (HFG.out W t)
  have HP6 : Shut (∀ W, Turn no w4 W → Calls Try.prog 6 #[.agg #[.slice a n cp], .slice a2 p cp2] W fun e w' => e = .returned (.int .u64 (powE M l)) ∧ Turn no W w') := fun W t => rpower6 W _ _ M l (HW.out W t).2.2.1 (HW.out W t).2.2.2.1
  have HP7 : Shut (∀ W, Turn no w4 W → Calls Try.prog 7 #[.slice (some ⟨g2, 0, none⟩) p c2, .slice a2 p cp2] W fun e w' => e = .returned (.bool true) ∧ Turn no W w') := fun W t => same7 W _ _ l (HFG.out W t) (HW.out W t).2.2.2.1
  have HP8 : Shut (∀ W, Turn no w4 W → Calls Try.prog 8 #[.agg C, .agg X] W fun e w' => e = .returned (.bool true) ∧ Turn no W w') := fun W t => by
    obtain ⟨_, _, _, _, m1, b1, b2, b3, _, m2, _⟩ := HW.out W t
    exact untouched8 W C X n M HN.out a cp g c ga ca gb cb gv cv HC2.out.1 HC2.out.2.1 HC2.out.2.2.1 HC2.out.2.2.2 HX2.out HX37.out HX72.out HX73.out m1 m2 b1 b2 b3
  have HG7 : Shut (∀ W, Turn no w4 W → W.rangeAt g2 (p * 108) gu71.cs) := fun W t => by
    obtain ⟨b, off, e, q⟩ := (HW.out W t).2.2.2.2.2.2.2.2.1.range p gu71 (by rw [List.getElem?_append_right (by rw [HP.out]; exact Nat.le_refl _), HP.out]; simp)
    cases e
    rw [Nat.zero_add] at q
    exact q
  have HQ7 : Shut (∀ W, (binOp .eql 43 (.agg G71) (.agg G71)).run Try.prog W = .ok (.bool true) W) := fun W => by rw [← hG71]; exact eql43 W gu71 gu71_ok
  have hs43 : (Try.prog.info? 43).map (·.size) = some gu71.cs.length := by rw [Gu.len gu71_ok]; exact size43
  have HCC := shut HC2.out.1
  generalize powE M l = PW at *
  clear HFG HX2 HX37 HX72 HX73 HXS HC HC2 HBG HN HP hpm hc2
  obtain ⟨GL, hGL⟩ : ∃ GL, gu71.cs = GL := ⟨_, rfl⟩
  rw [hGL] at hG71 HG7 hs43
  clear hGL
  subst hG71
  refine wp_region_held_drew (S := fun W => Turn no w4 W) (by kernel_rfl) (Turn.refl no w4).drew (fun hHeld => ?_)
  refine' wpAnyH_take (i := 0) (v := .pointer (some ⟨w1.heap.size, 2, none⟩)) rfl (by kernel_rfl) (by kernel_rfl) (by kernel_rfl) (fun _ _ _ h => h) (Or.inl ⟨by kernel_rfl, fun W hW => ?y1⟩) hHeld ?r1
  · go_simp
  refine' wpAnyH_take (i := 1) (v := .agg #[.slice (some ⟨g, 0, none⟩) n c]) rfl (by kernel_rfl) (by kernel_rfl) (by kernel_rfl) (fun _ _ _ h => h) (Or.inl ⟨by kernel_rfl, fun W hW => ?y2⟩) hHeld ?r2
  · have z := (HW.out W hW).2.1.cell 2 _ HCC.out
    go_simp
  refine' wpAnyH_take (i := 2) (v := .slice (some ⟨g2, 0, none⟩) (p + 1) c2) rfl (by kernel_rfl) (by kernel_rfl) (by kernel_rfl) (fun _ _ _ h => h) (Or.inl ⟨by kernel_rfl, fun W hW => ?y3⟩) hHeld ?r3
  · go_simp
  refine' wpAnyH_take (i := 3) (v := .int .i64 p) rfl (by kernel_rfl) (by kernel_rfl) (by kernel_rfl) (fun _ _ _ h => h) (Or.inl ⟨by kernel_rfl, fun W hW => ?y4⟩) hHeld ?r4
  · go_simp
  refine' wpAnyH_take (i := 4) (v := .slice (some ⟨g2, 0, none⟩) p c2) rfl (by kernel_rfl) (by kernel_rfl) (by kernel_rfl) (fun _ _ _ h => h) (Or.inl ⟨by kernel_rfl, fun W hW => ?y5⟩) hHeld ?r5
  · go_simp
  refine wpAnyH_ready (rs := [5]) (by kernel_rfl) (by simp) ?_
  refine AllReadyH.cons rfl (fun K hK => ?_) AllReadyH.nil
  go_simp
  refine (HP5.out _ hHeld).mono ?_
  rintro e w5 ⟨rfl, t5⟩
  refine hK.out _ _ (hHeld.then_no t5) (fun hHeld => ?_)
  clear hK
  refine' wpAnyH_take (i := 6) (v := .int .u64 PW) rfl (by kernel_rfl) (by kernel_rfl) (by kernel_rfl) (fun _ _ _ h => h) (Or.inl ⟨by kernel_rfl, fun W hW => ?y6⟩) hHeld ?r6
  · go_simp
  refine wpAnyH_done (by kernel_rfl) ?_ _
  go_simp
  have HT5 := shut hHeld
  have hp6 := HP6.out w5 hHeld
  have z5 := (HW.out w5 hHeld).1.cell 0 _ rfl
  clear hHeld t5 HP5 HP6
  go_upto_region 6 with (go_at_call 6; refine hp6.mono ?_; clear hp6; rintro e w6 ⟨rfl, t6⟩)
  have T6 := HT5.out.then_no t6
  have HT6 := shut T6
  have hp7 := HP7.out w6 T6
  clear t6 T6 z5 HT5
  have hpw : ((PW : Int) == PW) = true := by simp
  have hpp : (p : Int) < ((p + 1 : Nat) : Int) := by omega
  have H5 := shut HZ.out
  go_wp2_with (first
    | (go_at_call 7; refine hp7.mono ?_; clear hp7; rintro e w7 ⟨rfl, t7⟩; have T7 := HT6.out.then_no t7; have HT7 := shut T7; have r7 := HG7.out w7 T7; have z7 := (HW.out w7 T7).1.cell 0 _ rfl; have q7 := (HW.out w7 T7).2.1; have hp8 := HP8.out w7 T7; clear t7 T7)
    | (guard_target =~ wpList _ _ _ ({ dst := _, op := Op.load 43 _, .. } :: _) _ _; refine wpList_load_midG (by kernel_rfl) 43 (.tmp 43) rfl g2 (p * 108) rfl GL _ r7 Try.underlying43 rfl hs43 ?_)
    | (guard_target =~ wpList _ _ _ ({ dst := _, op := Op.build 43 _, .. } :: _) _ _; refine wpList_build1G (by kernel_rfl) 43 1 _ rfl _ rfl _ (hb43.out _) ?_)
    | (guard_target =~ wpList _ _ _ ({ dst := _, op := Op.binOp BinOp.eql 43 _ _ _, .. } :: _) _ _; refine wpList_eqlG (by kernel_rfl) 43 43 (.tmp 44) (.tmp 45) rfl _ _ rfl rfl _ (guard43 _ _ _ _ _) (HQ7.out _) ?_)
    | (guard_target =~ wpList _ _ _ ({ dst := _, op := Op.load 35 _, .. } :: _) _ _; refine wpList_load_midG (by kernel_rfl) 35 (.tmp 5) rfl w1.heap.size 0 rfl C.toList _ (fun j u hu => by rw [Nat.zero_add]; exact q7.cell j u (by simpa using hu)) Try.underlying35 rfl (by rw [Array.length_toList]; exact H5.out) ?_)
    | (guard_target =~ wpList _ _ _ ({ dst := _, op := Op.build 35 _, .. } :: _) _ _; refine wpList_build1G (by kernel_rfl) 35 2 _ rfl _ rfl _ (HB35.out _) ?_)
    | (go_at_call 8; refine hp8.mono ?_; clear hp8; rintro e w8 ⟨rfl, t8⟩))
  go_ret
  exact ⟨rfl, (HW.out _ (HT7.out.then_no t8)).2.2.2.2.2.2.2.2.2.2⟩
end Go.Proofs.Ytmfphlagpifkaaa
