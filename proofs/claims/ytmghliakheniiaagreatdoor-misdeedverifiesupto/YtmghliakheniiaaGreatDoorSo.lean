/- The walk of MisdeedVerifies. -/
import Derived.Test.YtmghliakheniiaaGreatDoorSn
namespace Go.Proofs.YtmghliakheniiaaGreatDoor
open Go.RowKit Go.Maps Go.MuLone
set_option linter.unusedVariables false

theorem row_range {w : World} {g : Nat} {L : List Value} {t : TypeId} (r : Row w g L.toArray t) : w.rangeAt g 0 L := fun j u hu => by
  rw [Nat.zero_add]
  exact r.cell j u (by simpa using hu)
theorem size46 : (Tryz.prog.info? 46).map (·.size) = some 109 := by kernel_rfl
theorem low_row {n0 : Nat} {W W' : World} {g : Nat} {cs : Array Value} {t : TypeId} (r : Row W g cs t) (tt : Turn (Ab n0) W W') (hg : g < n0) : Row W' g cs t := r.turn tt (fun e => by
  have e' : n0 ≤ g := e
  omega)
set_option maxRecDepth 100000 in
set_option maxHeartbeats 16000000 in
theorem law3 (w : World) (SA : Array Value) (c : ByteArray) (age hh : Nat) (pv ov : Value) (hS : StC SA c age hh pv ov) (hh64 : hh < 18446744073709551616) (P : List Pa) (hP : Pas w pv P) (O : List (Nat × Nat)) (hO : Ofs w ov O)
    (v : Value) (L : List UInt64) (hv : As w v L) (hL : L.length ≤ 1048576) (a b : Vt) (ha : a.fits) (hb : b.fits) (r0 r1 sw : Bool) (hl0 : Laid0 w) (hl1 : Laid1 w) (h3 : 3 ≤ w.heap.size) :
    Calls Tryz.prog 3 #[.agg SA, v, .agg (twC a b r0 r1 sw)] w fun e w' => e = .returned (.bool true) ∧ Turn no w w' := by
  obtain ⟨w0, hw0⟩ : ∃ w0, (w.alloc (.cells SA 37)).alloc (.cells (twC a b r0 r1 sw) 46) = w0 := ⟨_, rfl⟩
  have T0 : Turn no w w0 := by rw [← hw0]; exact ((Turn.refl no w).alloc _).alloc _
  have R0 : Row w0 w.heap.size SA 37 := by rw [← hw0]; exact (Row.new w SA 37).alloc _
  have R1 : Row w0 (w.heap.size + 1) (twC a b r0 r1 sw) 46 := by rw [← hw0]; exact Row.newAt _ _ _ _ (by simp)
  have hal := alive4 w0
  have z32 := zero32
  have sZ : (evC zvt zvt).size = 106 := evC_size zvt_ok zvt_ok
  obtain ⟨ad, cap, evv, -⟩ := hv.cells
  subst evv
  have HEN : Shut (∀ W, Turn no w W → Calls Tryz.prog 5 #[.slice ad L.length cap] W (EnRet W L.length)) := fun W t => enters5 W _ L ⟨by
    obtain ⟨a', c', e, h1, h2⟩ := hv.cells
    exact ⟨a', c', e, h1, fun j x hx => by
      obtain ⟨b', o', e1, h⟩ := h2 j x hx
      exact ⟨b', o', e1, t.keep h (fun q => q)⟩⟩⟩ hL
  have HSH : Shut (∀ W1 W2 g p br bt q vm vo ve E S1 S2, Turn no w W1 → w.heap.size ≤ W1.heap.size → Wd W1.heap.size W2 g p br bt q vm vo ve (.slice none 0 0) (fun _ => .slice none 0 0) E [] E E S1 S2 → E.length ≤ L.length → Turn no W1 W2 → Calls Tryz.prog 6 #[.pointer (some ⟨g, 0, none⟩), .string c, .agg (twC a b r0 r1 sw)] W2 (ShRet W1.heap.size W2 g p br bt q vm vo ve E S1 S2)) := fun W1 W2 g p br bt q vm vo ve E S1 S2 t hw h hE t2 =>
    shown6 h t2.size (by omega) (hl1.turn (t.then_no t2) (fun q => q)) (hl0.turn (t.then_no t2) (fun q => q)) (by omega) c a b ha hb r0 r1 sw
  have HT0 := shut T0
  have HIN := shut (And.intro hS (And.intro hP (And.intro hO (And.intro hl0 hl1))))
  have iS := hS.size
  have cc := R0.cell 0 _ hS.ch
  have iT : (Tryz.prog.info? 46).map (·.size) = some (twC a b r0 r1 sw).size := by
    have : (twC a b r0 r1 sw).size = 109 := by simp [twC, a.len ha.1, b.len hb.1]
    rw [this]
    exact size46
  obtain ⟨n, hn⟩ : ∃ n, Hid (L.length = n) := ⟨_, rfl⟩
  rw [show L.length = n from hn.out] at HEN HSH ⊢
  clear hS hP hO hv ha hb hl0 hl1 T0
  generalize hTW : twC a b r0 r1 sw = TW at *
  clear hTW
  obtain ⟨ZE, hZE⟩ : ∃ ZE, Hid (evC zvt zvt = ZE) := ⟨_, rfl⟩
  rw [show evC zvt zvt = ZE from hZE.out] at z32 sZ
  go_enter Tryz.func3, Tryz.ntmps3
  go_upto_region 1 with fail
  try rw [hw0]
  clear hw0
  go_upto_region 4 with (go_at_call 4; refine hal.mono ?_; clear hal; rintro e w1 ⟨rfl, t1⟩)
  have T1 := HT0.out.then_no t1
  have hen := HEN.out w1 T1
  clear HEN
  go_upto_region 7 with (go_at_call 5; refine hen.mono ?_; clear hen; rintro e w2 ⟨g, p, br, bt, q, rfl, HEI⟩; have HEI := shut HEI)
  obtain ⟨vm, vo, ve, E, S1, S2, W2, hE, t2⟩ := HEI.out
  have hsh := HSH.out w1 w2 g p br bt q vm vo ve E S1 S2 T1 T1.size W2 hE t2
  have T02 : Turn no w0 w2 := t1.then_no t2
  have hs0 : w.heap.size + 1 < w0.heap.size := R1.lt
  have hs1 := t1.size
  have cc := T02.keep cc (fun q => q)
  have R12 := Row.turn R1 T02 (fun q => q)
  go_upto_region 10 with (first | (guard_target =~ wpList _ _ _ ({ dst := some 34, .. } :: _) _ _; refine wpList_load_row rfl 46 (.tmp 5) rfl (w.heap.size + 1) rfl 46 TW _ _ R12 Tryz.underlying46 rfl iT ?_) | (go_at_call 6; refine hsh.mono ?_; clear hsh; rintro e w3 ⟨a', b', V3, vr3, R, rfl, ha', hb', W3, hRR, T3⟩; have sEV : (evC a' b').size = 106 := evC_size ha'.1 hb'.1; have iEV : (Tryz.prog.info? 52).map (·.size) = some (evC a' b').size := (by rw [sEV]; exact size32); have oEV := evC_one a' b') | (guard_target =~ wpList _ _ _ ({ dst := _, op := Op.store 52 _ _, .. } :: _) _ _; refine wpList_store_anyX rfl rfl 52 (.tmp 9) (.tmp 36) rfl w3.heap.size (evC a' b') rfl rfl 52 ZE (Row.new w3 ZE 52) iEV (by rw [sZ, sEV]) oEV ?_; intro w4 R4 t4))
  have T34 : Turn no w3 w4 := alloc_set t4
  have R0 := Row.turn (low_row (Row.turn R0 T02 (fun q => q)) T3 (by omega)) T34 (fun q => q)
  have T4 : Turn no w w4 := ((HT0.out.then_no T02).trans T3 (fun i hi e => by have e' : w1.heap.size ≤ i := e; omega)).then_no T34
  have W4 := W3.turn_no T34
  have hge : w3.heap.size ≤ w3.heap.size := Nat.le_refl _
  have hgp : w3.heap.size ≠ p := fun e => by have := W3.bk.lt (.inl rfl); omega
  have hg1 : w1.heap.size ≤ p := W3.lo.2.1
  have hwp : w.heap.size + 1 < p := by omega
  generalize w3.heap.size = g9 at *
  clear R1 R12 T02 t1 t2 hs1 W2 t4 T3 T34 W3 HSH cc hge T1
  obtain ⟨hS, hP, hO, hl0, hl1⟩ := HIN.out
  have TD : Turn no w4 w4.drew := (Turn.refl no w4).drew
  have T5 : Turn no w w4.drew := T4.then_no TD
  have W5 := W4.turn_no TD
  have hs5 := T5.size
  have hgq : g ≠ p := fun e => W5.bk.kd1 (by decide) g (.inl e) _ _ W5.row
  obtain ⟨vE, hvE⟩ : ∃ vE, Hid (verE c P O age hh R a' b' = vE) := ⟨_, rfl⟩
  have hv7 := verify7 W5.bk SA c age hh pv ov hS hh64 P (hP.turn_no T5) O (hO.turn_no T5) a' b' ha' hb' (hl1.turn T5 (fun q => q)) (by omega) (by omega)
  rw [show verE c P O age hh R a' b' = vE from hvE.out] at hv7
  have HWT : Shut (∀ W, Turn (fun k => k = p) w4.drew W → Turn no w W) := fun W t => T5.trans t (fun i hi e => by
    have e' : i = p := e
    omega)
  have HV8 : Shut (∀ W W', Turn (fun k => k = p) w4.drew W → Turn no W W' → Calls Tryz.prog 8 #[.agg SA, .pointer (some ⟨q, 0, none⟩), .agg (evC a' b')] W' fun e w' => e = .returned (.int .i64 vE) ∧ Turn no W' w') := fun W W' t t' => by
    have TW := (HWT.out W t).then_no t'
    have hsW := TW.size
    have hf := ((W5.rf.off t (fun k hk c f ho => W5.bk.kd1 (by decide) k (.inl hk) c f ho) (fun k hk c f ho => W5.bk.kd1 (by decide) k (.inl hk) c f ho) (fun k hk c f ho => W5.bk.kd1 (by decide) k (.inl hk) c f ho))).turn_no t'
    have := rverify8 hf SA c age hh pv ov hS hh64 P (hP.turn_no TW) O (hO.turn_no TW) a' b' ha' hb' (hl0.turn TW (fun q => q)) (by omega)
    rwa [show verE c P O age hh R a' b' = vE from hvE.out] at this
  have HN : Shut (∀ W v, NoR W v → Calls Tryz.prog 7 #[.agg SA, v, .agg (evC a' b')] W fun e w' => e = .returned (.int .i64 1) ∧ Turn no W w') := fun W v h => verify7_no W SA (evC a' b') v h
  have HRW : Shut (∀ W, Turn (fun k => k = p) w4.drew W → Row W w.heap.size SA 37 ∧ Row W g9 (evC a' b') 52 ∧ W.cell? ⟨g, 0, none⟩ = some (.pointer (some ⟨p, 0, none⟩)) ∧ W.cell? ⟨g, 1, none⟩ = some (.pointer (some ⟨q, 0, none⟩))) := fun W t => by
    have r := W5.row.off t (fun k hk c f ho => W5.bk.kd1 (by decide) k (.inl hk) c f ho)
    exact ⟨(Row.turn R0 TD (fun q => q)).turn t (fun e => by have e' : w.heap.size = p := e; omega), (Row.turn R4 TD (fun q => q)).turn t hgp, r.cell 0 _ rfl, r.cell 1 _ rfl⟩
  have HEVI : Shut (vE = 0 → plainSv c a' = 0 ∧ plainSv c b' = 0 ∧ (txs R (auE a')).countP (isPQ (stBv c a') (stBv c b')) = 2) := fun h => let_two ha' hb' hRR.1 (hvE.out.trans h)
  have HFT := shut (And.intro ha' (And.intro hb' hRR))
  have HCH : Hid (SA[0]? = some (.string c)) := hS.ch
  obtain ⟨SL, hSL⟩ : ∃ SL : List Value, SA = SL.toArray := ⟨SA.toList, (Array.toArray_toList).symm⟩
  subst hSL
  have iSL : (Tryz.prog.info? 37).map (·.size) = some SL.length := by rw [← List.size_toArray]; exact iS
  have HEV : Hid (evC a' b' = (a'.cs ++ b'.cs).toArray) := rfl
  have HRA : Shut (∀ W, Row W g9 (evC a' b') 52 → W.rangeAt g9 0 a'.cs ∧ W.rangeAt g9 53 b'.cs ∧ W.cell? ⟨g9, 36, none⟩ = some (.int .u64 ((auE a').toNat : Int))) := fun W r => by
    obtain ⟨x1, x2⟩ := evC_ra r ha'.1
    exact ⟨x1, x2, by rw [← auE_f ha']; exact r.cell 36 _ (evC_at ha'.1).2⟩
  clear hS hP hO hl0 hl1 HIN T4 TD T5 R0 R4 hs5 W4 ha' hb' hRR HT0
  generalize evC a' b' = EV at *
  obtain ⟨EL, hEL⟩ : ∃ EL : List Value, EV = EL.toArray := ⟨EV.toList, (Array.toArray_toList).symm⟩
  subst hEL
  have iEL : (Tryz.prog.info? 52).map (·.size) = some EL.length := by rw [← List.size_toArray]; exact iEV
  refine wp_region_held_drew (S := fun W => Turn (fun k => k = p) w4.drew W) (by kernel_rfl) (Turn.refl _ w4.drew) (fun hHeld => ?_)
  refine' wpAnyH_take (i := 0) (v := .agg SL.toArray) rfl (by kernel_rfl) (by kernel_rfl) (by kernel_rfl) (fun _ _ _ h => h) (yieldsIf_load_mid (by kernel_rfl) 37 (.tmp 3) rfl w.heap.size 0 (by kernel_rfl) SL _ (fun W h => row_range (HRW.out W h).1) Tryz.underlying37 rfl iSL) hHeld ?s0
  refine' wpAnyH_take (i := 1) (v := .pointer (some ⟨g, 0, none⟩)) rfl (by kernel_rfl) (by kernel_rfl) (by kernel_rfl) (fun _ _ _ h => h) (Or.inl ⟨by kernel_rfl, fun W hW => ?y1⟩) hHeld ?r1
  · skip
    go_simp
  refine' wpAnyH_take (i := 2) (v := .pointer (some ⟨g, 0, none⟩)) rfl (by kernel_rfl) (by kernel_rfl) (by kernel_rfl) (fun _ _ _ h => h) (Or.inl ⟨by kernel_rfl, fun W hW => ?y2⟩) hHeld ?r2
  · skip
    go_simp
  refine' wpAnyH_take (i := 3) (v := .pointer (some ⟨g, 0, none⟩)) rfl (by kernel_rfl) (by kernel_rfl) (by kernel_rfl) (fun _ _ _ h => h) (Or.inl ⟨by kernel_rfl, fun W hW => ?y3⟩) hHeld ?r3
  · skip
    go_simp
  refine' wpAnyH_take (i := 4) (v := .pointer (some ⟨p, 0, none⟩)) rfl (by kernel_rfl) (by kernel_rfl) (by kernel_rfl) (fun _ _ _ h => h) (Or.inl ⟨by kernel_rfl, fun W hW => ?y4⟩) hHeld ?r4
  · obtain ⟨_, _, f1, _⟩ := HRW.out W hW
    go_simp
  refine' wpAnyH_take (i := 5) (v := .agg EL.toArray) rfl (by kernel_rfl) (by kernel_rfl) (by kernel_rfl) (fun _ _ _ h => h) (yieldsIf_load_mid (by kernel_rfl) 52 (.tmp 9) rfl g9 0 (by kernel_rfl) EL _ (fun W h => row_range (HRW.out W h).2.1) Tryz.underlying52 rfl iEL) hHeld ?s5
  refine wpAnyH_ready (rs := [6]) (by kernel_rfl) (by simp) ?_
  refine AllReadyH.cons rfl (fun K hK => ?_) AllReadyH.nil
  go_simp
  refine hv7.mono ?_
  rintro e w5 ⟨rfl, B5, t5⟩
  go_wp2_with fail
  refine hK.out _ _ t5 (fun hHeld => ?_)
  clear hK hv7
  refine' wpAnyH_take (i := 7) (v := .int .i64 vE) rfl (by kernel_rfl) (by kernel_rfl) (by kernel_rfl) (fun _ _ _ h => h) (Or.inl ⟨by kernel_rfl, fun W hW => ?y5⟩) hHeld ?r5
  · skip
    go_simp
  refine wpAnyH_done (by kernel_rfl) ?_ _
  go_simp
  obtain ⟨Q0, Q9, _, _⟩ := HRW.out w5 t5
  have hn1 := HN.out w5 (.pointer none) (.inl rfl)
  go_upto_region 12 with (first | (guard_target =~ wpList _ _ _ ({ dst := some 47, .. } :: _) _ _; refine wpList_load_row rfl 37 (.tmp 3) rfl w.heap.size rfl 37 SL.toArray _ _ Q0 Tryz.underlying37 rfl iS ?_) | (guard_target =~ wpList _ _ _ ({ dst := some 48, .. } :: _) _ _; refine wpList_load_row rfl 52 (.tmp 9) rfl g9 rfl 52 EL.toArray _ _ Q9 Tryz.underlying52 rfl iEV ?_) | (go_at_call 7; refine hn1.mono ?_; clear hn1; rintro e w6 ⟨rfl, t6⟩))
  have Q0 := Row.turn Q0 t6 (fun q => q)
  have Q9 := Row.turn Q9 t6 (fun q => q)
  have Qz : Row (w6.alloc (.cells #[.pointer none, .int .i32 0, .int .u32 0, .map none, .map none] 73)) g9 EL.toArray 52 := Q9.alloc _
  have hn2 := HN.out (w6.alloc (.cells #[.pointer none, .int .i32 0, .int .u32 0, .map none, .map none] 73)) (.pointer (some ⟨w6.heap.size, 0, none⟩)) (.inr ⟨w6.heap.size, rfl, (Row.new w6 _ 73).cell 0 _ rfl⟩)
  have ta : Turn no w6 (w6.alloc (.cells #[.pointer none, .int .i32 0, .int .u32 0, .map none, .map none] 73)) := (Turn.refl no w6).alloc _
  go_upto_region 13 with (first | (guard_target =~ wpList _ _ _ ({ dst := some 50, .. } :: _) _ _; refine wpList_load_row rfl 37 (.tmp 3) rfl w.heap.size rfl 37 SL.toArray _ _ Q0 Tryz.underlying37 rfl iS ?_) | (guard_target =~ wpList _ _ _ ({ dst := some 53, .. } :: _) _ _; refine wpList_load_row rfl 52 (.tmp 9) rfl g9 rfl 52 EL.toArray _ _ Qz Tryz.underlying52 rfl iEV ?_) | (go_at_call 7; refine hn2.mono ?_; clear hn2; rintro e w7 ⟨rfl, t7⟩))
  have TT57 : Turn no w5 w7 := (t6.then_no ta).then_no t7
  clear Q0 Q9 Qz ta t6 t7 HN
  have h8 := HV8.out w5 w7.drew t5 (TT57.then_no (Turn.refl no w7).drew)
  have HR7 : Shut (∀ W, Turn no w7 W → Row W w.heap.size SL.toArray 37 ∧ Row W g9 EL.toArray 52 ∧ W.cell? ⟨g, 0, none⟩ = some (.pointer (some ⟨p, 0, none⟩)) ∧ W.cell? ⟨g, 1, none⟩ = some (.pointer (some ⟨q, 0, none⟩))) := fun W t => by
    obtain ⟨x1, x2, x3, x4⟩ := HRW.out w5 t5
    have tt := TT57.then_no t
    exact ⟨Row.turn x1 tt (fun q => q), Row.turn x2 tt (fun q => q), tt.keep x3 (fun q => q), tt.keep x4 (fun q => q)⟩
  have T7 : Turn no w w7 := (HWT.out w5 t5).then_no TT57
  have B7 := shut (B5.turn_no TT57)
  clear HV8 HRW HWT B5 t5 TT57
  refine wp_region_held_drew (S := fun W => Turn no w7 W) (by kernel_rfl) (Turn.refl _ w7).drew (fun hHeld => ?_)
  refine' wpAnyH_take (i := 0) (v := .int .i64 vE) rfl (by kernel_rfl) (by kernel_rfl) (by kernel_rfl) (fun _ _ _ h => h) (Or.inl ⟨by kernel_rfl, fun W hW => ?y6⟩) hHeld ?r6
  · skip
    go_simp
  refine' wpAnyH_take (i := 1) (v := .agg SL.toArray) rfl (by kernel_rfl) (by kernel_rfl) (by kernel_rfl) (fun _ _ _ h => h) (yieldsIf_load_mid (by kernel_rfl) 37 (.tmp 3) rfl w.heap.size 0 (by kernel_rfl) SL _ (fun W h => row_range (HR7.out W h).1) Tryz.underlying37 rfl iSL) hHeld ?u1
  refine' wpAnyH_take (i := 2) (v := .pointer (some ⟨g, 0, none⟩)) rfl (by kernel_rfl) (by kernel_rfl) (by kernel_rfl) (fun _ _ _ h => h) (Or.inl ⟨by kernel_rfl, fun W hW => ?y7⟩) hHeld ?r7
  · skip
    go_simp
  refine' wpAnyH_take (i := 3) (v := .pointer (some ⟨g, 0, none⟩)) rfl (by kernel_rfl) (by kernel_rfl) (by kernel_rfl) (fun _ _ _ h => h) (Or.inl ⟨by kernel_rfl, fun W hW => ?y8⟩) hHeld ?r8
  · skip
    go_simp
  refine' wpAnyH_take (i := 4) (v := .pointer (some ⟨g, 1, none⟩)) rfl (by kernel_rfl) (by kernel_rfl) (by kernel_rfl) (fun _ _ _ h => h) (Or.inl ⟨by kernel_rfl, fun W hW => ?y9⟩) hHeld ?r9
  · skip
    go_simp
  refine' wpAnyH_take (i := 5) (v := .pointer (some ⟨q, 0, none⟩)) rfl (by kernel_rfl) (by kernel_rfl) (by kernel_rfl) (fun _ _ _ h => h) (Or.inl ⟨by kernel_rfl, fun W hW => ?y10⟩) hHeld ?r10
  · obtain ⟨_, _, _, f1⟩ := HR7.out W hW
    go_simp
  refine' wpAnyH_take (i := 6) (v := .agg EL.toArray) rfl (by kernel_rfl) (by kernel_rfl) (by kernel_rfl) (fun _ _ _ h => h) (yieldsIf_load_mid (by kernel_rfl) 52 (.tmp 9) rfl g9 0 (by kernel_rfl) EL _ (fun W h => row_range (HR7.out W h).2.1) Tryz.underlying52 rfl iEL) hHeld ?u6
  refine wpAnyH_ready (rs := [7]) (by kernel_rfl) (by simp) ?_
  refine AllReadyH.cons rfl (fun K hK => ?_) AllReadyH.nil
  go_simp
  refine h8.mono ?_
  rintro e w8 ⟨rfl, t8⟩
  have T78 : Turn no w7 w8 := (Turn.refl no w7).drew.then_no t8
  go_wp2_with fail
  refine hK.out _ _ T78 (fun hHeld => ?_)
  clear hK h8
  refine' wpAnyH_take (i := 8) (v := .bool false) rfl (by kernel_rfl) (by kernel_rfl) (by kernel_rfl) (fun _ _ _ h => h) (Or.inl ⟨by kernel_rfl, fun W hW => ?y11⟩) hHeld ?r11
  · skip
    go_simp
  refine' wpAnyH_take (i := 9) (v := .bool false) rfl (by kernel_rfl) (by kernel_rfl) (by kernel_rfl) (fun _ _ _ h => h) (Or.inl ⟨by kernel_rfl, fun W hW => ?y12⟩) hHeld ?r12
  · skip
    go_simp
  refine' wpAnyH_take (i := 10) (v := .int .i64 1) rfl (by kernel_rfl) (by kernel_rfl) (by kernel_rfl) (fun _ _ _ h => h) (Or.inl ⟨by kernel_rfl, fun W hW => ?y13⟩) hHeld ?r13
  · skip
    go_simp
  refine' wpAnyH_take (i := 11) (v := .bool false) rfl (by kernel_rfl) (by kernel_rfl) (by kernel_rfl) (fun _ _ _ h => h) (Or.inl ⟨by kernel_rfl, fun W hW => ?y14⟩) hHeld ?r14
  · skip
    go_simp
  refine' wpAnyH_take (i := 12) (v := .bool false) rfl (by kernel_rfl) (by kernel_rfl) (by kernel_rfl) (fun _ _ _ h => h) (Or.inl ⟨by kernel_rfl, fun W hW => ?y15⟩) hHeld ?r15
  · skip
    go_simp
  refine' wpAnyH_take (i := 13) (v := .bool false) rfl (by kernel_rfl) (by kernel_rfl) (by kernel_rfl) (fun _ _ _ h => h) (Or.inl ⟨by kernel_rfl, fun W hW => ?y16⟩) hHeld ?r16
  · skip
    go_simp
  refine' wpAnyH_take (i := 14) (v := .int .i64 1) rfl (by kernel_rfl) (by kernel_rfl) (by kernel_rfl) (fun _ _ _ h => h) (Or.inl ⟨by kernel_rfl, fun W hW => ?y17⟩) hHeld ?r17
  · skip
    go_simp
  refine' wpAnyH_take (i := 15) (v := .bool false) rfl (by kernel_rfl) (by kernel_rfl) (by kernel_rfl) (fun _ _ _ h => h) (Or.inl ⟨by kernel_rfl, fun W hW => ?y18⟩) hHeld ?r18
  · skip
    go_simp
  refine' wpAnyH_take (i := 16) (v := .bool false) rfl (by kernel_rfl) (by kernel_rfl) (by kernel_rfl) (fun _ _ _ h => h) (Or.inl ⟨by kernel_rfl, fun W hW => ?y19⟩) hHeld ?r19
  · skip
    go_simp
  refine wpAnyH_done (by kernel_rfl) ?_ _
  go_simp
  have T8 : Turn no w w8 := T7.then_no T78
  by_cases hz : vE = 0
  · obtain ⟨hpa, hpb, hcnt⟩ := HEVI.out hz
    subst hz
    have R8 := HR7.out w8 T78
    obtain ⟨Q0, Q9, q1, _⟩ := R8
    obtain ⟨ra, rb, rf⟩ := HRA.out w8 Q9
    have cc := Q0.cell 0 _ HCH
    have hva := rvoteBytes11 w8 c a' HFT.out.1
    have HVB : Shut (∀ W, Calls Tryz.prog 9 #[.string c, .agg b'.cs.toArray] W (Told W (plainSv c b') (sBv c b'))) := fun W => rvoteBytes11 W c b' HFT.out.2.1
    have i43 : (Tryz.prog.info? 43).map (·.size) = some a'.cs.length := by rw [a'.len HFT.out.1.1]; exact qsize29
    have j43 : (Tryz.prog.info? 43).map (·.size) = some b'.cs.length := by rw [b'.len HFT.out.2.1.1]; exact qsize29
    have eA : sBv c a' = stBv c a' := by simp [sBv, hpa]
    have eB : sBv c b' = stBv c b' := by simp [sBv, hpb]
    rw [hpa, eA] at hva
    rw [hpb, eB] at HVB
    have B8 := shut (B7.out.turn_no T78)
    have hRR := HFT.out.2.2
    have HAT : Shut (∀ W, Turn no w8 W → W.cell? ⟨w.heap.size, 0, none⟩ = some (.string c) ∧ W.rangeAt g9 53 b'.cs ∧ W.cell? ⟨g9, 36, none⟩ = some (.int .u64 ((auE a').toNat : Int)) ∧ W.cell? ⟨g, 0, none⟩ = some (.pointer (some ⟨p, 0, none⟩))) := fun W t => by
      obtain ⟨x1, x2, x3, _⟩ := HR7.out W (T78.then_no t)
      obtain ⟨y1, y2, y3⟩ := HRA.out W x2
      exact ⟨x1.cell 0 _ HCH, y2, y3, x3⟩
    clear HEVI HR7 HRA HFT hpa hpb eA eB Q0 Q9 rb rf B7
    generalize a'.cs = A at *
    generalize b'.cs = BC at *
    generalize stBv c a' = PB at *
    generalize stBv c b' = QB at *
    generalize auE a' = ax at *
    go_upto_region 18 with (first | (guard_target =~ wpList _ _ _ ({ dst := some 78, .. } :: _) _ _; refine wpList_load_midG (by kernel_rfl) 43 (.tmp 77) rfl g9 0 rfl A _ ra Tryz.underlying43 rfl i43 ?_) | (go_at_call 9; refine hva.mono ?_; clear hva; rintro e w9 ⟨pv9, rfl, O9, _, t9⟩))
    obtain ⟨cc, rb, _, _⟩ := HAT.out w9 t9
    have hvb := HVB.out w9
    go_upto_region 20 with (first | (guard_target =~ wpList _ _ _ ({ dst := some 86, .. } :: _) _ _; refine wpList_load_midG (by kernel_rfl) 43 (.tmp 85) rfl g9 53 rfl BC _ rb Tryz.underlying43 rfl j43 ?_) | (go_at_call 9; refine hvb.mono ?_; clear hvb; rintro e w10 ⟨qv10, rfl, O10, _, t10⟩))
    have T810 := t9.then_no t10
    have O9 := O9.turn_no t10
    obtain ⟨_, _, rf, q1⟩ := HAT.out w10 T810
    have TX : Turn no w10 w10.drew := (Turn.refl no w10).drew
    have B10 := (B8.out.turn_no T810).turn_no TX
    have hsg := signed23 B10 ax (fun r hr => by have := hRR.2.1 r hr; omega) (by have := hRR.2.2; omega)
    have HXX : Shut (∀ W, Turn (fun k => k = p) w10.drew W → W.cell? ⟨g, 0, none⟩ = some (.pointer (some ⟨p, 0, none⟩)) ∧ W.cell? ⟨g9, 36, none⟩ = some (.int .u64 (ax.toNat : Int)) ∧ Own W 5 pv9 (PB.map bv) ∧ Own W 5 qv10 (QB.map bv) ∧ Turn no w W) := fun W t => by
      have K5 : Kd (fun k => k = p) w10.drew 5 := fun k hk c f ho => B10.kd1 (by decide) k (.inl hk) c f ho
      exact ⟨t.keep (TX.keep q1 (fun q => q)) hgq, t.keep (TX.keep rf (fun q => q)) hgp, (O9.turn_no TX).off t K5, (O10.turn_no TX).off t K5, ((T8.then_no T810).then_no TX).trans t (fun i hi e => by
        have e' : i = p := e
        omega)⟩
    obtain ⟨pa, pl, pc, ep⟩ := O9.shp
    obtain ⟨qa, ql, qc, eq⟩ := O10.shp
    subst ep
    subst eq
    clear HAT rb cc rf q1 T810 TX O9 O10 B10 B8 t9 t10 HVB
    refine wp_region_held_drew (S := fun W => Turn (fun k => k = p) w10.drew W) (by kernel_rfl) (Turn.refl _ w10.drew) (fun hHeld => ?_)
    refine' wpAnyH_take (i := 0) (v := .pointer (some ⟨g, 0, none⟩)) rfl (by kernel_rfl) (by kernel_rfl) (by kernel_rfl) (fun _ _ _ h => h) (Or.inl ⟨by kernel_rfl, fun W hW => ?y20⟩) hHeld ?r20
    · skip
      go_simp
    refine' wpAnyH_take (i := 1) (v := .pointer (some ⟨g, 0, none⟩)) rfl (by kernel_rfl) (by kernel_rfl) (by kernel_rfl) (fun _ _ _ h => h) (Or.inl ⟨by kernel_rfl, fun W hW => ?y21⟩) hHeld ?r21
    · skip
      go_simp
    refine' wpAnyH_take (i := 2) (v := .pointer (some ⟨g, 0, none⟩)) rfl (by kernel_rfl) (by kernel_rfl) (by kernel_rfl) (fun _ _ _ h => h) (Or.inl ⟨by kernel_rfl, fun W hW => ?y22⟩) hHeld ?r22
    · skip
      go_simp
    refine' wpAnyH_take (i := 3) (v := .pointer (some ⟨p, 0, none⟩)) rfl (by kernel_rfl) (by kernel_rfl) (by kernel_rfl) (fun _ _ _ h => h) (Or.inl ⟨by kernel_rfl, fun W hW => ?y23⟩) hHeld ?r23
    · obtain ⟨f1, _⟩ := HXX.out W hW
      go_simp
    refine' wpAnyH_take (i := 4) (v := .pointer (some ⟨g9, 0, none⟩)) rfl (by kernel_rfl) (by kernel_rfl) (by kernel_rfl) (fun _ _ _ h => h) (Or.inl ⟨by kernel_rfl, fun W hW => ?y24⟩) hHeld ?r24
    · skip
      go_simp
    refine' wpAnyH_take (i := 5) (v := .pointer (some ⟨g9, 36, none⟩)) rfl (by kernel_rfl) (by kernel_rfl) (by kernel_rfl) (fun _ _ _ h => h) (Or.inl ⟨by kernel_rfl, fun W hW => ?y25⟩) hHeld ?r25
    · skip
      go_simp
    refine' wpAnyH_take (i := 6) (v := .int .u64 (ax.toNat : Int)) rfl (by kernel_rfl) (by kernel_rfl) (by kernel_rfl) (fun _ _ _ h => h) (Or.inl ⟨by kernel_rfl, fun W hW => ?y26⟩) hHeld ?r26
    · obtain ⟨_, f1, _⟩ := HXX.out W hW
      go_simp
    refine wpAnyH_ready (rs := [7]) (by kernel_rfl) (by simp) ?_
    refine AllReadyH.cons rfl (fun K hK => ?_) AllReadyH.nil
    go_simp
    refine hsg.mono ?_
    rintro e w11 ⟨lv, ts, rfl, hMl, hts, _, t11⟩
    go_wp2_with fail
    refine hK.out _ _ t11 (fun hHeld => ?_)
    clear hK hsg
    obtain ⟨la, lc, elv, hle⟩ := own_len hMl.own
    rw [List.length_map] at elv hle
    subst elv
    refine' wpAnyH_take (i := 8) (v := .slice la ts.length lc) rfl (by kernel_rfl) (by kernel_rfl) (by kernel_rfl) (fun _ _ _ h => h) (Or.inl ⟨by kernel_rfl, fun W hW => ?y27⟩) hHeld ?r27
    · skip
      go_simp
    refine wpAnyH_done (by kernel_rfl) ?_ _
    go_simp
    obtain ⟨_, _, O9, O10, T11⟩ := HXX.out w11 t11
    have OB9 := shut O9.bs
    have OB10 := shut O10.bs
    have HT11 := shut T11
    have HML := shut hMl
    have hck2 : Hid (((ts.map (·.2)).take ts.length).countP (isPQ PB QB) = 2) := by
      show _ = _
      rw [List.take_of_length_le (by simp), hts]
      exact hcnt
    clear hMl O9 O10 T11 HXX hts hcnt hRR
    obtain ⟨n2, hn2⟩ : ∃ n2, Hid (ts.length = n2) := ⟨_, rfl⟩
    rw [show ts.length = n2 from hn2.out] at hle hck2 ⊢
    go_wp2_with fail
    go_loopw [17, 19] (fun c17 c19 wr => ∃ (k m : Nat), k ≤ n2 ∧ m ≤ k ∧ c17 = .int .i64 m ∧ c19 = .int .i64 k ∧ Shut (m = ((ts.map (·.2)).take k).countP (isPQ PB QB) ∧ Turn no w11 wr)) (fun c17 c19 _ => n2 - (intOf c19).toNat)
    case atStart => exact ⟨0, 0, by omega, by omega, rfl, rfl, shut ⟨by simp, Turn.refl _ _⟩⟩
    case round =>
      obtain ⟨k, m, hk, hm, rfl, rfl, hI⟩ := hrel
      by_cases hlt : k < n2
      · obtain ⟨t, ht⟩ : ∃ t, ts[k]? = some t := ⟨ts[k]'(by rw [hn2.out]; exact hlt), List.getElem?_eq_getElem _⟩
        obtain ⟨hmm, T⟩ := hI.out
        obtain ⟨hbs, _⟩ := HML.out.each t (List.mem_of_getElem? ht)
        have hown := HML.out.own
        obtain ⟨lb, lcc, ell, _, _, hcl⟩ := hown.at (by rw [List.length_map, hn2.out]; omega)
        rw [List.length_map] at ell
        injection ell with e1 e2 e3
        subst e1
        subst e3
        have cl := T.keep (hcl k t.1 (by rw [List.getElem?_map, ht]; rfl)) (fun q => q)
        obtain ⟨ta, tc, et⟩ := hbs.slice
        have X1 : ∀ W, Turn no wr W → (convert 75 9 t.1).run Tryz.prog W = .ok (.string ⟨t.2.toArray⟩) W := fun W tt => bytes_text (hbs.turn_no (T.then_no tt))
        have XP : ∀ W, Turn no wr W → (convert 75 9 (.slice pa pl pc)).run Tryz.prog W = .ok (.string ⟨PB.toArray⟩) W := fun W tt => bytes_text (OB9.out.turn_no (T.then_no tt))
        have XQ : ∀ W, Turn no wr W → (convert 75 9 (.slice qa ql qc)).run Tryz.prog W = .ok (.string ⟨QB.toArray⟩) W := fun W tt => bytes_text (OB10.out.turn_no (T.then_no tt))
        rw [et] at cl X1
        obtain ⟨tn, htn⟩ : ∃ n, Hid (t.2.length = n) := ⟨_, rfl⟩
        rw [show t.2.length = tn from htn.out] at cl X1
        clear et
        have hstep : ((ts.map (·.2)).take (k + 1)).countP (isPQ PB QB) = m + (if isPQ PB QB t.2 = true then 1 else 0) := by
          have hq : (ts.map (·.2))[k]? = some t.2 := by rw [List.getElem?_map, ht]; rfl
          rw [List.take_add_one, hq, List.countP_append, ← hmm]
          simp [List.countP_cons]
        have inj : ∀ {X Y : List UInt8}, X ≠ Y → ¬ (⟨X.toArray⟩ : ByteArray).toList = (⟨Y.toArray⟩ : ByteArray).toList := fun h e => h (by
          rw [ByteArray.toList_eq, ByteArray.toList_eq] at e
          simpa using e)
        have hm9 : (m : Int) + 1 ≤ 9223372036854775807 := by omega
        have hlt' : (k : Int) < (n2 : Int) := by omega
        have HST := shut hstep
        have HTD := shut (T.then_no (Turn.refl no wr).drew)
        by_cases hP : t.2 = PB
        · have HE : Shut (m + 1 = ((ts.map (·.2)).take (k + 1)).countP (isPQ PB QB) ∧ Turn no w11 wr.drew) := ⟨by rw [HST.out, if_pos (by simp [isPQ, hP])], HTD.out⟩
          rw [hP] at X1
          clear HML hck2 hcl hown hbs ht hmm hI hstep HST inj OB9 OB10 XQ HTD T
          generalize (⟨PB.toArray⟩ : ByteArray) = PS at *
          go_upto_region 24 with fail
          refine wp_region_held_drew (S := fun W => Turn no wr W) (by kernel_rfl) (Turn.refl _ wr).drew (fun hHeld => ?_)
          refine' wpAnyH_take (i := 0) (v := .slice (some ⟨lb, 0, none⟩) n2 lc) rfl (by kernel_rfl) (by kernel_rfl) (by kernel_rfl) (fun _ _ _ h => h) (Or.inl ⟨by kernel_rfl, fun W hW => ?y28⟩) hHeld ?r28
          · skip
            go_simp
          refine' wpAnyH_take (i := 1) (v := .int .i64 k) rfl (by kernel_rfl) (by kernel_rfl) (by kernel_rfl) (fun _ _ _ h => h) (Or.inl ⟨by kernel_rfl, fun W hW => ?y29⟩) hHeld ?r29
          · skip
            go_simp
          refine' wpAnyH_take (i := 2) (v := .pointer (some ⟨lb, k, none⟩)) rfl (by kernel_rfl) (by kernel_rfl) (by kernel_rfl) (fun _ _ _ h => h) (Or.inl ⟨by kernel_rfl, fun W hW => ?y30⟩) hHeld ?r30
          · skip
            go_simp
          refine' wpAnyH_take (i := 3) (v := .slice ta tn tc) rfl (by kernel_rfl) (by kernel_rfl) (by kernel_rfl) (fun _ _ _ h => h) (Or.inl ⟨by kernel_rfl, fun W hW => ?y31⟩) hHeld ?r31
          · have cl := hW.keep cl (fun q => q)
            go_simp
          refine' wpAnyH_take (i := 4) (v := .string PS) rfl (by kernel_rfl) (by kernel_rfl) (by kernel_rfl) (fun _ _ _ h => h) (Or.inl ⟨by kernel_rfl, fun W hW => ?y32⟩) hHeld ?r32
          · have x1 := X1 W hW
            go_simp
          refine' wpAnyH_take (i := 5) (v := .slice pa pl pc) rfl (by kernel_rfl) (by kernel_rfl) (by kernel_rfl) (fun _ _ _ h => h) (Or.inl ⟨by kernel_rfl, fun W hW => ?y33⟩) hHeld ?r33
          · skip
            go_simp
          refine' wpAnyH_take (i := 6) (v := .string PS) rfl (by kernel_rfl) (by kernel_rfl) (by kernel_rfl) (fun _ _ _ h => h) (Or.inl ⟨by kernel_rfl, fun W hW => ?y34⟩) hHeld ?r34
          · have x1 := XP W hW
            go_simp
          refine' wpAnyH_take (i := 7) (v := .bool true) rfl (by kernel_rfl) (by kernel_rfl) (by kernel_rfl) (fun _ _ _ h => h) (Or.inl ⟨by kernel_rfl, fun W hW => ?y35⟩) hHeld ?r35
          · skip
            go_simp
          refine' wpAnyH_take (i := 8) (v := .bool true) rfl (by kernel_rfl) (by kernel_rfl) (by kernel_rfl) (fun _ _ _ h => h) (Or.inl ⟨by kernel_rfl, fun W hW => ?y36⟩) hHeld ?r36
          · skip
            go_simp
          refine' wpAnyH_take (i := 9) (v := undef) rfl (by kernel_rfl) (by kernel_rfl) (by kernel_rfl) (fun _ _ _ h => h) (Or.inr ⟨by kernel_rfl, rfl⟩) hHeld ?r37
          refine' wpAnyH_take (i := 10) (v := undef) rfl (by kernel_rfl) (by kernel_rfl) (by kernel_rfl) (fun _ _ _ h => h) (Or.inr ⟨by kernel_rfl, rfl⟩) hHeld ?r38
          refine' wpAnyH_take (i := 11) (v := undef) rfl (by kernel_rfl) (by kernel_rfl) (by kernel_rfl) (fun _ _ _ h => h) (Or.inr ⟨by kernel_rfl, rfl⟩) hHeld ?r39
          refine' wpAnyH_take (i := 12) (v := undef) rfl (by kernel_rfl) (by kernel_rfl) (by kernel_rfl) (fun _ _ _ h => h) (Or.inr ⟨by kernel_rfl, rfl⟩) hHeld ?r40
          refine' wpAnyH_take (i := 13) (v := undef) rfl (by kernel_rfl) (by kernel_rfl) (by kernel_rfl) (fun _ _ _ h => h) (Or.inr ⟨by kernel_rfl, rfl⟩) hHeld ?r41
          refine' wpAnyH_take (i := 14) (v := undef) rfl (by kernel_rfl) (by kernel_rfl) (by kernel_rfl) (fun _ _ _ h => h) (Or.inr ⟨by kernel_rfl, rfl⟩) hHeld ?r42
          refine' wpAnyH_take (i := 15) (v := undef) rfl (by kernel_rfl) (by kernel_rfl) (by kernel_rfl) (fun _ _ _ h => h) (Or.inr ⟨by kernel_rfl, rfl⟩) hHeld ?r43
          refine' wpAnyH_take (i := 16) (v := undef) rfl (by kernel_rfl) (by kernel_rfl) (by kernel_rfl) (fun _ _ _ h => h) (Or.inr ⟨by kernel_rfl, rfl⟩) hHeld ?r44
          refine' wpAnyH_take (i := 17) (v := .bool true) rfl (by kernel_rfl) (by kernel_rfl) (by kernel_rfl) (fun _ _ _ h => h) (Or.inl ⟨by kernel_rfl, fun W hW => ?y45⟩) hHeld ?r45
          · skip
            go_simp
          refine wpAnyH_done (by kernel_rfl) ?_ _
          go_simp
          go_wp2_with fail
          refine ⟨⟨k + 1, m + 1, by omega, by omega, by go_num, by go_num, HE⟩, ?_⟩
          simp [intOf]; omega
        · have hne1 : ¬ (⟨t.2.toArray⟩ : ByteArray).toList = (⟨PB.toArray⟩ : ByteArray).toList := inj hP
          by_cases hQ : t.2 = QB
          · have HE : Shut (m + 1 = ((ts.map (·.2)).take (k + 1)).countP (isPQ PB QB) ∧ Turn no w11 wr.drew) := ⟨by rw [HST.out, if_pos (by simp [isPQ, hQ])], HTD.out⟩
            rw [hQ] at X1 hne1
            clear HML hck2 hcl hown hbs ht hmm hI hstep HST inj OB9 OB10 HTD T hP
            generalize (⟨PB.toArray⟩ : ByteArray) = PS at *
            generalize (⟨QB.toArray⟩ : ByteArray) = QS at *
            go_upto_region 24 with fail
            refine wp_region_held_drew (S := fun W => Turn no wr W) (by kernel_rfl) (Turn.refl _ wr).drew (fun hHeld => ?_)
            refine' wpAnyH_take (i := 0) (v := .slice (some ⟨lb, 0, none⟩) n2 lc) rfl (by kernel_rfl) (by kernel_rfl) (by kernel_rfl) (fun _ _ _ h => h) (Or.inl ⟨by kernel_rfl, fun W hW => ?y46⟩) hHeld ?r46
            · skip
              go_simp
            refine' wpAnyH_take (i := 1) (v := .int .i64 k) rfl (by kernel_rfl) (by kernel_rfl) (by kernel_rfl) (fun _ _ _ h => h) (Or.inl ⟨by kernel_rfl, fun W hW => ?y47⟩) hHeld ?r47
            · skip
              go_simp
            refine' wpAnyH_take (i := 2) (v := .pointer (some ⟨lb, k, none⟩)) rfl (by kernel_rfl) (by kernel_rfl) (by kernel_rfl) (fun _ _ _ h => h) (Or.inl ⟨by kernel_rfl, fun W hW => ?y48⟩) hHeld ?r48
            · skip
              go_simp
            refine' wpAnyH_take (i := 3) (v := .slice ta tn tc) rfl (by kernel_rfl) (by kernel_rfl) (by kernel_rfl) (fun _ _ _ h => h) (Or.inl ⟨by kernel_rfl, fun W hW => ?y49⟩) hHeld ?r49
            · have cl := hW.keep cl (fun q => q)
              go_simp
            refine' wpAnyH_take (i := 4) (v := .string QS) rfl (by kernel_rfl) (by kernel_rfl) (by kernel_rfl) (fun _ _ _ h => h) (Or.inl ⟨by kernel_rfl, fun W hW => ?y50⟩) hHeld ?r50
            · have x1 := X1 W hW
              go_simp
            refine' wpAnyH_take (i := 5) (v := .slice pa pl pc) rfl (by kernel_rfl) (by kernel_rfl) (by kernel_rfl) (fun _ _ _ h => h) (Or.inl ⟨by kernel_rfl, fun W hW => ?y51⟩) hHeld ?r51
            · skip
              go_simp
            refine' wpAnyH_take (i := 6) (v := .string PS) rfl (by kernel_rfl) (by kernel_rfl) (by kernel_rfl) (fun _ _ _ h => h) (Or.inl ⟨by kernel_rfl, fun W hW => ?y52⟩) hHeld ?r52
            · have x1 := XP W hW
              go_simp
            refine' wpAnyH_take (i := 7) (v := .bool false) rfl (by kernel_rfl) (by kernel_rfl) (by kernel_rfl) (fun _ _ _ h => h) (Or.inl ⟨by kernel_rfl, fun W hW => ?y53⟩) hHeld ?r53
            · have hn1 := hne1
              go_simp
              try exact hne1
            refine' wpAnyH_take (i := 8) (v := .bool false) rfl (by kernel_rfl) (by kernel_rfl) (by kernel_rfl) (fun _ _ _ h => h) (Or.inl ⟨by kernel_rfl, fun W hW => ?y54⟩) hHeld ?r54
            · skip
              go_simp
            refine' wpAnyH_take (i := 9) (v := .slice (some ⟨lb, 0, none⟩) n2 lc) rfl (by kernel_rfl) (by kernel_rfl) (by kernel_rfl) (fun _ _ _ h => h) (Or.inl ⟨by kernel_rfl, fun W hW => ?y55⟩) hHeld ?r55
            · skip
              go_simp
            refine' wpAnyH_take (i := 10) (v := .int .i64 k) rfl (by kernel_rfl) (by kernel_rfl) (by kernel_rfl) (fun _ _ _ h => h) (Or.inl ⟨by kernel_rfl, fun W hW => ?y56⟩) hHeld ?r56
            · skip
              go_simp
            refine' wpAnyH_take (i := 11) (v := .pointer (some ⟨lb, k, none⟩)) rfl (by kernel_rfl) (by kernel_rfl) (by kernel_rfl) (fun _ _ _ h => h) (Or.inl ⟨by kernel_rfl, fun W hW => ?y57⟩) hHeld ?r57
            · skip
              go_simp
            refine' wpAnyH_take (i := 12) (v := .slice ta tn tc) rfl (by kernel_rfl) (by kernel_rfl) (by kernel_rfl) (fun _ _ _ h => h) (Or.inl ⟨by kernel_rfl, fun W hW => ?y58⟩) hHeld ?r58
            · have cl := hW.keep cl (fun q => q)
              go_simp
            refine' wpAnyH_take (i := 13) (v := .string QS) rfl (by kernel_rfl) (by kernel_rfl) (by kernel_rfl) (fun _ _ _ h => h) (Or.inl ⟨by kernel_rfl, fun W hW => ?y59⟩) hHeld ?r59
            · have x1 := X1 W hW
              go_simp
            refine' wpAnyH_take (i := 14) (v := .slice qa ql qc) rfl (by kernel_rfl) (by kernel_rfl) (by kernel_rfl) (fun _ _ _ h => h) (Or.inl ⟨by kernel_rfl, fun W hW => ?y60⟩) hHeld ?r60
            · skip
              go_simp
            refine' wpAnyH_take (i := 15) (v := .string QS) rfl (by kernel_rfl) (by kernel_rfl) (by kernel_rfl) (fun _ _ _ h => h) (Or.inl ⟨by kernel_rfl, fun W hW => ?y61⟩) hHeld ?r61
            · have x1 := XQ W hW
              go_simp
            refine' wpAnyH_take (i := 16) (v := .bool true) rfl (by kernel_rfl) (by kernel_rfl) (by kernel_rfl) (fun _ _ _ h => h) (Or.inl ⟨by kernel_rfl, fun W hW => ?y62⟩) hHeld ?r62
            · skip
              go_simp
            refine' wpAnyH_take (i := 17) (v := .bool true) rfl (by kernel_rfl) (by kernel_rfl) (by kernel_rfl) (fun _ _ _ h => h) (Or.inl ⟨by kernel_rfl, fun W hW => ?y63⟩) hHeld ?r63
            · skip
              go_simp
            refine wpAnyH_done (by kernel_rfl) ?_ _
            go_simp
            go_wp2_with fail
            refine ⟨⟨k + 1, m + 1, by omega, by omega, by go_num, by go_num, HE⟩, ?_⟩
            simp [intOf]; omega
          · have hne2 : ¬ (⟨t.2.toArray⟩ : ByteArray).toList = (⟨QB.toArray⟩ : ByteArray).toList := inj hQ
            have HE : Shut (m = ((ts.map (·.2)).take (k + 1)).countP (isPQ PB QB) ∧ Turn no w11 wr.drew) := ⟨by rw [HST.out, if_neg (by simp [isPQ, hP, hQ])]; rfl, HTD.out⟩
            clear HML hck2 hcl hown hbs ht hmm hI hstep HST inj OB9 OB10 HTD T hP hQ
            generalize (⟨PB.toArray⟩ : ByteArray) = PS at *
            generalize (⟨QB.toArray⟩ : ByteArray) = QS at *
            generalize (⟨t.2.toArray⟩ : ByteArray) = SB at *
            go_upto_region 24 with fail
            refine wp_region_held_drew (S := fun W => Turn no wr W) (by kernel_rfl) (Turn.refl _ wr).drew (fun hHeld => ?_)
            refine' wpAnyH_take (i := 0) (v := .slice (some ⟨lb, 0, none⟩) n2 lc) rfl (by kernel_rfl) (by kernel_rfl) (by kernel_rfl) (fun _ _ _ h => h) (Or.inl ⟨by kernel_rfl, fun W hW => ?y64⟩) hHeld ?r64
            · skip
              go_simp
            refine' wpAnyH_take (i := 1) (v := .int .i64 k) rfl (by kernel_rfl) (by kernel_rfl) (by kernel_rfl) (fun _ _ _ h => h) (Or.inl ⟨by kernel_rfl, fun W hW => ?y65⟩) hHeld ?r65
            · skip
              go_simp
            refine' wpAnyH_take (i := 2) (v := .pointer (some ⟨lb, k, none⟩)) rfl (by kernel_rfl) (by kernel_rfl) (by kernel_rfl) (fun _ _ _ h => h) (Or.inl ⟨by kernel_rfl, fun W hW => ?y66⟩) hHeld ?r66
            · skip
              go_simp
            refine' wpAnyH_take (i := 3) (v := .slice ta tn tc) rfl (by kernel_rfl) (by kernel_rfl) (by kernel_rfl) (fun _ _ _ h => h) (Or.inl ⟨by kernel_rfl, fun W hW => ?y67⟩) hHeld ?r67
            · have cl := hW.keep cl (fun q => q)
              go_simp
            refine' wpAnyH_take (i := 4) (v := .string SB) rfl (by kernel_rfl) (by kernel_rfl) (by kernel_rfl) (fun _ _ _ h => h) (Or.inl ⟨by kernel_rfl, fun W hW => ?y68⟩) hHeld ?r68
            · have x1 := X1 W hW
              go_simp
            refine' wpAnyH_take (i := 5) (v := .slice pa pl pc) rfl (by kernel_rfl) (by kernel_rfl) (by kernel_rfl) (fun _ _ _ h => h) (Or.inl ⟨by kernel_rfl, fun W hW => ?y69⟩) hHeld ?r69
            · skip
              go_simp
            refine' wpAnyH_take (i := 6) (v := .string PS) rfl (by kernel_rfl) (by kernel_rfl) (by kernel_rfl) (fun _ _ _ h => h) (Or.inl ⟨by kernel_rfl, fun W hW => ?y70⟩) hHeld ?r70
            · have x1 := XP W hW
              go_simp
            refine' wpAnyH_take (i := 7) (v := .bool false) rfl (by kernel_rfl) (by kernel_rfl) (by kernel_rfl) (fun _ _ _ h => h) (Or.inl ⟨by kernel_rfl, fun W hW => ?y71⟩) hHeld ?r71
            · have hn1 := hne1
              go_simp
              try exact hne1
            refine' wpAnyH_take (i := 8) (v := .bool false) rfl (by kernel_rfl) (by kernel_rfl) (by kernel_rfl) (fun _ _ _ h => h) (Or.inl ⟨by kernel_rfl, fun W hW => ?y72⟩) hHeld ?r72
            · skip
              go_simp
            refine' wpAnyH_take (i := 9) (v := .slice (some ⟨lb, 0, none⟩) n2 lc) rfl (by kernel_rfl) (by kernel_rfl) (by kernel_rfl) (fun _ _ _ h => h) (Or.inl ⟨by kernel_rfl, fun W hW => ?y73⟩) hHeld ?r73
            · skip
              go_simp
            refine' wpAnyH_take (i := 10) (v := .int .i64 k) rfl (by kernel_rfl) (by kernel_rfl) (by kernel_rfl) (fun _ _ _ h => h) (Or.inl ⟨by kernel_rfl, fun W hW => ?y74⟩) hHeld ?r74
            · skip
              go_simp
            refine' wpAnyH_take (i := 11) (v := .pointer (some ⟨lb, k, none⟩)) rfl (by kernel_rfl) (by kernel_rfl) (by kernel_rfl) (fun _ _ _ h => h) (Or.inl ⟨by kernel_rfl, fun W hW => ?y75⟩) hHeld ?r75
            · skip
              go_simp
            refine' wpAnyH_take (i := 12) (v := .slice ta tn tc) rfl (by kernel_rfl) (by kernel_rfl) (by kernel_rfl) (fun _ _ _ h => h) (Or.inl ⟨by kernel_rfl, fun W hW => ?y76⟩) hHeld ?r76
            · have cl := hW.keep cl (fun q => q)
              go_simp
            refine' wpAnyH_take (i := 13) (v := .string SB) rfl (by kernel_rfl) (by kernel_rfl) (by kernel_rfl) (fun _ _ _ h => h) (Or.inl ⟨by kernel_rfl, fun W hW => ?y77⟩) hHeld ?r77
            · have x1 := X1 W hW
              go_simp
            refine' wpAnyH_take (i := 14) (v := .slice qa ql qc) rfl (by kernel_rfl) (by kernel_rfl) (by kernel_rfl) (fun _ _ _ h => h) (Or.inl ⟨by kernel_rfl, fun W hW => ?y78⟩) hHeld ?r78
            · skip
              go_simp
            refine' wpAnyH_take (i := 15) (v := .string QS) rfl (by kernel_rfl) (by kernel_rfl) (by kernel_rfl) (fun _ _ _ h => h) (Or.inl ⟨by kernel_rfl, fun W hW => ?y79⟩) hHeld ?r79
            · have x1 := XQ W hW
              go_simp
            refine' wpAnyH_take (i := 16) (v := .bool false) rfl (by kernel_rfl) (by kernel_rfl) (by kernel_rfl) (fun _ _ _ h => h) (Or.inl ⟨by kernel_rfl, fun W hW => ?y80⟩) hHeld ?r80
            · have hn2 := hne2
              go_simp
              try exact hne2
            refine' wpAnyH_take (i := 17) (v := .bool false) rfl (by kernel_rfl) (by kernel_rfl) (by kernel_rfl) (fun _ _ _ h => h) (Or.inl ⟨by kernel_rfl, fun W hW => ?y81⟩) hHeld ?r81
            · skip
              go_simp
            refine wpAnyH_done (by kernel_rfl) ?_ _
            go_simp
            go_wp2_with fail
            refine ⟨⟨k + 1, m, by omega, by omega, by go_num, by go_num, HE⟩, ?_⟩
            simp [intOf]; omega
      · have hkn : k = n2 := by omega
        subst hkn
        have hlt' : ¬ (k : Int) < (k : Int) := by omega
        obtain ⟨hmm, T⟩ := hI.out
        have hm2 : m = 2 := hmm.trans hck2.out
        subst hm2
        clear hlt hmm
        go_wp2_with fail
        go_ret
        exact ⟨rfl, HT11.out.then_no T⟩
  · have hz' : (vE != 0) = true := by simpa using hz
    clear HEVI HR7 HRA HFT hz
    go_wp2_with fail
    go_ret
    exact ⟨rfl, T8⟩
end Go.Proofs.YtmghliakheniiaaGreatDoor
