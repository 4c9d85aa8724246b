/- The walk of DigestFresh. -/
import Derived.Test.YtnibmkenbidnfaaDoorL1
namespace Go.Proofs.YtnibmkenbidnfaaDoor
open Go.RowKit
set_option linter.unusedVariables false

set_option maxRecDepth 100000 in
set_option maxHeartbeats 40000000 in
theorem fresh7 (w : World) (l : Its) (a : Option Addr) (ca : Nat) (i o : Int) (hA : BlAt w a ca l) (hl0 : Laid0 w) (hl1 : Laid1 w) :
    Calls Tryd.prog 7 #[.slice a l.length ca, .int .i64 i, .int .i64 o] w fun e w' => e = .returned (.bool true) ∧ Turn no w w' := by
  have h2 : 2 ≤ w.heap.size := World.block_lt_of_cell? w _ (hl1 0 (by omega))
  have hal := alive_any w hl1 h2
  have P22 : Shut (∀ W i, Turn no w W → Calls Tryd.prog 22 #[.slice a l.length ca, .int .i64 i] W (Pv W l i)) := fun W i T => prove14 W a ca l i (hA.turn_no T) (hl1.turn T (fun q => q)) (by have := T.size; omega)
  have P23 : Shut (∀ W i, Turn no w W → Calls Tryd.prog 23 #[.slice a l.length ca, .int .i64 i] W (Pv W l i)) := fun W i T => prove15 W a ca l i (hA.turn_no T) (hl0.turn T (fun q => q)) (by have := T.size; omega)
  have HPi : Shut (∀ W W' e, Pv W l i e W' → ∃ v, e = .returned (.tuple #[.agg #[.int .i64 (prT l i), .int .i64 (prI l i), v], .int .i64 (prE l i)]) ∧ OwnN W' 35 32 v (prA l i).length (hsF (prA l i)) ∧ (∀ g, v.ownBlock = some g → W.heap.size ≤ g) ∧ Turn no W W') := fun W W' e h => h
  have HPo : Shut (∀ W W' e, Pv W l o e W' → ∃ v, e = .returned (.tuple #[.agg #[.int .i64 (prT l o), .int .i64 (prI l o), v], .int .i64 (prE l o)]) ∧ OwnN W' 35 32 v (prA l o).length (hsF (prA l o)) ∧ (∀ g, v.ownBlock = some g → W.heap.size ≤ g) ∧ Turn no W W') := fun W W' e h => h
  have SMi : Shut (∀ W b c b' c', HsAt W b c (prA l i) → HsAt W b' c' (prA l i) → Calls Tryd.prog 24 #[.agg #[.int .i64 (prT l i), .int .i64 (prI l i), .slice b (prA l i).length c], .agg #[.int .i64 (prT l i), .int .i64 (prI l i), .slice b' (prA l i).length c']] W fun e w' => e = .returned (.bool true) ∧ Turn no W w') := fun W b c b' c' q q' => same24 W _ _ _ b c b' c' q q'
  have SMo : Shut (∀ W b c b' c', HsAt W b c (prA l o) → HsAt W b' c' (prA l o) → Calls Tryd.prog 24 #[.agg #[.int .i64 (prT l o), .int .i64 (prI l o), .slice b (prA l o).length c], .agg #[.int .i64 (prT l o), .int .i64 (prI l o), .slice b' (prA l o).length c']] W fun e w' => e = .returned (.bool true) ∧ Turn no W w') := fun W b c b' c' q q' => same24 W _ _ _ b c b' c' q q'
  have KA := shut (prA_all l i)
  have KC := shut (prA_all l o)
  have LA := shut (prA_le l i)
  have LC := shut (prA_le l o)
  clear hA hl0 hl1 h2
  generalize prA l i = A at *
  generalize prA l o = C at *
  generalize prT l i = pt at *
  generalize prI l i = pi at *
  generalize prE l i = pe at *
  generalize prT l o = qt at *
  generalize prI l o = qi at *
  generalize prE l o = qe at *
  obtain ⟨nA, hnA⟩ : ∃ nA, Hid (A.length = nA) := ⟨_, rfl⟩
  obtain ⟨nC, hnC⟩ : ∃ nC, Hid (C.length = nC) := ⟨_, rfl⟩
  rw [show A.length = nA from hnA.out] at HPi SMi LA
  rw [show C.length = nC from hnC.out] at HPo SMo LC
  generalize l.length = n at *
  have e1 : (pe != pe) = false := by simp
  have e2 : (pe == pe) = true := by simp
  go_enter Tryd.func7, Tryd.ntmps7
  go_upto_region 4 with (go_at_call 10; refine hal.mono ?_; clear hal; rintro e w1 ⟨rfl, T1⟩)
  have p0 := P22.out w1 i T1
  go_upto_region 5 with (first | (go_at_call 22; refine p0.mono ?_; clear p0; intro e wc0 hh; obtain ⟨x0, rfl, O0, f0, tc0⟩ := HPi.out _ _ _ hh; clear hh; obtain ⟨b0, c0, rfl, _⟩ := O0.form; have hl0 : (#[Value.int .i64 pt, .int .i64 pi, .slice b0 nA c0].all (·.oneCell')) = true := by simp [Value.oneCell']) | (guard_target =~ wpList _ _ _ ({ dst := _, op := Op.store 52 _ _, .. } :: _) _ _; refine wpList_store_anyN rfl rfl 52 (.tmp 8) (.tmp 37) rfl _ #[.int .i64 pt, .int .i64 pi, .slice b0 nA c0] rfl rfl 52 #[.int .i64 0, .int .i64 0, .slice none 0 0] (Row.new _ _ 52) size34 rfl hl0 ?_; intro ws0 R0 ts0))
  have u0 : Turn (fun q => q = wc0.heap.size) wc0 ws0 := ((Turn.refl no wc0).alloc _).of_no.trans ts0 (fun _ _ e => e)
  have O0 := O0.turn u0 (fun g hg q => by have := O0.lt hg; omega)
  have t0 := tc0.trans u0 (fun i hi e => by have := tc0.size; omega)
  have T0 := T1.then_no t0
  clear u0 tc0 ts0 hl0
  generalize wc0.heap.size = g0 at *
  have y0 : Shut (∀ g, Value.ownBlock (.slice b0 nA c0) = some g → g < ws0.heap.size) := fun g hg => O0.lt hg
  have F0 := shut f0
  clear f0
  have p2 := P22.out ws0 i T0
  go_upto_region 6 with (first | (go_at_call 22; refine p2.mono ?_; clear p2; intro e wc2 hh; obtain ⟨x2, rfl, O2, f2, tc2⟩ := HPi.out _ _ _ hh; clear hh; obtain ⟨b2, c2, rfl, _⟩ := O2.form; have hl2 : (#[Value.int .i64 pt, .int .i64 pi, .slice b2 nA c2].all (·.oneCell')) = true := by simp [Value.oneCell']) | (guard_target =~ wpList _ _ _ ({ dst := _, op := Op.store 52 _ _, .. } :: _) _ _; refine wpList_store_anyN rfl rfl 52 (.tmp 10) (.tmp 43) rfl _ #[.int .i64 pt, .int .i64 pi, .slice b2 nA c2] rfl rfl 52 #[.int .i64 0, .int .i64 0, .slice none 0 0] (Row.new _ _ 52) size34 rfl hl2 ?_; intro ws2 R2 ts2))
  have u2 : Turn (fun q => q = wc2.heap.size) wc2 ws2 := ((Turn.refl no wc2).alloc _).of_no.trans ts2 (fun _ _ e => e)
  have O2 := O2.turn u2 (fun g hg q => by have := O2.lt hg; omega)
  have t2 := tc2.trans u2 (fun i hi e => by have := tc2.size; omega)
  have T2 := T0.then_no t2
  clear u2 tc2 ts2 hl2
  generalize wc2.heap.size = g2 at *
  have y2 : Shut (∀ g, Value.ownBlock (.slice b2 nA c2) = some g → g < ws2.heap.size) := fun g hg => O2.lt hg
  have F2 := shut f2
  clear f2
  replace R0 := Row.turn R0 t2 (fun q => q)
  replace O0 := O0.turn_no t2
  have p3 := P22.out ws2 o T2
  go_upto_region 7 with (first | (go_at_call 22; refine p3.mono ?_; clear p3; intro e wc3 hh; obtain ⟨x3, rfl, O3, f3, tc3⟩ := HPo.out _ _ _ hh; clear hh; obtain ⟨b3, c3, rfl, _⟩ := O3.form; have hl3 : (#[Value.int .i64 qt, .int .i64 qi, .slice b3 nC c3].all (·.oneCell')) = true := by simp [Value.oneCell']) | (guard_target =~ wpList _ _ _ ({ dst := _, op := Op.store 52 _ _, .. } :: _) _ _; refine wpList_store_anyN rfl rfl 52 (.tmp 12) (.tmp 49) rfl _ #[.int .i64 qt, .int .i64 qi, .slice b3 nC c3] rfl rfl 52 #[.int .i64 0, .int .i64 0, .slice none 0 0] (Row.new _ _ 52) size34 rfl hl3 ?_; intro ws3 R3 ts3))
  have u3 : Turn (fun q => q = wc3.heap.size) wc3 ws3 := ((Turn.refl no wc3).alloc _).of_no.trans ts3 (fun _ _ e => e)
  have O3 := O3.turn u3 (fun g hg q => by have := O3.lt hg; omega)
  have t3 := tc3.trans u3 (fun i hi e => by have := tc3.size; omega)
  have T3 := T2.then_no t3
  clear u3 tc3 ts3 hl3
  generalize wc3.heap.size = g3 at *
  have y3 : Shut (∀ g, Value.ownBlock (.slice b3 nC c3) = some g → g < ws3.heap.size) := fun g hg => O3.lt hg
  have F3 := shut f3
  clear f3
  replace R0 := Row.turn R0 t3 (fun q => q)
  replace O0 := O0.turn_no t3
  replace R2 := Row.turn R2 t3 (fun q => q)
  replace O2 := O2.turn_no t3
  have p4 := P23.out ws3 i T3
  go_upto_region 8 with (first | (go_at_call 23; refine p4.mono ?_; clear p4; intro e wc4 hh; obtain ⟨x4, rfl, O4, f4, tc4⟩ := HPi.out _ _ _ hh; clear hh; obtain ⟨b4, c4, rfl, _⟩ := O4.form; have hl4 : (#[Value.int .i64 pt, .int .i64 pi, .slice b4 nA c4].all (·.oneCell')) = true := by simp [Value.oneCell']) | (guard_target =~ wpList _ _ _ ({ dst := _, op := Op.store 52 _ _, .. } :: _) _ _; refine wpList_store_anyN rfl rfl 52 (.tmp 14) (.tmp 55) rfl _ #[.int .i64 pt, .int .i64 pi, .slice b4 nA c4] rfl rfl 52 #[.int .i64 0, .int .i64 0, .slice none 0 0] (Row.new _ _ 52) size34 rfl hl4 ?_; intro ws4 R4 ts4))
  have u4 : Turn (fun q => q = wc4.heap.size) wc4 ws4 := ((Turn.refl no wc4).alloc _).of_no.trans ts4 (fun _ _ e => e)
  have O4 := O4.turn u4 (fun g hg q => by have := O4.lt hg; omega)
  have t4 := tc4.trans u4 (fun i hi e => by have := tc4.size; omega)
  have T4 := T3.then_no t4
  clear u4 tc4 ts4 hl4
  generalize wc4.heap.size = g4 at *
  have y4 : Shut (∀ g, Value.ownBlock (.slice b4 nA c4) = some g → g < ws4.heap.size) := fun g hg => O4.lt hg
  have F4 := shut f4
  clear f4
  replace R0 := Row.turn R0 t4 (fun q => q)
  replace O0 := O0.turn_no t4
  replace R2 := Row.turn R2 t4 (fun q => q)
  replace O2 := O2.turn_no t4
  replace R3 := Row.turn R3 t4 (fun q => q)
  replace O3 := O3.turn_no t4
  have p5 := P23.out ws4 o T4
  go_upto_region 9 with (first | (go_at_call 23; refine p5.mono ?_; clear p5; intro e wc5 hh; obtain ⟨x5, rfl, O5, f5, tc5⟩ := HPo.out _ _ _ hh; clear hh; obtain ⟨b5, c5, rfl, _⟩ := O5.form; have hl5 : (#[Value.int .i64 qt, .int .i64 qi, .slice b5 nC c5].all (·.oneCell')) = true := by simp [Value.oneCell']) | (guard_target =~ wpList _ _ _ ({ dst := _, op := Op.store 52 _ _, .. } :: _) _ _; refine wpList_store_anyN rfl rfl 52 (.tmp 16) (.tmp 61) rfl _ #[.int .i64 qt, .int .i64 qi, .slice b5 nC c5] rfl rfl 52 #[.int .i64 0, .int .i64 0, .slice none 0 0] (Row.new _ _ 52) size34 rfl hl5 ?_; intro ws5 R5 ts5))
  have u5 : Turn (fun q => q = wc5.heap.size) wc5 ws5 := ((Turn.refl no wc5).alloc _).of_no.trans ts5 (fun _ _ e => e)
  have O5 := O5.turn u5 (fun g hg q => by have := O5.lt hg; omega)
  have t5 := tc5.trans u5 (fun i hi e => by have := tc5.size; omega)
  have T5 := T4.then_no t5
  clear u5 tc5 ts5 hl5
  generalize wc5.heap.size = g5 at *
  have y5 : Shut (∀ g, Value.ownBlock (.slice b5 nC c5) = some g → g < ws5.heap.size) := fun g hg => O5.lt hg
  have F5 := shut f5
  clear f5
  replace R0 := Row.turn R0 t5 (fun q => q)
  replace O0 := O0.turn_no t5
  replace R2 := Row.turn R2 t5 (fun q => q)
  replace O2 := O2.turn_no t5
  replace R3 := Row.turn R3 t5 (fun q => q)
  replace O3 := O3.turn_no t5
  replace R4 := Row.turn R4 t5 (fun q => q)
  replace O4 := O4.turn_no t5
  have sz0 := t2.size
  have sz2 := t3.size
  have sz3 := t4.size
  have d01 : Shut (∀ g, Value.ownBlock (.slice b0 nA c0) = some g → ¬ Value.ownBlock (.slice b2 nA c2) = some g) := fun g h q => by have := y0.out g h; have := F2.out g q; omega
  have d02 : Shut (∀ g, Value.ownBlock (.slice b0 nA c0) = some g → ¬ Value.ownBlock (.slice b3 nC c3) = some g) := fun g h q => by have := y0.out g h; have := F3.out g q; omega
  have d12 : Shut (∀ g, Value.ownBlock (.slice b2 nA c2) = some g → ¬ Value.ownBlock (.slice b3 nC c3) = some g) := fun g h q => by have := y2.out g h; have := F3.out g q; omega
  have s1 := T1.size
  have s0 := T0.size
  have s2 := T2.size
  have B0 : Shut (∀ g, Value.ownBlock (.slice b0 nA c0) = some g → w.heap.size ≤ g ∧ g < ws3.heap.size) := fun g h => by have := F0.out g h; have := y0.out g h; omega
  have B2 : Shut (∀ g, Value.ownBlock (.slice b2 nA c2) = some g → w.heap.size ≤ g ∧ g < ws3.heap.size) := fun g h => by have := F2.out g h; have := y2.out g h; omega
  have B3 : Shut (∀ g, Value.ownBlock (.slice b3 nC c3) = some g → w.heap.size ≤ g ∧ g < ws3.heap.size) := fun g h => by have := F3.out g h; have := y3.out g h; omega
  clear sz0 sz2 sz3 s1 s0 s2 y0 y2 y3 y4 y5 F0 F2 F3 F5
  obtain ⟨z0a, z0c, e0, h0⟩ := OwnN.hsAt (l := A) O0 hnA.out.symm KA.out
  cases e0
  obtain ⟨z2a, z2c, e0, h2⟩ := OwnN.hsAt (l := A) O2 hnA.out.symm KA.out
  cases e0
  obtain ⟨z3a, z3c, e0, h3⟩ := OwnN.hsAt (l := C) O3 hnC.out.symm KC.out
  cases e0
  obtain ⟨z4a, z4c, e0, h4⟩ := OwnN.hsAt (l := A) O4 hnA.out.symm KA.out
  cases e0
  obtain ⟨z5a, z5c, e0, h5⟩ := OwnN.hsAt (l := C) O5 hnC.out.symm KC.out
  cases e0
  have a1 := SMi.out ws5 _ _ _ _ h0 h4
  have A2 : Shut (∀ W, Turn no ws5 W → Calls Tryd.prog 24 #[.agg #[.int .i64 pt, .int .i64 pi, .slice b2 nA c2], .agg #[.int .i64 pt, .int .i64 pi, .slice b4 nA c4]] W fun e w' => e = .returned (.bool true) ∧ Turn no W w') := fun W t => SMi.out W _ _ _ _ (h2.turn_no t) (h4.turn_no t)
  have A3 : Shut (∀ W, Turn no ws5 W → Calls Tryd.prog 24 #[.agg #[.int .i64 qt, .int .i64 qi, .slice b3 nC c3], .agg #[.int .i64 qt, .int .i64 qi, .slice b5 nC c5]] W fun e w' => e = .returned (.bool true) ∧ Turn no W w') := fun W t => SMo.out W _ _ _ _ (h3.turn_no t) (h5.turn_no t)
  have r0 := shut (Row.rng R0)
  have r2 := shut (Row.rng R2)
  have r3 := shut (Row.rng R3)
  have r4 := shut (Row.rng R4)
  have r5 := shut (Row.rng R5)
  have K4 := shut O4
  clear h0 h2 h3 h4 h5 O4 O5 SMo
  go_upto_region 11 with (first | (guard_target =~ wpList _ _ _ ({ dst := some 67, op := Op.load 52 _, .. } :: _) _ _; refine wpList_load_midG (by kernel_rfl) 52 (.tmp 8) rfl g0 0 rfl _ _ r0.out Tryd.underlying52 rfl size34 ?_) | (guard_target =~ wpList _ _ _ ({ dst := some 68, op := Op.load 52 _, .. } :: _) _ _; refine wpList_load_midG (by kernel_rfl) 52 (.tmp 14) rfl g4 0 rfl _ _ r4.out Tryd.underlying52 rfl size34 ?_) | (go_at_call 24; refine a1.mono ?_; clear a1; rintro e w11 ⟨rfl, t11⟩; have a2 := A2.out w11 t11; have r2' := Row.rng (Row.turn R2 t11 (fun q => q)); have r4' := Row.rng (Row.turn R4 t11 (fun q => q))) | (guard_target =~ wpList _ _ _ ({ dst := some 73, op := Op.load 52 _, .. } :: _) _ _; refine wpList_load_midG (by kernel_rfl) 52 (.tmp 10) rfl g2 0 rfl _ _ r2' Tryd.underlying52 rfl size34 ?_) | (guard_target =~ wpList _ _ _ ({ dst := some 74, op := Op.load 52 _, .. } :: _) _ _; refine wpList_load_midG (by kernel_rfl) 52 (.tmp 14) rfl g4 0 rfl _ _ r4' Tryd.underlying52 rfl size34 ?_) | (go_at_call 24; refine a2.mono ?_; clear a2; rintro e w12 ⟨rfl, t12⟩; have a3 := A3.out w12 (t11.then_no t12); have r3' := Row.rng (Row.turn R3 (t11.then_no t12) (fun q => q)); have r5' := Row.rng (Row.turn R5 (t11.then_no t12) (fun q => q))) | (guard_target =~ wpList _ _ _ ({ dst := some 79, op := Op.load 52 _, .. } :: _) _ _; refine wpList_load_midG (by kernel_rfl) 52 (.tmp 12) rfl g3 0 rfl _ _ r3' Tryd.underlying52 rfl size34 ?_) | (guard_target =~ wpList _ _ _ ({ dst := some 80, op := Op.load 52 _, .. } :: _) _ _; refine wpList_load_midG (by kernel_rfl) 52 (.tmp 16) rfl g5 0 rfl _ _ r5' Tryd.underlying52 rfl size34 ?_) | (go_at_call 24; refine a3.mono ?_; clear a3; rintro e w13 ⟨rfl, t13⟩))
  have t := (t11.then_no t12).then_no t13
  have T13 := T5.then_no t
  replace R0 := Row.turn R0 t (fun q => q)
  replace R2 := Row.turn R2 t (fun q => q)
  replace R3 := Row.turn R3 t (fun q => q)
  replace R4 := Row.turn R4 t (fun q => q)
  replace O0 := O0.turn_no t
  replace O2 := O2.turn_no t
  replace O3 := O3.turn_no t
  have O4 := K4.out.turn_no t
  have sz : ws3.heap.size ≤ w13.heap.size := by have := t4.size; have := t5.size; have := t.size; omega
  clear t11 t12 t13 A2 A3 r0 r2 r3 r4 r5 r2' r4' r3' r5' K4 R5 T0 T1 T2 T3 T4 T5 t2 t3 t4 t5 t
  have q0 := Row.cell R0 2 _ rfl
  have q2 := Row.cell R2 2 _ rfl
  have q3 := Row.cell R3 2 _ rfl
  obtain ⟨vs, hvs⟩ : ∃ vs : List Value, vs = [.slice b0 nA c0, .slice b2 nA c2, .slice b3 nC c3] := ⟨_, rfl⟩
  obtain ⟨L, hL⟩ : ∃ L, L = tri A A C := ⟨_, rfl⟩
  have H13 : Lot w13 vs L := by
    rw [hvs, hL]
    refine lot_tri ?_ ?_ ?_ KA.out KA.out KC.out d01.out d02.out d12.out
    · rw [hnA.out]; exact O0
    · rw [hnA.out]; exact O2
    · rw [hnC.out]; exact O3
  have HLn : Shut (∀ k, (L k).length ≤ 65536) := fun k => by rw [hL]; exact tri_le (by rw [hnA.out]; exact LA.out) (by rw [hnA.out]; exact LA.out) (by rw [hnC.out]; exact LC.out) k
  have hn : vs.length = 3 := by rw [hvs]; rfl
  obtain ⟨wb, hwb⟩ : ∃ wb, w13.alloc (.cells #[.slice b0 nA c0, .slice b2 nA c2, .slice b3 nC c3] 50) = wb := ⟨_, rfl⟩
  have tb : Turn no w13 wb := by rw [← hwb]; exact (Turn.refl no w13).alloc _
  have zb : wb.heap.size = w13.heap.size + 1 := by rw [← hwb]; simp
  have OB : Own wb 50 (.slice (some ⟨w13.heap.size, 0, none⟩) 3 3) vs := by
    rw [← hwb, hvs]
    exact Own.of (heap_alloc_new w13 _) (by simp) (by simp [maxLen]) rfl rfl
  have H := H13.turn_no tb
  have HB : Shut (∀ g, Lb vs g → w.heap.size ≤ g ∧ g < ws3.heap.size) := by
    rintro g ⟨k, v, hv, hg⟩
    rw [hvs] at hv
    match k, hv with
    | 0, hv => simp at hv; subst hv; exact B0.out g hg
    | 1, hv => simp at hv; subst hv; exact B2.out g hg
    | 2, hv => simp at hv; subst hv; exact B3.out g hg
    | k + 3, hv => simp at hv
  have OM : Own (wb.alloc (.cells #[.slice b0 nA c0, .slice b2 nA c2, .slice b3 nC c3] 50)) 50 (.slice (some ⟨wb.heap.size, 0, none⟩) 3 3) vs := by
    rw [hvs]
    exact Own.of (heap_alloc_new wb _) (by simp) (by simp [maxLen]) rfl rfl
  have TM := (Turn.refl no wb).alloc (.cells #[.slice b0 nA c0, .slice b2 nA c2, .slice b3 nC c3] 50)
  have q0' := tb.keep q0 (fun q => q)
  have q2' := tb.keep q2 (fun q => q)
  have q3' := tb.keep q3 (fun q => q)
  have HVS := shut hvs
  have HLL := shut hL
  have HW := shut hwb
  clear hvs hL hwb H13 d01 d02 d12 B0 B2 B3
  go_upto_region 12 with fail
  rw [HW.out]
  clear q0 q2 q3
  go_upto_region 13 with fail
  rw [zb] at OM
  have haw : ¬ Lb vs w13.heap.size := H.away OB _ rfl
  obtain ⟨wc, hwc⟩ : ∃ wc, wb.alloc (.cells #[.slice b0 nA c0, .slice b2 nA c2, .slice b3 nC c3] 50) = wc := ⟨_, rfl⟩
  rw [hwc] at OM TM ⊢
  have HT := shut (T13.then_no tb)
  have hlow : Shut (∀ g, Lb vs g → g < wb.heap.size) := fun g hg => by have := HB.out g hg; omega
  have HR4 := shut (R4.turn tb (fun q => q))
  have HO4 := shut (O4.turn_no tb)
  have hp4 : Shut (∀ x, b4 = some x → ¬ Lb vs x.block) := fun x hx q => by have h1 := F4.out x.block (by rw [hx]; rfl); have h2 := (HB.out _ q).2; omega
  have HB1 : Shut (∀ g, Lb vs g → w.heap.size ≤ g) := fun g hg => (HB.out g hg).1
  have hSz : Shut (∀ (k : Nat) (v : Value), vs[k]? = some v → ∃ a cp, v = .slice a (L k).length cp) := fun k v hv => by
    obtain ⟨a, cp, e, _⟩ := (H.own k v hv).form
    exact ⟨a, cp, e⟩
  have HZB := shut zb
  have HOB := shut OB
  have HST : Shut (Lot wc vs (stA L 0 0) ∧ Own wc 50 (.slice (some ⟨w13.heap.size + 1, 0, none⟩) 3 3) vs ∧ Turn (Lb vs) wb wc) := ⟨by rw [stA_zero]; exact H.turn_no TM, OM, TM.of_no⟩
  have haw4 : Shut (¬ Lb vs g4) := H.awayR (R4.turn tb (fun q => q)) (by decide)
  clear OM TM hwc T13 tb zb OB H q0' q2' q3' O0 O2 O3 O4 R0 R2 R3 R4 HB F4 sz HVS HLL HW
  generalize w13.heap.size = gl at *
  obtain ⟨gm, hgm⟩ : ∃ gm, Hid (gl + 1 = gm) := ⟨_, rfl⟩
  rw [show gl + 1 = gm from hgm.out] at HST HZB ⊢
  go_wp2_with fail
  go_loopw [20] (fun x wr => ∃ k : Nat, k ≤ 3 ∧ x = .int .i64 k ∧ Shut (Lot wr vs (stA L k 0) ∧ Own wr 50 (.slice (some ⟨gm, 0, none⟩) 3 3) vs ∧ Turn (Lb vs) wb wr)) (fun x _ => 3 - (intOf x).toNat)
  case atStart => exact ⟨0, by omega, rfl, HST⟩
  case round =>
    obtain ⟨k, hk, rfl, HK⟩ := hrel
    clear HST
    by_cases hlt : k < 3
    · have hlt' : (k : Int) < 3 := by omega
      obtain ⟨v, hv⟩ : ∃ v, vs[k]? = some v := ⟨vs[k]'(by omega), List.getElem?_eq_getElem _⟩
      obtain ⟨ak, cp, rfl⟩ := hSz.out k v hv
      obtain ⟨ln, hln⟩ : ∃ ln, Hid ((L k).length = ln) := ⟨_, rfl⟩
      rw [show (L k).length = ln from hln.out] at hv
      have HV := shut hv
      clear hv
      obtain ⟨x1, hx1⟩ : ∃ x1 : UInt8, Hid (x1 = UInt8.ofNat (1 + k)) := ⟨_, rfl⟩
      have ex1 : Shut ((k : Int) + 1 = (x1.toNat : Int)) := by show _ = _; rw [hx1.out]; exact int_byte _ _ (by omega) (by omega)
      go_wp2_with fail
      obtain ⟨wo, hwo⟩ : ∃ wo, wo = wr := ⟨_, rfl⟩
      subst hwo
      go_loopw [21] (fun x wr => ∃ j : Nat, j ≤ ln ∧ x = .int .i64 j ∧ Shut (Lot wr vs (stA L k j) ∧ Own wr 50 (.slice (some ⟨gm, 0, none⟩) 3 3) vs ∧ Turn (Lb vs) wb wr)) (fun x _ => ln - (intOf x).toNat)
      case atStart => exact ⟨0, by omega, rfl, HK⟩
      case round =>
        obtain ⟨j, hj, rfl, HJ⟩ := hrel
        have hc := (HOB.out.turn HJ.out.2.2 (fun g q => by cases q; exact haw)).cell k _ HV.out
        by_cases hjl : j < ln
        · have hjl' : (j : Int) < (ln : Int) := by omega
          have hlen : (stA L k j k).length = ln := by rw [stA_len _ _ _ _ (by rw [hln.out]; omega)]; exact hln.out
          have hlm : ln ≤ 65536 := by rw [← hln.out]; exact HLn.out k
          have OJ := HJ.out.1.own k _ HV.out
          rw [hlen] at OJ
          obtain ⟨g, cp', e1', R⟩ := OwnN.hd OJ hlen.symm (by omega) (HJ.out.1.ok k _ HV.out)
          cases e1'
          obtain ⟨y1, hy1⟩ : ∃ y1 : UInt8, Hid (y1 = UInt8.ofNat j) := ⟨_, rfl⟩
          have ey1 : Shut ((j : Int) % 256 = (y1.toNat : Int)) := by show _ = _; rw [hy1.out]; exact mod_byte _ _ rfl
          have eD : mkA 1 k j = x1 :: y1 :: List.replicate 30 0 := by unfold mkA; rw [hx1.out, hy1.out]
          obtain ⟨w2, hr2, O2, t2⟩ := OwnN.put OJ hlen (HJ.out.1.ok k _ HV.out) j hjl (mkA 1 k j) (mkA_len _ _ _)
          have e2' : (stA L k j k).set j (mkA 1 k j) = stA L k (j + 1) k := by rw [stA_self, stA_self]; exact overTo_succ k j (L k) (by rw [hln.out]; exact hjl)
          rw [e2'] at O2
          have hl2 : (stA L k (j + 1) k).length = ln := by rw [stA_len _ _ _ _ (by rw [hln.out]; omega)]; exact hln.out
          have okN : ∀ m ∈ stA L k (j + 1) k, m.length = 32 := by
            rw [← e2']
            intro m hm
            rcases List.mem_or_eq_of_mem_set hm with q | rfl
            · exact HJ.out.1.ok k _ HV.out m q
            · exact mkA_len _ _ _
          have H2 := HJ.out.1.upd (L' := stA L k (j + 1)) k _ HV.out (t2.mono (fun b _ q => by rw [q]; rfl)) (by rw [hl2]; exact O2) okN (fun i hi => stA_other L k (j + 1) j i hi)
          clear okN
          have OM2 := HJ.out.2.1.turn t2 (fun b hb q => (HJ.out.1.away HJ.out.2.1 b hb) ⟨k, _, HV.out, by rw [q]; rfl⟩)
          have T2 : Turn (Lb vs) wb w2 := HJ.out.2.2.trans t2 (fun b _ q => ⟨k, _, HV.out, by rw [q]; rfl⟩)
          have HN : Shut (Lot w2 vs (stA L k (j + 1)) ∧ Own w2 50 (.slice (some ⟨gm, 0, none⟩) 3 3) vs ∧ Turn (Lb vs) wb w2) := ⟨H2, OM2, T2⟩
          have hB2 := bldI wr ((k : Int) + 1) ((j : Int) % 256) x1 y1 ex1.out ey1.out
          rw [eD] at hr2
          generalize hb32 (x1 :: y1 :: List.replicate 30 0) = HD at *
          have HB2 := shut hB2
          clear H2 OM2 T2 OJ R O2 t2 e2' hl2 eD hlen hB2
          go_wp2_with (first | (guard_target =~ wpList _ _ _ ({ dst := some 121, op := Op.build 35 _, .. } :: _) _ _; refine wpList_build2 rfl 35 (.tmp 118) (.tmp 120) rfl _ _ _ rfl rfl HB2.out ?_) | (guard_target =~ wpList _ _ _ ({ dst := _, op := Op.store 35 _ _, .. } :: _) _ _; refine wpList_store_run rfl rfl 35 (.tmp 122) (.tmp 121) rfl ⟨g, j * 32, none⟩ (.agg HD) rfl rfl w2 hr2 ?_))
          go_roundw
          case rel => exact ⟨j + 1, by omega, by go_num, HN⟩
          case measure => simp [intOf]; omega
        · have hjl' : ¬ (j : Int) < (ln : Int) := by omega
          have HN : Shut (Lot wr vs (stA L (k + 1) 0) ∧ Own wr 50 (.slice (some ⟨gm, 0, none⟩) 3 3) vs ∧ Turn (Lb vs) wb wr) := by
            have hje : j = ln := by omega
            have e2' : stA L k j = stA L (k + 1) 0 := by rw [hje, ← hln.out]; exact stA_next L k
            rw [← e2']
            exact HJ
          go_wp2_with fail
          go_roundw
          case rel => exact ⟨k + 1, by omega, by go_num, HN⟩
          case measure => simp [intOf]; omega
    · have hlt' : ¬ (k : Int) < 3 := by omega
      have HG : Shut (vs.length = 3 ∧ Own wr 50 (.slice (some ⟨gm, 0, none⟩) 3 3) vs ∧ Grown wb.heap.size wr vs vs (full L) (ap L 0 0) ∧ Turn (Lb vs) wb wr) := by
        have hke : k = 3 := by omega
        subst hke
        have hst : ∀ i, i < 3 → stA L 3 0 i = full L i := fun i hi => by simp [stA, full, hi]
        have H1 := HK.out.1
        have H2 : Lot wr vs (full L) := ⟨fun i v hv => by rw [← hst i (by have := (List.getElem?_eq_some_iff.1 hv).1; omega)]; exact H1.own i v hv, fun i v hv => by rw [← hst i (by have := (List.getElem?_eq_some_iff.1 hv).1; omega)]; exact H1.ok i v hv, H1.apart⟩
        exact ⟨hn, HK.out.2.1, by rw [ap_zero]; exact Grown.begin H2 hlow.out, HK.out.2.2⟩
      clear HK hk hlt
      go_wp2_with fail
      go_loopw [22] (fun x wr => ∃ (r : Nat) (us : List Value), r ≤ 20 ∧ x = .int .i64 r ∧ Shut (us.length = 3 ∧ Own wr 50 (.slice (some ⟨gm, 0, none⟩) 3 3) us ∧ Grown wb.heap.size wr vs us (full L) (ap L r 0) ∧ Turn (Lb vs) wb wr)) (fun x _ => 20 - (intOf x).toNat)
      case atStart => exact ⟨0, vs, by omega, rfl, HG⟩
      case round =>
        clear HG
        obtain ⟨r, us, hr, rfl, HR⟩ := hrel
        by_cases hrl : r < 20
        · have hrl' : (r : Int) < 20 := by omega
          obtain ⟨y1, hy1⟩ : ∃ y1 : UInt8, Hid (y1 = UInt8.ofNat r) := ⟨_, rfl⟩
          have ey1 : Shut ((r : Int) = (y1.toNat : Int)) := by show _ = _; rw [hy1.out]; exact int_byte _ _ rfl (by omega)
          go_wp2_with fail
          go_loopw [23] (fun x wr => ∃ (q : Nat) (us : List Value), q ≤ 3 ∧ x = .int .i64 q ∧ Shut (us.length = 3 ∧ Own wr 50 (.slice (some ⟨gm, 0, none⟩) 3 3) us ∧ Grown wb.heap.size wr vs us (full L) (ap L r q) ∧ Turn (Lb vs) wb wr)) (fun x _ => 3 - (intOf x).toNat)
          case atStart => exact ⟨0, us, by omega, rfl, HR⟩
          case round =>
            clear HR us
            obtain ⟨q, us, hq, rfl, HR⟩ := hrel
            by_cases hql : q < 3
            · have hql' : (q : Int) < 3 := by omega
              obtain ⟨hus, OU, GR, T⟩ := HR.out
              obtain ⟨u, hu⟩ : ∃ u, us[q]? = some u := ⟨us[q]'(by omega), List.getElem?_eq_getElem _⟩
              have OI := GR.lot.own q u hu
              obtain ⟨au, cu, rfl, _⟩ := OI.form
              have hLi := HLn.out q
              obtain ⟨ln, hln⟩ : ∃ ln, Hid ((ap L r q q).length = ln) := ⟨_, rfl⟩
              have HLN : Hid (ln = (L q).length + r) := by show _ = _; rw [← hln.out]; simp [ap, full, full_eq]
              rw [show (ap L r q q).length = ln from hln.out] at hu OI
              have hc := OU.cell q _ hu
              have HU := shut hu
              obtain ⟨x1, hx1⟩ : ∃ x1 : UInt8, Hid (x1 = UInt8.ofNat (101 + q)) := ⟨_, rfl⟩
              have ex1 : Shut ((q : Int) + 101 = (x1.toNat : Int)) := by show _ = _; rw [hx1.out]; exact int_byte _ _ (by omega) (by omega)
              have eD : mkA 101 q r = x1 :: y1 :: List.replicate 30 0 := by unfold mkA; rw [hx1.out, hy1.out]
              have hD : (x1 :: y1 :: List.replicate 30 0).length = 32 := rfl
              have TA := (Turn.refl no wr).alloc (.cells (hb32 (x1 :: y1 :: List.replicate 30 0)) 35)
              have hs : Src Tryd.prog 32 50 (.slice (some ⟨wr.heap.size, 0, none⟩) 1 1) 1 (hb32 (x1 :: y1 :: List.replicate 30 0)).toList (wr.alloc (.cells (hb32 (x1 :: y1 :: List.replicate 30 0)) 35)) := Row.src1 Tryd.underlying50 (Row.new wr _ 35) (hb32_size hD) hb32_ones
              have hB2 := bldI wr ((q : Int) + 101) (r : Int) x1 y1 ex1.out ey1.out
              have hBS := bsl32 wr _ hD
              have OI2 := OI.turn_no TA
              have hb1 : (ln + 1) * 32 ≤ 140737488355328 := by have := HLN.out; omega
              have hb2 : ln + 1 ≤ maxLen := by have := HLN.out; simp only [maxLen]; omega
              obtain ⟨HD, hHD⟩ : ∃ HD, Hid (hb32 (x1 :: y1 :: List.replicate 30 0) = HD) := ⟨_, rfl⟩
              rw [show hb32 (x1 :: y1 :: List.replicate 30 0) = HD from hHD.out] at TA hs hB2 hBS OI2
              have HF : Shut (∀ v3 w3, OwnN w3 35 32 v3 (ln + 1) (hsF (ap L r q q) ++ HD.toList) → Grew (wr.alloc (.cells HD 35)) w3 (.slice au ln cu) v3 → (v3.ownBlock = Value.ownBlock (.slice au ln cu) ∨ Turn no (wr.alloc (.cells HD 35)) w3) → w3.frozen? ⟨gm, q, none⟩ = false ∧ w3.cell? ⟨gm, q, none⟩ = some (.slice au ln cu) ∧ Shut ((us.set q v3).length = 3 ∧ Own (w3.setCell ⟨gm, q, none⟩ v3) 50 (.slice (some ⟨gm, 0, none⟩) 3 3) (us.set q v3) ∧ Grown wb.heap.size (w3.setCell ⟨gm, q, none⟩ v3) vs (us.set q v3) (full L) (ap L r (q + 1)) ∧ Turn (Lb vs) wb (w3.setCell ⟨gm, q, none⟩ v3))) := fun v3 w3 O3 G3 K3 => by
                have hu := HU.out
                obtain ⟨v, hv⟩ : ∃ v, vs[q]? = some v := ⟨vs[q]'(by omega), List.getElem?_eq_getElem _⟩
                have e5 : ap L r (q + 1) q = ap L r q q ++ [mkA 101 q r] := ap_self L r q
                have hl5 : (ap L r (q + 1) q).length = ln + 1 := by rw [e5, List.length_append, hln.out]; rfl
                have O4 : OwnN w3 35 32 v3 (ap L r (q + 1) q).length (hsF (ap L r (q + 1) q)) := by
                  rw [hl5, e5, hsF_append]
                  have e6 : hsF [mkA 101 q r] = HD.toList := by rw [eD, ← hHD.out]; simp [hsF, hb32]
                  rw [e6]
                  exact O3
                have G4 := GR.step (G2 := ap L r (q + 1)) q _ v3 hu TA G3 K3 (mkA 101 q r) (mkA_len _ _ _) O4 e5 (fun q' hq' => ap_other L r q q' hq') T.size
                have aw1 := (GR.lot.turn_no TA).away (OU.turn_no TA)
                have OU3 := (OU.turn_no TA).turn G3.turn (fun g q1 q2 => aw1 g q1 ⟨q, _, hu, q2⟩)
                have T3 : Turn (Lb vs) wb w3 := ((T.then_no TA).mono (S' := fun g => Lb vs g ∨ wb.heap.size ≤ g) (fun _ _ q => Or.inl q)).trans G3.turn (fun b _ q' => (GR.blk q v _ b hv hu q').elim (fun q' => Or.inl ⟨q, v, hv, q'⟩) Or.inr) |>.mono (fun b hb q => q.elim id (fun q => by omega))
                have fz3 : w3.frozen? ⟨gm, q, none⟩ = false := by
                  rcases OU3.shape with ⟨e, _⟩ | ⟨g', cap', cur, e, ho, _⟩
                  · cases e
                  · have eg := congrArg Value.ownBlock e
                    simp [Value.ownBlock] at eg
                    subst eg
                    exact frozen_of_row w3 gm q _ 50 ho
                have TS := (Turn.refl (fun b => b = gm) w3).setCell (p := ⟨gm, q, none⟩) (fun _ => rfl) v3
                have OU4 := OU3.setAt q v3
                have aw3 := G4.lot.away (v0 := .slice (some ⟨gm, 0, none⟩) 3 3) OU3 gm rfl
                have hgz : wb.heap.size ≤ gm := by rw [HZB.out]; exact Nat.le_refl _
                have G5 := G4.turn TS (fun g q1 q2 => by subst q2; exact aw3 q1) (fun g q1 q2 => by have := hlow.out g q1; omega)
                have T4 : Turn (Lb vs) wb (w3.setCell ⟨gm, q, none⟩ v3) := (T3.mono (S' := fun g => Lb vs g ∨ wb.heap.size ≤ g) (fun _ _ q => Or.inl q)).trans TS (fun b _ q => Or.inr (by have : b = gm := q; omega)) |>.mono (fun b hb q => q.elim id (fun q => by omega))
                exact ⟨fz3, OU3.cell q _ hu, by rw [List.length_set]; exact hus, OU4, G5, T4⟩
              obtain ⟨v3, w3, hr3, O3, G3, K3⟩ := run_append_srcK (P := Tryd.prog) Tryd.underlying50 info35' rfl (by decide) 50 (wr.alloc (.cells HD 35)) (.slice au ln cu) ln _ OI2 (.slice (some ⟨wr.heap.size, 0, none⟩) 1 1) 1 _ hs hb1 hb2
              obtain ⟨fz, hc3, HN⟩ := HF.out v3 w3 O3 G3 K3
              obtain ⟨a3, c3', ev3, _⟩ := O3.form
              subst ev3
              have HB2 := shut hB2
              have HBS := shut hBS
              have HR3 := shut hr3
              clear hB2 hBS hr3 O3 G3 K3 HF OI2 hs GR OU T OI TA hu eD hD hLi hb1 hb2
              go_wp2_with (first | (guard_target =~ wpList _ _ _ ({ dst := some 142, op := Op.build 35 _, .. } :: _) _ _; refine wpList_build2 rfl 35 (.tmp 139) (.tmp 141) rfl _ _ _ rfl rfl HB2.out ?_) | (guard_target =~ wpList _ _ _ ({ dst := some 143, op := Op.buildSlice 50 _ _, .. } :: _) _ _; refine wpList_bslice1 rfl 50 (.tmp 142) rfl _ rfl _ _ HBS.out ?_) | (at_builtin; refine wpList_append_run rfl (.tmp 136) (.tmp 143) rfl (.slice au ln cu) (.slice (some ⟨wr.heap.size, 0, none⟩) 1 1) rfl rfl HR3.out ?_))
              go_roundw
              case rel => exact ⟨q + 1, us.set q (.slice a3 (ln + 1) c3'), by omega, by go_num, HN⟩
              case measure => simp [intOf]; omega
            · have hql' : ¬ (q : Int) < 3 := by omega
              have HN : Shut (us.length = 3 ∧ Own wr 50 (.slice (some ⟨gm, 0, none⟩) 3 3) us ∧ Grown wb.heap.size wr vs us (full L) (ap L (r + 1) 0) ∧ Turn (Lb vs) wb wr) := by
                obtain ⟨hus, OU, GR, T⟩ := HR.out
                have hq3 : q = 3 := by omega
                subst hq3
                exact ⟨hus, OU, GR.to (fun q hq => ap_next L r 3 q (by omega)) (fun q => List.prefix_append _ _), T⟩
              go_wp2_with fail
              go_roundw
              case rel => exact ⟨r + 1, us, by omega, by go_num, HN⟩
              case measure => simp [intOf]; omega
        · have hrl' : ¬ (r : Int) < 20 := by omega
          have HR : Shut (us.length = 3 ∧ Own wr 50 (.slice (some ⟨gm, 0, none⟩) 3 3) us ∧ Grown wb.heap.size wr vs us (full L) (ap L 20 0) ∧ Turn (Lb vs) wb wr) := by
            have hr2 : r = 20 := by omega
            subst hr2
            exact HR
          clear hr hrl
          have HOC := shut (HOB.out.turn HR.out.2.2.2 (fun g q => by cases q; exact haw))
          go_wp2_with fail
          obtain ⟨wy, hwy⟩ : ∃ wy, wy = wr := ⟨_, rfl⟩
          subst hwy
          go_loopw [24] (fun x wr => ∃ q : Nat, q ≤ 3 ∧ x = .int .i64 q ∧ Shut (Turn no wy wr)) (fun x _ => 3 - (intOf x).toNat)
          case atStart => exact ⟨0, by omega, rfl, Turn.refl _ _⟩
          case round =>
            obtain ⟨q, hq, rfl, HTI⟩ := hrel
            by_cases hql : q < 3
            · have hql' : (q : Int) < 3 := by omega
              obtain ⟨hus, OU, GR, T⟩ := HR.out
              obtain ⟨v, hv⟩ : ∃ v, vs[q]? = some v := ⟨vs[q]'(by omega), List.getElem?_eq_getElem _⟩
              obtain ⟨av, cv, rfl⟩ := hSz.out q v hv
              obtain ⟨u, hu⟩ : ∃ u, us[q]? = some u := ⟨us[q]'(by omega), List.getElem?_eq_getElem _⟩
              obtain ⟨a0, cp0, e0, MA⟩ := GR.ms q _ hv
              rw [show (full L q).length = (L q).length by simp [full, full_eq]] at e0
              cases e0
              have ln2 : (ap L 20 0 q).length = (L q).length + 20 := by simp [ap, full, full_eq]
              obtain ⟨gi, ci, eu, R⟩ := OwnN.hd (GR.lot.own q u hu) rfl (by omega) (GR.lot.ok q u hu)
              rw [ln2] at eu
              subst eu
              have MA := MA.turn_no HTI.out
              have R := R.turn_no HTI.out
              have hc := (HOC.out.turn_no HTI.out).cell q _ hv
              have hd := (OU.turn_no HTI.out).cell q _ hu
              have hLi := HLn.out q
              have hfl : Shut (∀ j, j < (L q).length → (full L q)[j]? = some (mkA 1 q j)) := fun j hj => by simp [full, full_eq, hj]
              have hap : Shut (∀ k, k < 20 → (ap L 20 0 q)[(L q).length + k]? = some (mkA 101 q k)) := fun k hk => by
                rw [ap, List.getElem?_append_right (by simp [full, full_eq])]
                simp [full, full_eq, hk]
              generalize full L q = fl at *
              generalize ap L 20 0 q = al at *
              clear ln2 hu hv GR OU T
              obtain ⟨ln, hln⟩ : ∃ ln, Hid ((L q).length = ln) := ⟨_, rfl⟩
              rw [show (L q).length = ln from hln.out] at hc hd hLi hfl hap
              obtain ⟨ln3, hln3⟩ : ∃ ln3, Hid (ln + 20 = ln3) := ⟨_, rfl⟩
              rw [show ln + 20 = ln3 from hln3.out] at hd
              have HMA := shut MA
              have HRR := shut R
              obtain ⟨x1, hx1⟩ : ∃ x1 : UInt8, Hid (x1 = UInt8.ofNat (1 + q)) := ⟨_, rfl⟩
              have ex1 : Shut ((q : Int) + 1 = (x1.toNat : Int)) := by show _ = _; rw [hx1.out]; exact int_byte _ _ (by omega) (by omega)
              obtain ⟨x2, hx2⟩ : ∃ x2 : UInt8, Hid (x2 = UInt8.ofNat (101 + q)) := ⟨_, rfl⟩
              have ex2 : Shut ((q : Int) + 101 = (x2.toNat : Int)) := by show _ = _; rw [hx2.out]; exact int_byte _ _ (by omega) (by omega)
              clear MA R
              go_wp2_with fail
              obtain ⟨wz, hwz⟩ : ∃ wz, wz = wr := ⟨_, rfl⟩
              subst hwz
              go_loopw [26] (fun x wr => ∃ j : Nat, j ≤ ln ∧ x = .int .i64 j ∧ Shut (Turn no wz wr)) (fun x _ => ln - (intOf x).toNat)
              case atStart => exact ⟨0, by omega, rfl, Turn.refl _ _⟩
              case round =>
                obtain ⟨j, hj, rfl, TJ⟩ := hrel
                have hc := TJ.out.keep hc (fun q => q)
                have hd := TJ.out.keep hd (fun q => q)
                by_cases hjl : j < ln
                · have hjl' : (j : Int) < (ln : Int) := by omega
                  obtain ⟨bb, off, rfl, cc⟩ := (HMA.out.turn_no TJ.out).cells j _ (hfl.out j hjl)
                  obtain ⟨y1, hy1⟩ : ∃ y1 : UInt8, Hid (y1 = UInt8.ofNat j) := ⟨_, rfl⟩
                  have ey1 : Shut ((j : Int) % 256 = (y1.toNat : Int)) := by show _ = _; rw [hy1.out]; exact mod_byte _ _ rfl
                  have eD : mkA 1 q j = x1 :: y1 :: List.replicate 30 0 := by unfold mkA; rw [hx1.out, hy1.out]
                  rw [eD] at cc
                  have cc : wr.rangeAt bb (off + j * 32) (hb32 (x1 :: y1 :: List.replicate 30 0)).toList := by simpa [hb32] using cc
                  have hB2 := bldI wr ((q : Int) + 1) ((j : Int) % 256) x1 y1 ex1.out ey1.out
                  have HE : Shut (∀ W, (Op.equalIn 10000 35 (.agg (hb32 (x1 :: y1 :: List.replicate 30 0))) (.agg (hb32 (x1 :: y1 :: List.replicate 30 0)))).run Tryd.prog W = .ok true W) := fun W => by
                    rw [show hb32 (x1 :: y1 :: List.replicate 30 0) = ((x1 :: y1 :: List.replicate 30 0).map bv).toArray from rfl, eqIn35 W _ _ rfl rfl]
                    simp
                  have hsz : (Tryd.prog.info? 35).map (·.size) = some (hb32 (x1 :: y1 :: List.replicate 30 0)).toList.length := by rw [Array.length_toList]; exact hb32_info rfl
                  generalize hb32 (x1 :: y1 :: List.replicate 30 0) = HD at *
                  have HB2 := shut hB2
                  have HCC := shut cc
                  have he := HE.out
                  clear hB2 cc eD hd
                  go_wp2_with (first | (guard_target =~ wpList _ _ _ ({ dst := some 166, op := Op.load 35 _, .. } :: _) _ _; refine wpList_load_midG (by kernel_rfl) 35 (.tmp 165) rfl bb (off + j * 32) rfl HD.toList _ HCC.out Tryd.underlying35 rfl hsz ?_) | (guard_target =~ wpList _ _ _ ({ dst := some 172, op := Op.build 35 _, .. } :: _) _ _; refine wpList_build2 rfl 35 (.tmp 169) (.tmp 171) rfl _ _ _ rfl rfl HB2.out ?_))
                  go_roundw
                  case rel => exact ⟨j + 1, by omega, by go_num, TJ⟩
                  case measure => simp [intOf]; omega
                · have hjl' : ¬ (j : Int) < (ln : Int) := by omega
                  go_wp2_with fail
                  obtain ⟨wv, hwv⟩ : ∃ wv, wv = wr := ⟨_, rfl⟩
                  subst hwv
                  go_loopw [27] (fun x wr => ∃ k : Nat, k ≤ 20 ∧ x = .int .i64 k ∧ Shut (Turn no wv wr)) (fun x _ => 20 - (intOf x).toNat)
                  case atStart => exact ⟨0, by omega, rfl, Turn.refl _ _⟩
                  case round =>
                    obtain ⟨k, hk, rfl, TQ⟩ := hrel
                    have hd := TQ.out.keep hd (fun q => q)
                    by_cases hkl : k < 20
                    · have hkl' : (k : Int) < 20 := by omega
                      obtain ⟨bb, off, e3, cc⟩ := ((HRR.out.turn_no TJ.out).turn_no TQ.out).cells (ln + k) _ (hap.out k hkl)
                      cases e3
                      obtain ⟨y1, hy1⟩ : ∃ y1 : UInt8, Hid (y1 = UInt8.ofNat k) := ⟨_, rfl⟩
                      have ey1 : Shut ((k : Int) = (y1.toNat : Int)) := by show _ = _; rw [hy1.out]; exact int_byte _ _ rfl (by omega)
                      have eD : mkA 101 q k = x2 :: y1 :: List.replicate 30 0 := by unfold mkA; rw [hx2.out, hy1.out]
                      rw [eD] at cc
                      have cc : wr.rangeAt gi ((ln + k) * 32) (hb32 (x2 :: y1 :: List.replicate 30 0)).toList := by simpa [hb32] using cc
                      have hB2 := bldI wr ((q : Int) + 101) (k : Int) x2 y1 ex2.out ey1.out
                      have HE : Shut (∀ W, (Op.equalIn 10000 35 (.agg (hb32 (x2 :: y1 :: List.replicate 30 0))) (.agg (hb32 (x2 :: y1 :: List.replicate 30 0)))).run Tryd.prog W = .ok true W) := fun W => by
                        rw [show hb32 (x2 :: y1 :: List.replicate 30 0) = ((x2 :: y1 :: List.replicate 30 0).map bv).toArray from rfl, eqIn35 W _ _ rfl rfl]
                        simp
                      have hsz : (Tryd.prog.info? 35).map (·.size) = some (hb32 (x2 :: y1 :: List.replicate 30 0)).toList.length := by rw [Array.length_toList]; exact hb32_info rfl
                      generalize hb32 (x2 :: y1 :: List.replicate 30 0) = HD at *
                      have HB2 := shut hB2
                      have HCC := shut cc
                      have he := HE.out
                      have hlk : (ln : Int) + (k : Int) < (ln3 : Int) := by rw [← hln3.out]; omega
                      clear hB2 cc eD hc
                      go_wp2_with (first | (guard_target =~ wpList _ _ _ ({ dst := some 186, op := Op.load 35 _, .. } :: _) _ _; refine wpList_load_midG (by kernel_rfl) 35 (.tmp 185) rfl gi ((ln + k) * 32) rfl HD.toList _ HCC.out Tryd.underlying35 rfl hsz ?_) | (guard_target =~ wpList _ _ _ ({ dst := some 192, op := Op.build 35 _, .. } :: _) _ _; refine wpList_build2 rfl 35 (.tmp 189) (.tmp 191) rfl _ _ _ rfl rfl HB2.out ?_))
                      go_roundw
                      case rel => exact ⟨k + 1, by omega, by go_num, TQ⟩
                      case measure => simp [intOf]; omega
                    · have hkl' : ¬ (k : Int) < 20 := by omega
                      go_wp2_with fail
                      go_roundw
                      case rel => exact ⟨q + 1, by omega, by go_num, (HTI.out.then_no TJ.out).then_no TQ.out⟩
                      case measure => simp [intOf]; omega
            · have hql' : ¬ (q : Int) < 3 := by omega
              have TF : Turn no w wr := (HT.out.trans HR.out.2.2.2 (fun i hi q => absurd (HB1.out i q) (by omega))).then_no HTI.out
              have p6 := P22.out wr i TF
              have h4 := (OwnN.hsAt (l := A) HO4.out hnA.out.symm KA.out)
              have RT := (Row.turn (Row.turn HR4.out HR.out.2.2.2 haw4.out) HTI.out (fun q => q))
              have H4 : Shut (HsAt wr b4 c4 A) := by
                obtain ⟨za, zc, e0, h⟩ := h4
                cases e0
                exact (h.turn HR.out.2.2.2 hp4.out).turn_no HTI.out
              clear h4
              go_upto_region 42 with (first | (go_at_call 22; refine p6.mono ?_; clear p6; intro e wc6 hh; obtain ⟨x6, rfl, O6, f6, tc6⟩ := HPi.out _ _ _ hh; clear hh f6; obtain ⟨b6, c6, rfl, _⟩ := O6.form; have hl6 : (#[Value.int .i64 pt, .int .i64 pi, .slice b6 nA c6].all (·.oneCell')) = true := by simp [Value.oneCell']) | (guard_target =~ wpList _ _ _ ({ dst := _, op := Op.store 52 _ _, .. } :: _) _ _; refine wpList_store_anyN rfl rfl 52 (.tmp 28) (.tmp 198) rfl _ #[.int .i64 pt, .int .i64 pi, .slice b6 nA c6] rfl rfl 52 #[.int .i64 0, .int .i64 0, .slice none 0 0] (Row.new _ _ 52) size34 rfl hl6 ?_; intro ws6 R6 ts6))
              have u6 : Turn (fun q => q = wc6.heap.size) wc6 ws6 := ((Turn.refl no wc6).alloc _).of_no.trans ts6 (fun _ _ e => e)
              have O6 := O6.turn u6 (fun g hg q => by have := O6.lt hg; omega)
              have t6 := tc6.trans u6 (fun i hi e => by have := tc6.size; omega)
              have T6 := TF.then_no t6
              have RT6 := Row.turn RT t6 (fun q => q)
              obtain ⟨za, zc, e0, h6⟩ := OwnN.hsAt (l := A) O6 hnA.out.symm KA.out
              cases e0
              have a6 := SMi.out ws6 _ _ _ _ h6 (H4.out.turn_no t6)
              have r6 := shut (Row.rng R6)
              have r4 := shut (Row.rng RT6)
              clear u6 tc6 ts6 hl6 R6 RT RT6 O6 h6 TF t6
              generalize wc6.heap.size = g6 at *
              go_wp2_with (first | (guard_target =~ wpList _ _ _ ({ dst := some 204, op := Op.load 52 _, .. } :: _) _ _; refine wpList_load_midG (by kernel_rfl) 52 (.tmp 28) rfl g6 0 rfl _ _ r6.out Tryd.underlying52 rfl size34 ?_) | (guard_target =~ wpList _ _ _ ({ dst := some 205, op := Op.load 52 _, .. } :: _) _ _; refine wpList_load_midG (by kernel_rfl) 52 (.tmp 14) rfl g4 0 rfl _ _ r4.out Tryd.underlying52 rfl size34 ?_) | (go_at_call 24; refine a6.mono ?_; clear a6; rintro e w7 ⟨rfl, t7⟩))
              go_ret
              exact ⟨rfl, T6.then_no t7⟩
end Go.Proofs.YtnibmkenbidnfaaDoor
