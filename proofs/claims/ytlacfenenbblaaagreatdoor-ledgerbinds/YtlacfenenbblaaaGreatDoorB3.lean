/- The walk of LedgerBinds: what is refused. -/
import Derived.Test.YtlacfenenbblaaaGreatDoorB2
import Derived.Test.YtlacfenenbblaaaGreatDoorP6
import Derived.Test.YtlacfenenbblaaaGreatDoorP8
import Derived.Test.YtlacfenenbblaaaGreatDoorG8
namespace Go.Proofs.YtlacfenenbblaaaGreatDoor
open Go.RowKit
set_option linter.unusedVariables false

set_option maxRecDepth 100000 in
set_option maxHeartbeats 80000000 in
theorem binds3_bad (w : World) (l0 : Laid0 w) (l1 : Laid1 w) (h2 : 2 ≤ w.heap.size) (va vr : Value) (l : List Ac) (r : List Rl) (ha : As w va l) (hr : Rs w vr r) (b s x : Nat) (hb : b < 18446744073709551616) (hs : s < 18446744073709551616) (R : List UInt8) (hR : R.length = 32) (v1 v2 : Value) (L : List Ac) (Q : List Pf) (hL : As w v1 L) (hQ : Qs w v2 Q) (he : ledE b l r s ≠ 0) :
    Calls Tryz.prog 3 #[.agg (ldA va vr b s), .int .u64 x, .agg (wtL R v1 v2).toArray] w fun e w' => e = .returned (.bool true) ∧ Turn no w w' := by
  obtain ⟨w0, hw0⟩ : ∃ w0, (w.alloc (.cells (ldA va vr b s) 26)).alloc (.cells (wtL R v1 v2).toArray 32) = w0 := ⟨_, rfl⟩
  have T0 : Turn no w w0 := by rw [← hw0]; exact ((Turn.refl no w).alloc _).alloc _
  have RL : Row w0 w.heap.size (ldA va vr b s) 26 := by rw [← hw0]; exact (Row.new w _ 26).alloc _
  have RW : Row w0 (w.heap.size + 1) (wtL R v1 v2).toArray 32 := by rw [← hw0]; exact Row.newAt _ _ _ _ (by simp)
  have iL := ld_info va vr b s
  have iW : (Tryz.prog.info? 32).map (·.size) = some (wtL R v1 v2).toArray.size := by rw [List.size_toArray, wtL_len hR]; exact size29w
  have hal := alive5 w0
  have HL : ∀ W, Turn no w0 W → Laid0 W ∧ Laid1 W ∧ 2 ≤ W.heap.size := fun W t => ⟨l0.turn (T0.then_no t) (fun q => q), l1.turn (T0.then_no t) (fun q => q), by have := (T0.then_no t).size; omega⟩
  have HAS : ∀ W, Turn no w0 W → As W va l ∧ Rs W vr r ∧ As W v1 L ∧ Qs W v2 Q := fun W t => ⟨ha.turn_no (T0.then_no t), hr.turn_no (T0.then_no t), hL.turn_no (T0.then_no t), by obtain ⟨p, c, e, h⟩ := hQ; exact ⟨p, c, e, h.turn_no (T0.then_no t)⟩⟩
  have hX : (lrH b s l r).length = 32 := by
    unfold lrH
    split
    · exact hashOf_len _
    · rfl
  have HRT : Shut (∀ W, Turn no w0 W → Calls Tryz.prog 5 #[.agg (ldA va vr b s)] W fun e w' => e = .returned (.tuple #[.agg (hb32 (lrH b s l r)), .int .i64 (ledE b l r s)]) ∧ Turn no W w') := fun W t => root6 W (HL W t).2.1 (HL W t).2.2 va vr l r (HAS W t).1 (HAS W t).2.1 b s hb hs
  have HRR : Shut (∀ W, Turn no w0 W → Calls Tryz.prog 6 #[.agg (ldA va vr b s)] W fun e w' => e = .returned (.tuple #[.agg (hb32 (lrH b s l r)), .int .i64 (ledE b l r s)]) ∧ Turn no W w') := fun W t => rroot9 W (HL W t).1 (HL W t).2.2 va vr l r (HAS W t).1 (HAS W t).2.1 b s hb hs
  have HVE : Shut (∀ W, Turn no w0 W → Calls Tryz.prog 7 #[.agg (hb32 (lrH b s l r)), .int .u64 x, .agg (wtL R v1 v2).toArray] W fun e w' => e = .returned (.tuple #[.agg (acs (vA (lrH b s l r) R x L Q).1).toArray, .bool (vA (lrH b s l r) R x L Q).2.1, .int .i64 (vA (lrH b s l r) R x L Q).2.2]) ∧ Turn no W w') := fun W t => ver5 W (HL W t).2.1 (HL W t).2.2 (lrH b s l r) R hX hR x v1 v2 L Q (HAS W t).2.2.1 (HAS W t).2.2.2
  have iX := hb32_info hX
  have sX := hb32_size hX
  have oX := hb32_one (lrH b s l r)
  have zX := hb32_size z32_len
  have zv29 := zero35v
  have zv38 := zero32v
  have HT0 := shut T0
  clear HL HAS ha hr hL hQ l0 l1 h2 hX hb hs T0
  generalize hXA : hb32 (lrH b s l r) = XA at *
  generalize hZX : hb32 z32 = ZX at *
  generalize hLA : ldA va vr b s = LA at *
  generalize hWA : (wtL R v1 v2).toArray = WA at *
  generalize ledE b l r s = E at *
  clear hXA hZX hLA hWA HVE
  have hE0 : (E != E) = false := by simp
  have hE1 : (E != 0) = true := by simpa using he
  go_enter Tryz.func3, Tryz.ntmps3
  go_upto_region 1 with fail
  try rw [hw0]
  clear hw0
  go_upto_region 4 with (go_at_call 4; refine hal.mono ?_; clear hal; rintro e w1 ⟨rfl, t1⟩)
  have RL1 := RL.turn t1 (fun q => q)
  have RW1 := RW.turn t1 (fun q => q)
  have hc := HRT.out w1 t1
  go_upto_region 5 with (first | (guard_target =~ wpList _ _ _ ({ dst := some 31, .. } :: _) _ _; refine wpList_load_row rfl 26 (.tmp 3) rfl w.heap.size rfl 26 LA _ _ RL1 Tryz.underlying26 rfl iL ?_) | (go_at_call 5; refine hc.mono ?_; clear hc; rintro e w2 ⟨rfl, t2⟩) | (guard_target =~ wpList _ _ _ ({ dst := _, op := Op.store 29 _ _, .. } :: _) _ _; refine wpList_store_anyN rfl rfl 29 (.tmp 8) (.tmp 33) rfl w2.heap.size XA rfl rfl 29 ZX (Row.new w2 ZX 29) iX (by rw [zX, sX]) oX ?_; intro w3 R3 t3))
  have T23 : Turn no w2 w3 := ((((Turn.refl no w2).alloc _).of_no.trans t3 (fun _ _ e => e) : Turn (fun q => q = w2.heap.size) w2 w3).mono (fun i hi e => by
    have e' : i = w2.heap.size := e
    omega))
  have T13 := t2.then_no T23
  have T3 := t1.then_no T13
  have RL3 := RL1.turn T13 (fun q => q)
  have RW3 := RW1.turn T13 (fun q => q)
  generalize w2.heap.size = g8 at *
  clear t1 t2 t3 T23 T13 RL1 RW1 RL RW HRT
  have hc := HRR.out w3 T3
  go_upto_region 6 with (first | (guard_target =~ wpList _ _ _ ({ dst := some 36, .. } :: _) _ _; refine wpList_load_row rfl 26 (.tmp 3) rfl w.heap.size rfl 26 LA _ _ RL3 Tryz.underlying26 rfl iL ?_) | (go_at_call 6; refine hc.mono ?_; clear hc; rintro e w4 ⟨rfl, t4⟩) | (guard_target =~ wpList _ _ _ ({ dst := _, op := Op.store 29 _ _, .. } :: _) _ _; refine wpList_store_anyN rfl rfl 29 (.tmp 10) (.tmp 38) rfl w4.heap.size XA rfl rfl 29 ZX (Row.new w4 ZX 29) iX (by rw [zX, sX]) oX ?_; intro w5 R5 t5))
  have T45 : Turn no w4 w5 := ((((Turn.refl no w4).alloc _).of_no.trans t5 (fun _ _ e => e) : Turn (fun q => q = w4.heap.size) w4 w5).mono (fun i hi e => by
    have e' : i = w4.heap.size := e
    omega))
  have T35 := t4.then_no T45
  have T5 := T3.then_no T35
  have RL5 := RL3.turn T35 (fun q => q)
  have RW5 := RW3.turn T35 (fun q => q)
  have R35 := R3.turn T35 (fun q => q)
  generalize w4.heap.size = g10 at *
  clear t4 t5 T45 T35 RL3 RW3 R3 R5 HRR T3
  have HT5 := shut T5
  clear RL5 RW5 R35
  go_wp2_with fail
  go_ret
  exact ⟨rfl, HT0.out.then_no HT5.out⟩
set_option maxRecDepth 100000 in
set_option maxHeartbeats 80000000 in
theorem binds3_not (w : World) (l0 : Laid0 w) (l1 : Laid1 w) (h2 : 2 ≤ w.heap.size) (va vr : Value) (l : List Ac) (r : List Rl) (ha : As w va l) (hr : Rs w vr r) (b s x : Nat) (hb : b < 18446744073709551616) (hs : s < 18446744073709551616) (R : List UInt8) (hR : R.length = 32) (v1 v2 : Value) (L : List Ac) (Q : List Pf) (hL : As w v1 L) (hQ : Qs w v2 Q) (he : ledE b l r s = 0) (hv : (vA (lrH b s l r) R x L Q).2.2 ≠ 0) :
    Calls Tryz.prog 3 #[.agg (ldA va vr b s), .int .u64 x, .agg (wtL R v1 v2).toArray] w fun e w' => e = .returned (.bool true) ∧ Turn no w w' := by
  obtain ⟨w0, hw0⟩ : ∃ w0, (w.alloc (.cells (ldA va vr b s) 26)).alloc (.cells (wtL R v1 v2).toArray 32) = w0 := ⟨_, rfl⟩
  have T0 : Turn no w w0 := by rw [← hw0]; exact ((Turn.refl no w).alloc _).alloc _
  have RL : Row w0 w.heap.size (ldA va vr b s) 26 := by rw [← hw0]; exact (Row.new w _ 26).alloc _
  have RW : Row w0 (w.heap.size + 1) (wtL R v1 v2).toArray 32 := by rw [← hw0]; exact Row.newAt _ _ _ _ (by simp)
  have iL := ld_info va vr b s
  have iW : (Tryz.prog.info? 32).map (·.size) = some (wtL R v1 v2).toArray.size := by rw [List.size_toArray, wtL_len hR]; exact size29w
  have hal := alive5 w0
  have HL : ∀ W, Turn no w0 W → Laid0 W ∧ Laid1 W ∧ 2 ≤ W.heap.size := fun W t => ⟨l0.turn (T0.then_no t) (fun q => q), l1.turn (T0.then_no t) (fun q => q), by have := (T0.then_no t).size; omega⟩
  have HAS : ∀ W, Turn no w0 W → As W va l ∧ Rs W vr r ∧ As W v1 L ∧ Qs W v2 Q := fun W t => ⟨ha.turn_no (T0.then_no t), hr.turn_no (T0.then_no t), hL.turn_no (T0.then_no t), by obtain ⟨p, c, e, h⟩ := hQ; exact ⟨p, c, e, h.turn_no (T0.then_no t)⟩⟩
  have hX : (lrH b s l r).length = 32 := by
    unfold lrH
    split
    · exact hashOf_len _
    · rfl
  have HRT : Shut (∀ W, Turn no w0 W → Calls Tryz.prog 5 #[.agg (ldA va vr b s)] W fun e w' => e = .returned (.tuple #[.agg (hb32 (lrH b s l r)), .int .i64 (ledE b l r s)]) ∧ Turn no W w') := fun W t => root6 W (HL W t).2.1 (HL W t).2.2 va vr l r (HAS W t).1 (HAS W t).2.1 b s hb hs
  have HRR : Shut (∀ W, Turn no w0 W → Calls Tryz.prog 6 #[.agg (ldA va vr b s)] W fun e w' => e = .returned (.tuple #[.agg (hb32 (lrH b s l r)), .int .i64 (ledE b l r s)]) ∧ Turn no W w') := fun W t => rroot9 W (HL W t).1 (HL W t).2.2 va vr l r (HAS W t).1 (HAS W t).2.1 b s hb hs
  have HVE : Shut (∀ W, Turn no w0 W → Calls Tryz.prog 7 #[.agg (hb32 (lrH b s l r)), .int .u64 x, .agg (wtL R v1 v2).toArray] W fun e w' => e = .returned (.tuple #[.agg (acs (vA (lrH b s l r) R x L Q).1).toArray, .bool (vA (lrH b s l r) R x L Q).2.1, .int .i64 (vA (lrH b s l r) R x L Q).2.2]) ∧ Turn no W w') := fun W t => ver5 W (HL W t).2.1 (HL W t).2.2 (lrH b s l r) R hX hR x v1 v2 L Q (HAS W t).2.2.1 (HAS W t).2.2.2
  have iX := hb32_info hX
  have sX := hb32_size hX
  have oX := hb32_one (lrH b s l r)
  have zX := hb32_size z32_len
  have zv29 := zero35v
  have zv38 := zero32v
  have HT0 := shut T0
  have iM := acs_info (vA (lrH b s l r) R x L Q).1
  have oM := acs_one (vA (lrH b s l r) R x L Q).1
  have sM : AZ.size = (acs (vA (lrH b s l r) R x L Q).1).toArray.size := rfl
  obtain ⟨q1, q2⟩ := vA_bad hv
  rw [he] at HRT HRR
  rw [q2] at HVE
  have hV : ((vA (lrH b s l r) R x L Q).2.2 != 0) = true := by simpa using hv
  have hQ0 : ∀ W, (Op.equalIn 10000 38 (.agg AZ) (.agg AZ)).run Tryz.prog W = .ok true W := fun W => eq32v W ac0
  rw [q1] at HVE iM oM sM
  have hbd : Shut (∀ W, (Instr.build 38 #[]).run Tryz.prog W = .ok (.agg AZ) W) := bld32v
  have hZA : (acs ac0).toArray = AZ := rfl
  rw [hZA] at HVE iM oM sM
  clear HL HAS ha hr hL hQ l0 l1 h2 hX hb hs T0 q1 q2 hv he hZA
  generalize hXA : hb32 (lrH b s l r) = XA at *
  generalize hZX : hb32 z32 = ZX at *
  generalize hLA : ldA va vr b s = LA at *
  generalize hWA : (wtL R v1 v2).toArray = WA at *
  generalize (vA (lrH b s l r) R x L Q).2.2 = V at *
  generalize hMA : AZ = MA at *
  clear hXA hZX hLA hWA hMA
  go_enter Tryz.func3, Tryz.ntmps3
  go_upto_region 1 with fail
  try rw [hw0]
  clear hw0
  go_upto_region 4 with (go_at_call 4; refine hal.mono ?_; clear hal; rintro e w1 ⟨rfl, t1⟩)
  have RL1 := RL.turn t1 (fun q => q)
  have RW1 := RW.turn t1 (fun q => q)
  have hc := HRT.out w1 t1
  go_upto_region 5 with (first | (guard_target =~ wpList _ _ _ ({ dst := some 31, .. } :: _) _ _; refine wpList_load_row rfl 26 (.tmp 3) rfl w.heap.size rfl 26 LA _ _ RL1 Tryz.underlying26 rfl iL ?_) | (go_at_call 5; refine hc.mono ?_; clear hc; rintro e w2 ⟨rfl, t2⟩) | (guard_target =~ wpList _ _ _ ({ dst := _, op := Op.store 29 _ _, .. } :: _) _ _; refine wpList_store_anyN rfl rfl 29 (.tmp 8) (.tmp 33) rfl w2.heap.size XA rfl rfl 29 ZX (Row.new w2 ZX 29) iX (by rw [zX, sX]) oX ?_; intro w3 R3 t3))
  have T23 : Turn no w2 w3 := ((((Turn.refl no w2).alloc _).of_no.trans t3 (fun _ _ e => e) : Turn (fun q => q = w2.heap.size) w2 w3).mono (fun i hi e => by
    have e' : i = w2.heap.size := e
    omega))
  have T13 := t2.then_no T23
  have T3 := t1.then_no T13
  have RL3 := RL1.turn T13 (fun q => q)
  have RW3 := RW1.turn T13 (fun q => q)
  generalize w2.heap.size = g8 at *
  clear t1 t2 t3 T23 T13 RL1 RW1 RL RW HRT
  have hc := HRR.out w3 T3
  go_upto_region 6 with (first | (guard_target =~ wpList _ _ _ ({ dst := some 36, .. } :: _) _ _; refine wpList_load_row rfl 26 (.tmp 3) rfl w.heap.size rfl 26 LA _ _ RL3 Tryz.underlying26 rfl iL ?_) | (go_at_call 6; refine hc.mono ?_; clear hc; rintro e w4 ⟨rfl, t4⟩) | (guard_target =~ wpList _ _ _ ({ dst := _, op := Op.store 29 _ _, .. } :: _) _ _; refine wpList_store_anyN rfl rfl 29 (.tmp 10) (.tmp 38) rfl w4.heap.size XA rfl rfl 29 ZX (Row.new w4 ZX 29) iX (by rw [zX, sX]) oX ?_; intro w5 R5 t5))
  have T45 : Turn no w4 w5 := ((((Turn.refl no w4).alloc _).of_no.trans t5 (fun _ _ e => e) : Turn (fun q => q = w4.heap.size) w4 w5).mono (fun i hi e => by
    have e' : i = w4.heap.size := e
    omega))
  have T35 := t4.then_no T45
  have T5 := T3.then_no T35
  have RL5 := RL3.turn T35 (fun q => q)
  have RW5 := RW3.turn T35 (fun q => q)
  have R35 := R3.turn T35 (fun q => q)
  generalize w4.heap.size = g10 at *
  clear t4 t5 T45 T35 RL3 RW3 R3 R5 HRR T3
  have hc := HVE.out w5 T5
  go_upto_region 11 with (first | (guard_target =~ wpList _ _ _ ({ dst := some 46, .. } :: _) _ _; refine wpList_load_row rfl 29 (.tmp 8) rfl g8 rfl 29 XA _ _ R35 Tryz.underlying29 rfl iX ?_) | (guard_target =~ wpList _ _ _ ({ dst := some 48, .. } :: _) _ _; refine wpList_load_row rfl 32 (.tmp 5) rfl (w.heap.size + 1) rfl 32 WA _ _ RW5 Tryz.underlying32 rfl iW ?_) | (go_at_call 7; refine hc.mono ?_; clear hc; rintro e w6 ⟨rfl, t6⟩) | (guard_target =~ wpList _ _ _ ({ dst := _, op := Op.store 38 _ _, .. } :: _) _ _; refine wpList_store_anyN rfl rfl 38 (.tmp 12) (.tmp 50) rfl w6.heap.size MA rfl rfl 38 MA (Row.new w6 MA 38) iM rfl oM ?_; intro w7 R7 t7))
  have T67 : Turn no w6 w7 := ((((Turn.refl no w6).alloc _).of_no.trans t7 (fun _ _ e => e) : Turn (fun q => q = w6.heap.size) w6 w7).mono (fun i hi e => by
    have e' : i = w6.heap.size := e
    omega))
  have T57 := t6.then_no T67
  have T7 := T5.then_no T57
  have RL7 := RL5.turn T57 (fun q => q)
  have RW7 := RW5.turn T57 (fun q => q)
  generalize w6.heap.size = g12 at *
  clear t6 t7 T67 T57 RL5 RW5 R35 HVE T5
  have HT7 := shut T7
  clear RL7 RW7
  go_wp2_with (first | (guard_target =~ wpList _ _ _ ({ dst := some 55, .. } :: _) _ _; refine wpList_load_row rfl 38 (.tmp 12) rfl g12 rfl 38 MA _ _ R7 Tryz.underlying38 rfl iM ?_) | (guard_target =~ wpList _ _ _ ({ dst := some 56, .. } :: _) _ _; refine wpList_buildG (by kernel_rfl) 38 rfl _ (hbd.out _) ?_))
  go_ret
  exact ⟨rfl, HT0.out.then_no HT7.out⟩
end Go.Proofs.YtlacfenenbblaaaGreatDoor
