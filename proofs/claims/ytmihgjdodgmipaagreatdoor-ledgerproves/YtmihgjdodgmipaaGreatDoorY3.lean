/- Root of both. -/
import Derived.Test.YtmihgjdodgmipaaGreatDoorK1
import Derived.Test.YtmihgjdodgmipaaGreatDoorJa
import Derived.Deep.Cut
import Derived.Deep.RegionHeld3
import Derived.Deep.MidRow
namespace Go.Proofs.YtmihgjdodgmipaaGreatDoor
open Go.RowKit
set_option linter.unusedVariables false

set_option maxRecDepth 100000 in
set_option maxHeartbeats 4000000 in
theorem root7 (w : World) (a : Option Addr) (cap : Nat) (l : Its) (h : BlAt w a cap l) (hl : Laid1 w) (h2 : 2 ≤ w.heap.size) : Calls Tryz.prog 19 #[.slice a l.length cap] w fun e w' => e = .returned (.tuple #[.agg (hb32 (rootH l)), .int .i64 (rootE l)]) ∧ Turn no w w' := by
  have hZ := hb32_size z32_len
  have oZ := hb32_one z32
  have iZ := hb32_info z32_len
  have hzv := zero35v
  have hbd := shut bld35
  obtain ⟨w0, hw0⟩ : ∃ w0, w.alloc (.cells (hb32 z32) 31) = w0 := ⟨_, rfl⟩
  have T0 : Turn no w w0 := by rw [← hw0]; exact (Turn.refl no w).alloc _
  have RZ : Row w0 w.heap.size (hb32 z32) 31 := by rw [← hw0]; exact Row.new w _ 31
  have hb := big_all (h.turn_no T0)
  cases hbg : bigOf (txs l) with
  | true =>
    have e1 : rootE l = 4 := if_pos hbg
    have e2 : rootH l = z32 := if_pos hbg
    rw [e1, e2]
    rw [hbg] at hb
    generalize hb32 z32 = Z at *
    generalize l.length = n at *
    clear e1 e2 hbg h
    go_enter Tryz.func19, Tryz.ntmps19
    go_upto_region 1 with fail
    try rw [hw0]
    clear hw0 hzv
    go_wp2_with (first | (go_at_call 47; refine hb.mono ?_; clear hb; rintro e w1 ⟨rfl, hw1⟩; subst hw1) | (guard_target =~ wpList _ _ _ ({ dst := _, op := Op.build 31 _, .. } :: _) _ _; refine wpList_buildG (by kernel_rfl) 31 rfl _ (hbd.out _) ?_) | (guard_target =~ wpList _ _ _ ({ dst := _, op := Op.store 31 _ _, .. } :: _) _ _; refine wpList_store_row rfl 31 (.tmp 2) (.tmp 6) rfl w.heap.size Z rfl rfl 31 Z RZ iZ rfl oZ ?_))
    refine bodyPost_ret (v := .tuple #[.agg Z, .int .i64 4]) ?_ rfl ⟨rfl, T0.setRow _ _ (fun q => by omega)⟩
    exact results_cell_row_tmp (P := Tryz.prog) Tryz.results19 _ _ w.heap.size 31 Z (0, 0) _ rfl (setRow_heap _ _ _ _ _ _ RZ) Tryz.underlying31 rfl iZ
  | false =>
    have ho := (big_of l).1 hbg
    have e1 : rootE l = 0 := if_neg (by rw [hbg]; decide)
    have e2 : rootH l = hashOf (rootT l) := if_neg (by rw [hbg]; decide)
    rw [e1, e2]
    rw [hbg] at hb
    have lt := topH_len (txs l)
    have ht := top_all (h.turn_no T0) ho (hl.turn T0 (fun q => q)) (by have := T0.size; omega)
    have hr := fun W (T : Turn no w W) => rootOf_any W l.length ho.1 (topH (txs l)) lt (hl.turn T (fun q => q)) (by have := T.size; omega)
    rw [show hb32 (hashOf (rootT l)) = hv (rootT l) from rfl]
    have hs := hv_size (rootT l)
    have o1 := hv_one (rootT l)
    have hi := hv_info (rootT l)
    have HR : Shut (∀ W, Turn no w W → Calls Tryz.prog 48 #[.int .i64 l.length, .agg (hb32 (topH (txs l)))] W fun e w' => e = .returned (.agg (hv (rootT l))) ∧ Turn no W w') := hr
    clear hr
    generalize hv (rootT l) = H at *
    generalize hb32 (topH (txs l)) = TP at *
    generalize hb32 z32 = Z at *
    generalize l.length = n at *
    clear e1 e2 hbg h lt ho
    go_enter Tryz.func19, Tryz.ntmps19
    go_upto_region 1 with fail
    try rw [hw0]
    clear hw0 hzv
    go_wp2_with (first | (go_at_call 47; refine hb.mono ?_; clear hb; rintro e w1 ⟨rfl, hw1⟩; subst hw1) | (go_at_call 49; refine ht.mono ?_; clear ht; rintro e w2 ⟨rfl, t2⟩; have T2 := T0.then_no t2; have hr := HR.out w2 T2) | (go_at_call 48; refine hr.mono ?_; clear hr; rintro e w3 ⟨rfl, t3⟩; have T3 := T2.then_no t3; have RZ3 := Row.turn (Row.turn RZ t2 (fun q => q)) t3 (fun q => q)) | (guard_target =~ wpList _ _ _ ({ dst := _, op := Op.store 31 _ _, .. } :: _) _ _; refine wpList_store_row rfl 31 (.tmp 2) (.tmp 11) rfl w.heap.size H rfl rfl 31 Z RZ3 hi (by rw [hZ, hs]) o1 ?_))
    refine bodyPost_ret (v := .tuple #[.agg H, .int .i64 0]) ?_ rfl ⟨rfl, T3.setRow _ _ (fun q => by omega)⟩
    exact results_cell_row_tmp (P := Tryz.prog) Tryz.results19 _ _ w.heap.size 31 H (0, 0) _ rfl (setRow_heap _ _ _ _ _ _ RZ3) Tryz.underlying31 rfl hi
set_option maxRecDepth 100000 in
set_option maxHeartbeats 4000000 in
theorem root8 (w : World) (a : Option Addr) (cap : Nat) (l : Its) (h : BlAt w a cap l) (hl : Laid0 w) (h2 : 2 ≤ w.heap.size) : Calls Tryz.prog 26 #[.slice a l.length cap] w fun e w' => e = .returned (.tuple #[.agg (hb32 (rootH l)), .int .i64 (rootE l)]) ∧ Turn no w w' := by
  have hZ := hb32_size z32_len
  have oZ := hb32_one z32
  have iZ := hb32_info z32_len
  have hzv := zero35v
  have hbd := shut bld35
  obtain ⟨w0, hw0⟩ : ∃ w0, w.alloc (.cells (hb32 z32) 31) = w0 := ⟨_, rfl⟩
  have T0 : Turn no w w0 := by rw [← hw0]; exact (Turn.refl no w).alloc _
  have RZ : Row w0 w.heap.size (hb32 z32) 31 := by rw [← hw0]; exact Row.new w _ 31
  have hb := rbig_all (h.turn_no T0)
  cases hbg : bigOf (txs l) with
  | true =>
    have e1 : rootE l = 4 := if_pos hbg
    have e2 : rootH l = z32 := if_pos hbg
    rw [e1, e2]
    rw [hbg] at hb
    generalize hb32 z32 = Z at *
    generalize l.length = n at *
    clear e1 e2 hbg h
    go_enter Tryz.func26, Tryz.ntmps26
    go_upto_region 1 with fail
    try rw [hw0]
    clear hw0 hzv
    go_wp2_with (first | (go_at_call 61; refine hb.mono ?_; clear hb; rintro e w1 ⟨rfl, hw1⟩; subst hw1) | (guard_target =~ wpList _ _ _ ({ dst := _, op := Op.build 31 _, .. } :: _) _ _; refine wpList_buildG (by kernel_rfl) 31 rfl _ (hbd.out _) ?_) | (guard_target =~ wpList _ _ _ ({ dst := _, op := Op.store 31 _ _, .. } :: _) _ _; refine wpList_store_row rfl 31 (.tmp 2) (.tmp 8) rfl w.heap.size Z rfl rfl 31 Z RZ iZ rfl oZ ?_))
    refine bodyPost_ret (v := .tuple #[.agg Z, .int .i64 4]) ?_ rfl ⟨rfl, T0.setRow _ _ (fun q => by omega)⟩
    exact results_cell_row_tmp (P := Tryz.prog) Tryz.results26 _ _ w.heap.size 31 Z (0, 0) _ rfl (setRow_heap _ _ _ _ _ _ RZ) Tryz.underlying31 rfl iZ
  | false =>
    have ho := (big_of l).1 hbg
    have e1 : rootE l = 0 := if_neg (by rw [hbg]; decide)
    have e2 : rootH l = hashOf (rootT l) := if_neg (by rw [hbg]; decide)
    rw [e1, e2]
    rw [hbg] at hb
    have lt := topH_len (txs l)
    have ht := rtop_all (h.turn_no T0) ho (hl.turn T0 (fun q => q)) (by have := T0.size; omega)
    have sT := hb32_size lt
    have oT := hb32_one (topH (txs l))
    have iT := hb32_info lt
    have HR : Shut (∀ W, Turn no w W → Calls Tryz.prog 63 #[.int .i64 l.length, .agg (hb32 (topH (txs l)))] W fun e w' => ∃ v, e = .returned v ∧ Bs w' v (rootT l) ∧ Turn no W w') := fun W T => (rootText_any W l.length ho.1 (topH (txs l)) lt).mono (fun e w' ⟨v, e1, o, t⟩ => ⟨v, e1, o.bs, t⟩)
    have hln : (rootT l).length ≤ 140737488355328 := by simp [rootT, numE_len, lt]
    have HS : Shut (∀ W, Turn no w W → ∀ v, Bs W v (rootT l) → Calls Tryz.prog 28 #[v] W fun e w' => e = .returned (.agg (hv (rootT l))) ∧ Turn no W w') := fun W T v b => rsum_all W v _ b (hl.turn T (fun q => q)) (by have := T.size; omega) hln
    rw [show hb32 (hashOf (rootT l)) = hv (rootT l) from rfl]
    have hs := hv_size (rootT l)
    have o1 := hv_one (rootT l)
    have hi := hv_info (rootT l)
    generalize hv (rootT l) = H at *
    generalize rootT l = TX at *
    generalize hb32 (topH (txs l)) = TP at *
    generalize hb32 z32 = Z at *
    generalize l.length = n at *
    clear e1 e2 hbg h lt ho hln
    go_enter Tryz.func26, Tryz.ntmps26
    go_upto_region 1 with fail
    try rw [hw0]
    clear hw0
    go_upto_region 4 with (first | (go_at_call 61; refine hb.mono ?_; clear hb; rintro e w1 ⟨rfl, hw1⟩; subst hw1) | (go_at_call 62; refine ht.mono ?_; clear ht; rintro e w2 ⟨rfl, t2⟩) | (guard_target =~ wpList _ _ _ ({ dst := _, op := Op.store 31 _ _, .. } :: _) _ _; refine wpList_store_anyN rfl rfl 31 (.tmp 4) (.tmp 10) rfl _ TP rfl rfl 31 Z (Row.new _ Z 31) iT (by rw [hZ, sT]) oT ?_; intro w4 R4 t4))
    have T24 : Turn (fun q => q = w2.heap.size) w2 w4 := ((Turn.refl no w2).alloc _).of_no.trans t4 (fun _ _ e => e)
    have RZ2 := Row.turn RZ t2 (fun q => q)
    have T2 := T0.then_no t2
    have g2 := RZ2.lt
    have RZ4 := Row.turn RZ2 T24 (fun e => by omega)
    have T4 := T2.trans T24 (fun i hi e => by have := T2.size; omega)
    have hr := HR.out w4 T4
    clear T24 RZ2 RZ t2 t4 T2 T0
    generalize w2.heap.size = g4 at *
    go_upto_region 5 with (first | (guard_target =~ wpList _ _ _ ({ dst := _, op := Op.load 31 _, .. } :: _) _ _; refine wpList_load_row rfl 31 (.tmp 4) rfl g4 rfl 31 TP _ _ R4 Tryz.underlying31 rfl iT ?_) | (go_at_call 63; refine hr.mono ?_; clear hr; rintro e w5 ⟨v5, rfl, b5, t5⟩; have hsu := HS.out w5 (T4.then_no t5) v5 b5) | (go_at_call 28; refine hsu.mono ?_; clear hsu; rintro e w6 ⟨rfl, t6⟩) | (guard_target =~ wpList _ _ _ ({ dst := _, op := Op.store 31 _ _, .. } :: _) _ _; refine wpList_store_anyN rfl rfl 31 (.tmp 5) (.tmp 15) rfl _ H rfl rfl 31 Z (Row.new _ Z 31) hi (by rw [hZ, hs]) o1 ?_; intro w7 R7 t7))
    have T67 : Turn (fun q => q = w6.heap.size) w6 w7 := ((Turn.refl no w6).alloc _).of_no.trans t7 (fun _ _ e => e)
    have t56 := t5.then_no t6
    have T47 : Turn no w4 w7 := t56.trans T67 (fun i hi e => by have := t56.size; omega)
    have RZ7 := Row.turn RZ4 T47 (fun q => q)
    have T7 := T4.then_no T47
    clear T67 t56 T47 RZ4 t5 t6 t7 T4
    generalize w6.heap.size = g6 at *
    go_wp2_with (first | (guard_target =~ wpList _ _ _ ({ dst := _, op := Op.load 31 _, .. } :: _) _ _; refine wpList_load_row rfl 31 (.tmp 5) rfl g6 rfl 31 H _ _ R7 Tryz.underlying31 rfl hi ?_) | (guard_target =~ wpList _ _ _ ({ dst := _, op := Op.store 31 _ _, .. } :: _) _ _; refine wpList_store_row rfl 31 (.tmp 2) (.tmp 16) rfl w.heap.size H rfl rfl 31 Z RZ7 hi (by rw [hZ, hs]) o1 ?_))
    refine bodyPost_ret (v := .tuple #[.agg H, .int .i64 0]) ?_ rfl ⟨rfl, T7.setRow _ _ (fun q => by omega)⟩
    exact results_cell_row_tmp (P := Tryz.prog) Tryz.results26 _ _ w.heap.size 31 H (0, 0) _ rfl (setRow_heap _ _ _ _ _ _ RZ7) Tryz.underlying31 rfl hi
theorem root_nil (w : World) (hl : Laid1 w) (h2 : 2 ≤ w.heap.size) : Calls Tryz.prog 19 #[.slice none 0 0] w fun e w' => e = .returned (.tuple #[.agg (hb32 (rootH [])), .int .i64 0]) ∧ Turn no w w' := root7 w none 0 [] ⟨by simp, by simp [maxLen], by simp, .inl rfl⟩ hl h2
theorem rroot_nil (w : World) (hl : Laid0 w) (h2 : 2 ≤ w.heap.size) : Calls Tryz.prog 26 #[.slice none 0 0] w fun e w' => e = .returned (.tuple #[.agg (hb32 (rootH [])), .int .i64 0]) ∧ Turn no w w' := root8 w none 0 [] ⟨by simp, by simp [maxLen], by simp, .inl rfl⟩ hl h2
end Go.Proofs.YtmihgjdodgmipaaGreatDoor

