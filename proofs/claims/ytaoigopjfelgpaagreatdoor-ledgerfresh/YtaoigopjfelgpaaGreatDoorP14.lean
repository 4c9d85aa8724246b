/- Prove of a ledger that does not stand, on both sides. -/
import Derived.Test.YtaoigopjfelgpaaGreatDoorP5
import Derived.Test.YtaoigopjfelgpaaGreatDoorGd
namespace Go.Proofs.YtaoigopjfelgpaaGreatDoor
open Go.RowKit
set_option linter.unusedVariables false

/-- No witness. -/
def WZ : Array Value := (wtL z32 (.slice none 0 0) (.slice none 0 0)).toArray
theorem zero37 (w : World) : (zeroValue 43).run Tryz.prog w = .ok (.agg WZ) w := by kernel_rfl
theorem bld37 (w : World) : (Instr.build 43 #[]).run Tryz.prog w = .ok (.agg WZ) w := by kernel_rfl
theorem info37w : (Tryz.prog.info? 43).map (·.size) = some WZ.size := by kernel_rfl
theorem one37w : WZ.all (·.oneCell') = true := by kernel_rfl
set_option maxRecDepth 100000 in
set_option maxHeartbeats 8000000 in
theorem prove8_bad (w : World) (va vr : Value) (l : List Ac) (r : List Rl) (ha : As w va l) (hr : Rs w vr r) (b s : Nat) (x : Nat) (he : ledE b l r s ≠ 0) : Calls Tryz.prog 12 #[.agg (ldA va vr b s), .int .u64 x] w fun e w' => e = .returned (.tuple #[.agg WZ, .int .i64 (ledE b l r s)]) ∧ Turn no w w' := by
  have oZ := one37w
  have iZ := info37w
  have hzv := zero37
  have hbd := shut bld37
  have iL := ld_info va vr b s
  obtain ⟨w0, hw0⟩ : ∃ w0, (w.alloc (.cells (ldA va vr b s) 30)).alloc (.cells WZ 43) = w0 := ⟨_, rfl⟩
  have T0 : Turn no w w0 := by rw [← hw0]; exact ((Turn.refl no w).alloc _).alloc _
  have RL : Row w0 w.heap.size (ldA va vr b s) 30 := by rw [← hw0]; exact (Row.new w _ 30).alloc _
  have RZ : Row w0 (w.heap.size + 1) WZ 43 := by rw [← hw0]; exact Row.newAt _ _ _ _ (by simp)
  have hsd : Calls Tryz.prog 24 #[.agg (ldA va vr b s)] w0 fun e w' => e = .returned (.int .i64 (ledE b l r s)) ∧ Turn no w0 w' := sound11 w0 va vr l r (ha.turn_no T0) (hr.turn_no T0) b s
  have n1 : (ledE b l r s != 0) = true := by simpa using he
  generalize ledE b l r s = E at *
  clear ha hr he
  generalize WZ = Z at *
  generalize ldA va vr b s = LA at *
  have HT0 := shut T0
  go_enter Tryz.func12, Tryz.ntmps12
  go_upto_region 1 with fail
  try rw [hw0]
  clear hw0 hzv
  go_wp2_with (first | (guard_target =~ wpList _ _ _ ({ dst := _, op := Op.load 30 _, .. } :: _) _ _; refine wpList_load_row rfl 30 (.tmp 2) rfl w.heap.size rfl 30 LA _ _ RL Tryz.underlying30 rfl iL ?_) | (go_at_call 24; refine hsd.mono ?_; clear hsd; rintro e w1 ⟨rfl, t1⟩; have RZ1 := RZ.turn t1 (fun q => q)) | (guard_target =~ wpList _ _ _ ({ dst := _, op := Op.build 43 _, .. } :: _) _ _; refine wpList_buildG (by kernel_rfl) 43 rfl _ (hbd.out _) ?_) | (guard_target =~ wpList _ _ _ ({ dst := _, op := Op.store 43 _ _, .. } :: _) _ _; refine wpList_store_row rfl 43 (.tmp 4) (.tmp 17) rfl (w.heap.size + 1) Z rfl rfl 43 Z RZ1 iZ rfl oZ ?_))
  refine bodyPost_ret (v := .tuple #[.agg Z, .int .i64 E]) ?_ rfl ⟨rfl, (HT0.out.then_no t1).setRow _ _ (fun q => by omega)⟩
  exact results_cell_row_tmp (P := Tryz.prog) Tryz.results12 _ _ (w.heap.size + 1) 43 Z (0, 0) _ rfl (setRow_heap _ _ _ _ _ _ RZ1) Tryz.underlying43 rfl iZ
set_option maxRecDepth 100000 in
set_option maxHeartbeats 8000000 in
theorem rprove10_bad (w : World) (va vr : Value) (l : List Ac) (r : List Rl) (ha : As w va l) (hr : Rs w vr r) (b s : Nat) (x : Nat) (he : ledE b l r s ≠ 0) : Calls Tryz.prog 13 #[.agg (ldA va vr b s), .int .u64 x] w fun e w' => e = .returned (.tuple #[.agg WZ, .int .i64 (ledE b l r s)]) ∧ Turn no w w' := by
  have oZ := one37w
  have iZ := info37w
  have hzv := zero37
  have hbd := shut bld37
  have iL := ld_info va vr b s
  obtain ⟨w0, hw0⟩ : ∃ w0, (w.alloc (.cells (ldA va vr b s) 30)).alloc (.cells WZ 43) = w0 := ⟨_, rfl⟩
  have T0 : Turn no w w0 := by rw [← hw0]; exact ((Turn.refl no w).alloc _).alloc _
  have RL : Row w0 w.heap.size (ldA va vr b s) 30 := by rw [← hw0]; exact (Row.new w _ 30).alloc _
  have RZ : Row w0 (w.heap.size + 1) WZ 43 := by rw [← hw0]; exact Row.newAt _ _ _ _ (by simp)
  have hsd : Calls Tryz.prog 46 #[.agg (ldA va vr b s)] w0 fun e w' => e = .returned (.int .i64 (ledE b l r s)) ∧ Turn no w0 w' := sound14 w0 va vr l r (ha.turn_no T0) (hr.turn_no T0) b s
  have n1 : (ledE b l r s != 0) = true := by simpa using he
  generalize ledE b l r s = E at *
  clear ha hr he
  generalize WZ = Z at *
  generalize ldA va vr b s = LA at *
  have HT0 := shut T0
  go_enter Tryz.func13, Tryz.ntmps13
  go_upto_region 1 with fail
  try rw [hw0]
  clear hw0 hzv
  go_wp2_with (first | (guard_target =~ wpList _ _ _ ({ dst := _, op := Op.load 30 _, .. } :: _) _ _; refine wpList_load_row rfl 30 (.tmp 2) rfl w.heap.size rfl 30 LA _ _ RL Tryz.underlying30 rfl iL ?_) | (go_at_call 46; refine hsd.mono ?_; clear hsd; rintro e w1 ⟨rfl, t1⟩; have RZ1 := RZ.turn t1 (fun q => q)) | (guard_target =~ wpList _ _ _ ({ dst := _, op := Op.build 43 _, .. } :: _) _ _; refine wpList_buildG (by kernel_rfl) 43 rfl _ (hbd.out _) ?_) | (guard_target =~ wpList _ _ _ ({ dst := _, op := Op.store 43 _ _, .. } :: _) _ _; refine wpList_store_row rfl 43 (.tmp 4) (.tmp 19) rfl (w.heap.size + 1) Z rfl rfl 43 Z RZ1 iZ rfl oZ ?_))
  refine bodyPost_ret (v := .tuple #[.agg Z, .int .i64 E]) ?_ rfl ⟨rfl, (HT0.out.then_no t1).setRow _ _ (fun q => by omega)⟩
  exact results_cell_row_tmp (P := Tryz.prog) Tryz.results13 _ _ (w.heap.size + 1) 43 Z (0, 0) _ rfl (setRow_heap _ _ _ _ _ _ RZ1) Tryz.underlying43 rfl iZ
end Go.Proofs.YtaoigopjfelgpaaGreatDoor

