/- Calls of an archive that no call made; of a disk that no call made. -/
import Derived.Test.YtghffngipcbkoaaGreatDoorA0
import Derived.Deep.CutRange
namespace Go.Proofs.YtghffngipcbkoaaGreatDoor
open Go.RowKit
set_option linter.unusedVariables false

def Z32 : Array Value := #[.int .u64 0, .int .i64 0, .int .u8 0, .int .u8 0, .int .u8 0, .int .u8 0, .int .u8 0, .int .u8 0, .int .u8 0, .int .u8 0, .int .u8 0, .int .u8 0, .int .u8 0, .int .u8 0, .int .u8 0, .int .u8 0, .int .u8 0, .int .u8 0, .int .u8 0, .int .u8 0, .int .u8 0, .int .u8 0, .int .u8 0, .int .u8 0, .int .u8 0, .int .u8 0, .int .u8 0, .int .u8 0, .int .u8 0, .int .u8 0, .int .u8 0, .int .u8 0, .int .u8 0, .int .u8 0, .slice none 0 0]
def Z47 : Array Value := #[.string ⟨#[]⟩, .int .u64 0, .int .i64 0, .int .u64 0, .int .u64 0, .int .u64 0, .int .i64 0, .int .u64 0, .int .u64 0, .int .u64 0, .int .u64 0, .int .u64 0, .int .u64 0, .int .u64 0, .int .u64 0, .int .u8 0, .int .u8 0, .int .u8 0, .int .u8 0, .int .u8 0, .int .u8 0, .int .u8 0, .int .u8 0, .int .u8 0, .int .u8 0, .int .u8 0, .int .u8 0, .int .u8 0, .int .u8 0, .int .u8 0, .int .u8 0, .int .u8 0, .int .u8 0, .int .u8 0, .int .u8 0, .int .u8 0, .int .u8 0, .int .u8 0, .int .u8 0, .int .u8 0, .int .u8 0, .int .u8 0, .int .u8 0, .int .u8 0, .int .u8 0, .int .u8 0, .int .u8 0, .slice none 0 0, .slice none 0 0, .slice none 0 0, .slice none 0 0, .slice none 0 0, .slice none 0 0, .int .u64 0, .int .u64 0]
theorem built34 : Tryz.prog.built 34 [] = some Tryz.zeroCells34 := by kernel_rfl
theorem built32 : Tryz.prog.built 32 [] = some Z32 := by kernel_rfl
theorem built47 : Tryz.prog.built 47 [] = some Z47 := by kernel_rfl
theorem size34 : (Tryz.prog.info? 34).map (·.size) = some Tryz.zeroCells34.size := by kernel_rfl
theorem size32 : (Tryz.prog.info? 32).map (·.size) = some Z32.size := by kernel_rfl
theorem size47 : (Tryz.prog.info? 47).map (·.size) = some Z47.size := by kernel_rfl
theorem one34 : Tryz.zeroCells34.all (·.oneCell') = true := by kernel_rfl
theorem one32 : Z32.all (·.oneCell') = true := by kernel_rfl
theorem one47 : Z47.all (·.oneCell') = true := by kernel_rfl
theorem results_rows {P : Program} {fn : Func} {p q u : Tmp} {ty tq : TypeId} (h : fn.results = #[.cell p ty, .cell q tq, .tmp u]) (tmps : Array Value) (w : World) (g g' : Nat) (t t' : TypeId) (cs ds : Array Value) (d d' : TypeDesc)
    (hp : tmps.getD p undef = .pointer (some ⟨g, 0, none⟩)) (hg : Row w g cs t) (hq : tmps.getD q undef = .pointer (some ⟨g', 0, none⟩)) (hg' : Row w g' ds t')
    (hu : P.underlying ty = some d) (hd : (match d with | .struct _ | .array _ _ => true | _ => false) = true) (hi : (P.info? ty).map (·.size) = some cs.size)
    (hu' : P.underlying tq = some d') (hd' : (match d' with | .struct _ | .array _ _ => true | _ => false) = true) (hi' : (P.info? tq).map (·.size) = some ds.size) :
    (results fn tmps).run P w = .ok (.tuple #[.agg cs, .agg ds, tmps.getD u undef]) w := by
  have hp' : tmps[p]?.getD undef = .pointer (some ⟨g, 0, none⟩) := by simpa using hp
  have hq' : tmps[q]?.getD undef = .pointer (some ⟨g', 0, none⟩) := by simpa using hq
  simp only [results, h]
  simp [Sem.run_bind, hp', hq', asAddr, run_loadVar_row w g t ty cs (0, 0) d hg hu hd hi, run_loadVar_row w g' t' tq ds (0, 0) d' hg' hu' hd' hi']
theorem results_row {P : Program} {fn : Func} {p u : Tmp} {ty : TypeId} (h : fn.results = #[.cell p ty, .tmp u]) (tmps : Array Value) (w : World) (g : Nat) (t : TypeId) (cs : Array Value) (d : TypeDesc)
    (hp : tmps.getD p undef = .pointer (some ⟨g, 0, none⟩)) (hg : Row w g cs t)
    (hu : P.underlying ty = some d) (hd : (match d with | .struct _ | .array _ _ => true | _ => false) = true) (hi : (P.info? ty).map (·.size) = some cs.size) :
    (results fn tmps).run P w = .ok (.tuple #[.agg cs, tmps.getD u undef]) w := by
  rw [results_cell_tmp h]
  simp [hp, asAddr, run_loadVar_row w g t ty cs (0, 0) d hg hu hd hi]

set_option maxRecDepth 100000 in
set_option maxHeartbeats 4000000 in
theorem load10 (w : World) (v : Value) (h : Int) (hn : NoA w v) : Calls Tryz.prog 6 #[v, .int .u64 h] w fun e w' => e = .returned (.tuple #[.agg Tryz.zeroCells34, .agg Z32, .int .i64 1]) ∧ Turn no w w' := by
  obtain ⟨w0, hw0⟩ : ∃ w0, (w.alloc (.cells Tryz.zeroCells34 34)).alloc (.cells #[.int .u64 0, .int .i64 0, .int .u8 0, .int .u8 0, .int .u8 0, .int .u8 0, .int .u8 0, .int .u8 0, .int .u8 0, .int .u8 0, .int .u8 0, .int .u8 0, .int .u8 0, .int .u8 0, .int .u8 0, .int .u8 0, .int .u8 0, .int .u8 0, .int .u8 0, .int .u8 0, .int .u8 0, .int .u8 0, .int .u8 0, .int .u8 0, .int .u8 0, .int .u8 0, .int .u8 0, .int .u8 0, .int .u8 0, .int .u8 0, .int .u8 0, .int .u8 0, .int .u8 0, .int .u8 0, .slice none 0 0] 32) = w0 := ⟨_, rfl⟩
  have T0 : Turn no w w0 := by rw [← hw0]; exact ((Turn.refl no w).alloc _).alloc _
  have B0 : Row w0 w.heap.size Tryz.zeroCells34 34 := by rw [← hw0]; exact (Row.new w _ 34).alloc _
  have B1 : Row w0 (w.heap.size + 1) Z32 32 := by rw [← hw0]; exact Row.newAt _ _ _ _ (by simp)
  have c := made38 w0 v (hn.turn T0)
  have HT0 := shut T0
  have h34 := built34
  have h32 := built32
  have s34 := size34
  have s32 := size32
  have o34 := one34
  have o32 := one32
  clear T0
  generalize hz34 : Tryz.zeroCells34 = z34 at *
  obtain ⟨z32, hz32⟩ : ∃ z, Z32 = z := ⟨_, rfl⟩
  rw [hz32] at B1 h32 s32 o32 ⊢
  clear hz32 hn
  go_enter Tryz.func6, Tryz.ntmps6
  try rw [hz34]
  go_upto_region 1 with fail
  try rw [hz34]
  try rw [hw0]
  clear hw0
  go_wp2_with (first | (go_at_call 17; refine c.mono ?_; rintro e w1 ⟨rfl, rfl⟩) | (refine wpList_build_none rfl 34 rfl z34 h34 ?_) | (refine wpList_build_none rfl 32 rfl z32 h32 ?_) | (refine wpList_store_anyN rfl rfl 34 (.tmp 4) (.tmp 13) rfl w.heap.size z34 rfl rfl 34 z34 B0 s34 rfl o34 ?_; intro w2 R2 T2; have B1' := B1.turn T2 (fun q => by have q : w.heap.size + 1 = w.heap.size := q; omega); have HT2 := shut T2; clear T2 B1 B0) | (refine wpList_store_anyN rfl rfl 32 (.tmp 5) (.tmp 14) rfl (w.heap.size + 1) z32 rfl rfl 32 z32 B1' s32 rfl o32 ?_; intro w3 R3 T3; have R2' := R2.turn T3 (fun q => by have q : w.heap.size = w.heap.size + 1 := q; omega); have HT3 := shut T3; clear T3 B1' R2))
  refine ⟨rfl, _, results_rows (g := w.heap.size) (g' := w.heap.size + 1) (cs := z34) (ds := z32) (t := 34) (t' := 32) rfl _ _ _ _ rfl R2' rfl R3 Tryz.underlying34 rfl s34 Tryz.underlying32 rfl s32, rfl, ?_⟩
  exact (HT0.out.trans HT2.out (fun k hk q => by have q : k = w.heap.size := q; omega)).trans HT3.out (fun k hk q => by have q : k = w.heap.size + 1 := q; omega)

set_option maxRecDepth 100000 in
set_option maxHeartbeats 4000000 in
theorem noted11 (w : World) (v : Value) (hn : NoA w v) : Calls Tryz.prog 7 #[v] w fun e w' => e = .returned (.tuple #[.agg Z47, .int .i64 1]) ∧ Turn no w w' := by
  obtain ⟨w0, hw0⟩ : ∃ w0, w.alloc (.cells #[.string ⟨#[]⟩, .int .u64 0, .int .i64 0, .int .u64 0, .int .u64 0, .int .u64 0, .int .i64 0, .int .u64 0, .int .u64 0, .int .u64 0, .int .u64 0, .int .u64 0, .int .u64 0, .int .u64 0, .int .u64 0, .int .u8 0, .int .u8 0, .int .u8 0, .int .u8 0, .int .u8 0, .int .u8 0, .int .u8 0, .int .u8 0, .int .u8 0, .int .u8 0, .int .u8 0, .int .u8 0, .int .u8 0, .int .u8 0, .int .u8 0, .int .u8 0, .int .u8 0, .int .u8 0, .int .u8 0, .int .u8 0, .int .u8 0, .int .u8 0, .int .u8 0, .int .u8 0, .int .u8 0, .int .u8 0, .int .u8 0, .int .u8 0, .int .u8 0, .int .u8 0, .int .u8 0, .int .u8 0, .slice none 0 0, .slice none 0 0, .slice none 0 0, .slice none 0 0, .slice none 0 0, .slice none 0 0, .int .u64 0, .int .u64 0] 47) = w0 := ⟨_, rfl⟩
  have T0 : Turn no w w0 := by rw [← hw0]; exact (Turn.refl no w).alloc _
  have B0 : Row w0 w.heap.size Z47 47 := by rw [← hw0]; exact Row.new w _ 47
  have c := made38 w0 v (hn.turn T0)
  have HT0 := shut T0
  have h47 := built47
  have s47 := size47
  have o47 := one47
  clear T0
  obtain ⟨z47, hz47⟩ : ∃ z, Z47 = z := ⟨_, rfl⟩
  rw [hz47] at B0 h47 s47 o47 ⊢
  clear hz47 hn
  go_enter Tryz.func7, Tryz.ntmps7
  go_upto_region 1 with fail
  try rw [hw0]
  clear hw0
  go_wp2_with (first | (go_at_call 17; refine c.mono ?_; rintro e w1 ⟨rfl, rfl⟩) | (refine wpList_build_none rfl 47 rfl z47 h47 ?_) | (refine wpList_store_anyN rfl rfl 47 (.tmp 2) (.tmp 9) rfl w.heap.size z47 rfl rfl 47 z47 B0 s47 rfl o47 ?_; intro w2 R2 T2; have HT2 := shut T2; clear T2 B0))
  refine ⟨rfl, _, results_row (g := w.heap.size) (cs := z47) (t := 47) rfl _ _ _ rfl R2 Tryz.underlying47 rfl s47, rfl, ?_⟩
  exact HT0.out.trans HT2.out (fun k hk q => by have q : k = w.heap.size := q; omega)

set_option maxRecDepth 100000 in
theorem save13 (w : World) (v : Value) (B C : Array Value) (hn : NoA w v) : Calls Tryz.prog 9 #[v, .agg B, .agg C] w fun e w' => e = .returned (.int .i64 1) ∧ Turn no w w' := by
  obtain ⟨a, rfl⟩ : ∃ a, v = .pointer a := by rcases hn with rfl | ⟨p, rfl, _⟩ <;> exact ⟨_, rfl⟩
  obtain ⟨w0, hw0⟩ : ∃ w0, ((w.alloc (.cells #[.pointer a] 48)).alloc (.cells B 34)).alloc (.cells C 32) = w0 := ⟨_, rfl⟩
  have T0 : Turn no w w0 := by rw [← hw0]; exact (((Turn.refl no w).alloc _).alloc _).alloc _
  have B0 : Row w0 w.heap.size #[.pointer a] 48 := by rw [← hw0]; exact ((Row.new w _ 48).alloc _).alloc _
  have x0 := B0.cell 0 _ rfl
  have c := fun f => change44 w0 (.pointer a) f (hn.turn T0)
  have HT0 := shut T0
  clear T0 B0 hn
  go_enter Tryz.func9, Tryz.ntmps9
  go_upto_region 1 with fail
  try rw [hw0]
  clear hw0
  go_wp2_with (go_at_call 23; refine (c _).mono ?_; rintro e w1 ⟨rfl, rfl⟩)
  go_ret
  exact ⟨rfl, HT0.out⟩
set_option maxRecDepth 100000 in
theorem note14 (w : World) (v : Value) (B : Array Value) (hn : NoA w v) : Calls Tryz.prog 10 #[v, .agg B] w fun e w' => e = .returned (.int .i64 1) ∧ Turn no w w' := by
  obtain ⟨a, rfl⟩ : ∃ a, v = .pointer a := by rcases hn with rfl | ⟨p, rfl, _⟩ <;> exact ⟨_, rfl⟩
  obtain ⟨w0, hw0⟩ : ∃ w0, (w.alloc (.cells #[.pointer a] 48)).alloc (.cells B 47) = w0 := ⟨_, rfl⟩
  have T0 : Turn no w w0 := by rw [← hw0]; exact ((Turn.refl no w).alloc _).alloc _
  have B0 : Row w0 w.heap.size #[.pointer a] 48 := by rw [← hw0]; exact (Row.new w _ 48).alloc _
  have x0 := B0.cell 0 _ rfl
  have c := fun f => change44 w0 (.pointer a) f (hn.turn T0)
  have HT0 := shut T0
  clear T0 B0 hn
  go_enter Tryz.func10, Tryz.ntmps10
  go_upto_region 1 with fail
  try rw [hw0]
  clear hw0
  go_wp2_with (go_at_call 23; refine (c _).mono ?_; rintro e w1 ⟨rfl, rfl⟩)
  go_ret
  exact ⟨rfl, HT0.out⟩
set_option maxRecDepth 100000 in
theorem find56 (w : World) (v : Value) (s : ByteArray) (hn : NoA w v) : Calls Tryz.prog 33 #[v, .string s] w fun e w' => e = .returned (.tuple #[.agg #[.slice none 0 0, .int .i64 0], .int .i64 1]) ∧ Turn no w w' := by
  obtain ⟨w0, hw0⟩ : ∃ w0, w.alloc (.cells #[.slice none 0 0, .int .i64 0] 118) = w0 := ⟨_, rfl⟩
  have T0 : Turn no w w0 := by rw [← hw0]; exact (Turn.refl no w).alloc _
  have B0 : Row w0 w.heap.size #[.slice none 0 0, .int .i64 0] 118 := by rw [← hw0]; exact Row.new w _ 118
  have c := ready59 w0 v s (hn.turn T0)
  have HT0 := shut T0
  have s118 : (Tryz.prog.info? 118).map (·.size) = some (#[.slice none 0 0, .int .i64 0] : Array Value).size := by kernel_rfl
  have o118 : (#[.slice none 0 0, .int .i64 0] : Array Value).all (·.oneCell') = true := by kernel_rfl
  clear T0 hn
  go_enter Tryz.func33, Tryz.ntmps33
  go_upto_region 1 with fail
  try rw [hw0]
  clear hw0
  go_wp2_with (first | (go_at_call 57; refine c.mono ?_; rintro e w1 ⟨rfl, rfl⟩) | (refine wpList_store_anyN rfl rfl 118 (.tmp 4) (.tmp 14) rfl w.heap.size #[.slice none 0 0, .int .i64 0] rfl rfl 118 _ B0 s118 rfl o118 ?_; intro w2 R2 T2; have HT2 := shut T2; clear T2 B0))
  refine ⟨rfl, _, results_row (g := w.heap.size) (cs := #[.slice none 0 0, .int .i64 0]) (t := 118) rfl _ _ _ rfl R2 Tryz.underlying118 rfl s118, rfl, ?_⟩
  exact HT0.out.trans HT2.out (fun k hk q => by have q : k = w.heap.size := q; omega)
set_option maxRecDepth 100000 in
theorem read20 (w : World) (v : Value) (s : ByteArray) (hn : NoA w v) : Calls Tryz.prog 14 #[v, .string s] w fun e w' => e = .returned (.tuple #[.slice none 0 0, .int .i64 1]) ∧ Turn no w w' := by
  have c := find56 w v s hn
  go_enter Tryz.func14, Tryz.ntmps14
  go_wp2_with (go_at_call 33; refine c.mono ?_; rintro e w1 ⟨rfl, t1⟩; have HT1 := shut t1; clear t1)
  exact ⟨rfl, _, results_tmp2 rfl _ _ _, rfl, HT1.out.alloc _⟩
set_option maxRecDepth 100000 in
theorem open8 (w : World) (v : Value) (hn : NoA w v) : Calls Tryz.prog 4 #[v] w fun e w' => e = .returned (.tuple #[.pointer none, .int .i64 1]) ∧ Turn no w w' := by
  have c := read20 w v ⟨#[]⟩ hn
  go_enter Tryz.func4, Tryz.ntmps4
  go_wp2_with (go_at_call 14; refine c.mono ?_; rintro e w1 ⟨rfl, t1⟩; have HT1 := shut t1; clear t1)
  exact ⟨rfl, _, results_tmp2 rfl _ _ _, rfl, HT1.out⟩
end Go.Proofs.YtghffngipcbkoaaGreatDoor
