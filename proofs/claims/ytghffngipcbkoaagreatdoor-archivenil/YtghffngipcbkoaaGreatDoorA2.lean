/- Nothing held against nothing: sameCert, sameBlock. -/
import Derived.Test.YtghffngipcbkoaaGreatDoorA1
namespace Go.Proofs.YtghffngipcbkoaaGreatDoor
open Go.RowKit
set_option linter.unusedVariables false

def hz : List Value := [.int .u8 0, .int .u8 0, .int .u8 0, .int .u8 0, .int .u8 0, .int .u8 0, .int .u8 0, .int .u8 0, .int .u8 0, .int .u8 0, .int .u8 0, .int .u8 0, .int .u8 0, .int .u8 0, .int .u8 0, .int .u8 0, .int .u8 0, .int .u8 0, .int .u8 0, .int .u8 0, .int .u8 0, .int .u8 0, .int .u8 0, .int .u8 0, .int .u8 0, .int .u8 0, .int .u8 0, .int .u8 0, .int .u8 0, .int .u8 0, .int .u8 0, .int .u8 0]
theorem size24 : (Tryz.prog.info? 24).map (·.size) = some hz.length := by kernel_rfl
theorem size27 : (Tryz.prog.info? 27).map (·.size) = some Tryz.zeroCells27.toList.length := by kernel_rfl
theorem size32L : (Tryz.prog.info? 32).map (·.size) = some Z32.toList.length := by kernel_rfl
theorem eq24 (w : World) : (Op.equalIn 10000 24 (.agg hz.toArray) (.agg hz.toArray)).run Tryz.prog w = .ok true w := by kernel_rfl
theorem eq27 (w : World) : (Op.equalIn 10000 27 (.agg Tryz.zeroCells27.toList.toArray) (.agg Tryz.zeroCells27.toList.toArray)).run Tryz.prog w = .ok true w := by kernel_rfl
theorem z34_split : Tryz.zeroCells34.toList = Tryz.zeroCells27.toList ++ (.slice none 0 0 :: .slice none 0 0 :: Z32.toList) := by kernel_rfl
theorem len27 : Tryz.zeroCells27.toList.length = 228 := by kernel_rfl
theorem z34_27 (j : Nat) (x : Value) (h : Tryz.zeroCells27.toList[j]? = some x) : Tryz.zeroCells34[0 + j]? = some x := by
  rw [← Array.getElem?_toList, z34_split, Nat.zero_add, List.getElem?_append_left (List.getElem?_eq_some_iff.1 h).1]
  exact h
theorem z34_32 (j : Nat) (x : Value) (h : Z32.toList[j]? = some x) : Tryz.zeroCells34[230 + j]? = some x := by
  rw [← Array.getElem?_toList, z34_split, List.getElem?_append_right (by rw [len27]; omega), len27, show 230 + j - 228 = j + 1 + 1 by omega]
  exact h
theorem z34_228 : Tryz.zeroCells34[228]? = some (.slice none 0 0) := by
  rw [← Array.getElem?_toList, z34_split, List.getElem?_append_right (by rw [len27]; omega), len27]
  rfl
theorem z34_229 : Tryz.zeroCells34[229]? = some (.slice none 0 0) := by
  rw [← Array.getElem?_toList, z34_split, List.getElem?_append_right (by rw [len27]; omega), len27]
  rfl
theorem z32_id (j : Nat) (x : Value) (h : hz[j]? = some x) : Z32[2 + j]? = some x := by
  have hj : j < 32 := (List.getElem?_eq_some_iff.1 h).1
  rw [← h]
  rcases j with _ | _ | _ | _ | _ | _ | _ | _ | _ | _ | _ | _ | _ | _ | _ | _ | _ | _ | _ | _ | _ | _ | _ | _ | _ | _ | _ | _ | _ | _ | _ | _ | j <;> first | rfl | omega

set_option maxRecDepth 100000 in
set_option maxHeartbeats 4000000 in
theorem cert16 (w : World) : Calls Tryz.prog 12 #[.agg Z32, .agg Z32] w fun e w' => e = .returned (.bool true) ∧ Turn no w w' := by
  obtain ⟨w0, hw0⟩ : ∃ w0, (w.alloc (.cells Z32 32)).alloc (.cells Z32 32) = w0 := ⟨_, rfl⟩
  have T0 : Turn no w w0 := by rw [← hw0]; exact ((Turn.refl no w).alloc _).alloc _
  have B0 : Row w0 w.heap.size Z32 32 := by rw [← hw0]; exact (Row.new w _ 32).alloc _
  have B1 : Row w0 (w.heap.size + 1) Z32 32 := by rw [← hw0]; exact Row.newAt _ _ _ _ (by simp)
  have x0 : w0.cell? ⟨w.heap.size, 0, none⟩ = some (.int .u64 0) := B0.cell 0 _ rfl
  have y0 : w0.cell? ⟨w.heap.size + 1, 0, none⟩ = some (.int .u64 0) := B1.cell 0 _ rfl
  have x1 : w0.cell? ⟨w.heap.size, 1, none⟩ = some (.int .i64 0) := B0.cell 1 _ rfl
  have y1 : w0.cell? ⟨w.heap.size + 1, 1, none⟩ = some (.int .i64 0) := B1.cell 1 _ rfl
  have x2 : w0.rangeAt w.heap.size 2 hz := fun j x hx => B0.cell (2 + j) _ (z32_id j x hx)
  have y2 : w0.rangeAt (w.heap.size + 1) 2 hz := fun j x hx => B1.cell (2 + j) _ (z32_id j x hx)
  have x34 : w0.cell? ⟨w.heap.size, 34, none⟩ = some (.slice none 0 0) := B0.cell 34 _ rfl
  have y34 : w0.cell? ⟨w.heap.size + 1, 34, none⟩ = some (.slice none 0 0) := B1.cell 34 _ rfl
  have s24 := size24
  have e24 := fun W => eq24 W
  have HT0 := shut T0
  clear T0 B0 B1
  obtain ⟨z, hzz⟩ : ∃ z, Z32 = z := ⟨_, rfl⟩
  rw [hzz] at hw0 ⊢
  clear hzz
  generalize hz = zh at *
  go_enter Tryz.func12, Tryz.ntmps12
  go_upto_region 1 with fail
  try rw [hw0]
  clear hw0
  go_wp2_with (first | (refine wpList_load_midG (by rfl) 24 (.tmp 19) rfl w.heap.size 2 rfl zh _ x2 Tryz.underlying24 rfl s24 ?_) | (refine wpList_load_midG (by rfl) 24 (.tmp 21) rfl (w.heap.size + 1) 2 rfl zh _ y2 Tryz.underlying24 rfl s24 ?_))
  refine wp_loop_once ?_
  go_wp2_with fail
  go_ret
  exact ⟨rfl, HT0.out⟩

set_option maxRecDepth 100000 in
set_option maxHeartbeats 4000000 in
theorem block15 (w : World) : Calls Tryz.prog 11 #[.agg Tryz.zeroCells34, .agg Tryz.zeroCells34] w fun e w' => e = .returned (.bool true) ∧ Turn no w w' := by
  obtain ⟨w0, hw0⟩ : ∃ w0, (w.alloc (.cells Tryz.zeroCells34 34)).alloc (.cells Tryz.zeroCells34 34) = w0 := ⟨_, rfl⟩
  have T0 : Turn no w w0 := by rw [← hw0]; exact ((Turn.refl no w).alloc _).alloc _
  have B0 : Row w0 w.heap.size Tryz.zeroCells34 34 := by rw [← hw0]; exact (Row.new w _ 34).alloc _
  have B1 : Row w0 (w.heap.size + 1) Tryz.zeroCells34 34 := by rw [← hw0]; exact Row.newAt _ _ _ _ (by simp)
  have x0 : w0.rangeAt w.heap.size 0 Tryz.zeroCells27.toList := fun j x hx => B0.cell (0 + j) _ (z34_27 j x hx)
  have y0 : w0.rangeAt (w.heap.size + 1) 0 Tryz.zeroCells27.toList := fun j x hx => B1.cell (0 + j) _ (z34_27 j x hx)
  have HK : Shut (∀ W, Turn no w0 W → W.cell? ⟨w.heap.size, 228, none⟩ = some (.slice none 0 0) ∧ W.cell? ⟨w.heap.size, 229, none⟩ = some (.slice none 0 0)) := fun W q =>
    ⟨(B0.turn q (fun q => q)).cell 228 _ z34_228, (B0.turn q (fun q => q)).cell 229 _ z34_229⟩
  obtain ⟨x228, x229⟩ := HK.out w0 (Turn.refl no w0)
  have y228 : w0.cell? ⟨w.heap.size + 1, 228, none⟩ = some (.slice none 0 0) := B1.cell 228 _ z34_228
  have y229 : w0.cell? ⟨w.heap.size + 1, 229, none⟩ = some (.slice none 0 0) := B1.cell 229 _ z34_229
  have x230 : w0.rangeAt w.heap.size 230 Z32.toList := fun j x hx => B0.cell (230 + j) _ (z34_32 j x hx)
  have y230 : w0.rangeAt (w.heap.size + 1) 230 Z32.toList := fun j x hx => B1.cell (230 + j) _ (z34_32 j x hx)
  have s27 := size27
  have s32 := size32L
  have e27 := fun W => eq27 W
  have c16 : ∀ W, Calls Tryz.prog 12 #[.agg Z32.toList.toArray, .agg Z32.toList.toArray] W fun e w' => e = .returned (.bool true) ∧ Turn no W w' := fun W => by
    rw [Array.toArray_toList]
    exact cert16 W
  have HT0 := shut T0
  clear T0 B0 B1
  generalize Tryz.zeroCells27.toList = z27 at *
  generalize Z32.toList = z32 at *
  generalize hz34 : Tryz.zeroCells34 = z34 at *
  clear hz34
  go_enter Tryz.func11, Tryz.ntmps11
  go_upto_region 1 with fail
  try rw [hw0]
  clear hw0
  go_wp2_with (first | (refine wpList_load_midG (by rfl) 27 (.tmp 7) rfl w.heap.size 0 rfl z27 _ x0 Tryz.underlying27 rfl s27 ?_) | (refine wpList_load_midG (by rfl) 27 (.tmp 9) rfl (w.heap.size + 1) 0 rfl z27 _ y0 Tryz.underlying27 rfl s27 ?_) | (refine wpList_load_midG (by rfl) 32 (.tmp 31) rfl w.heap.size 230 rfl z32 _ x230 Tryz.underlying32 rfl s32 ?_) | (refine wpList_load_midG (by rfl) 32 (.tmp 33) rfl (w.heap.size + 1) 230 rfl z32 _ y230 Tryz.underlying32 rfl s32 ?_) | (go_at_call 12; refine (c16 _).mono ?_; rintro e w1 ⟨rfl, t1⟩; have HT1 := shut t1; clear x0 y0 x228 x229 y228 y229 x230 y230 t1; obtain ⟨x228, x229⟩ := HK.out w1 HT1.out))
  refine wp_loop_once ?_
  go_wp2_with fail
  refine wp_loop_once ?_
  go_wp2_with fail
  go_ret
  exact ⟨rfl, HT0.out.then_no HT1.out⟩
end Go.Proofs.YtghffngipcbkoaaGreatDoor
