/- The law's own helpers: sameCert of no certificates; zero ones held against each other. -/
import Derived.Test.YtcjijofckjgikaaDoorT9
namespace Go.Proofs.YtcjijofckjgikaaDoor
open Go.RowKit
set_option linter.unusedVariables false

theorem neq42z (w : World) : (binOp .neq 42 (.agg Tryd.zeroCells42) (.agg Tryd.zeroCells42)).run Tryd.prog w = .ok (.bool false) w := by kernel_rfl
theorem neq24z (w : World) : (binOp .neq 24 (.agg Z24) (.agg Z24)).run Tryd.prog w = .ok (.bool false) w := by kernel_rfl
def zid : List Value := List.replicate 32 (.int .u8 0)
theorem Z24_zid : Z24 = zid.toArray := rfl
theorem z51_at : ∀ j, j < 32 → Z51[2 + j]? = some (.int .u8 0)
  | 0, _ => rfl
  | 1, _ => rfl
  | 2, _ => rfl
  | 3, _ => rfl
  | 4, _ => rfl
  | 5, _ => rfl
  | 6, _ => rfl
  | 7, _ => rfl
  | 8, _ => rfl
  | 9, _ => rfl
  | 10, _ => rfl
  | 11, _ => rfl
  | 12, _ => rfl
  | 13, _ => rfl
  | 14, _ => rfl
  | 15, _ => rfl
  | 16, _ => rfl
  | 17, _ => rfl
  | 18, _ => rfl
  | 19, _ => rfl
  | 20, _ => rfl
  | 21, _ => rfl
  | 22, _ => rfl
  | 23, _ => rfl
  | 24, _ => rfl
  | 25, _ => rfl
  | 26, _ => rfl
  | 27, _ => rfl
  | 28, _ => rfl
  | 29, _ => rfl
  | 30, _ => rfl
  | 31, _ => rfl
  | n + 32, h => absurd h (by omega)
theorem rangeZ (w : World) (g : Nat) (h : Row w g Z51 51) : w.rangeAt g 2 zid := fun j x hx => h.cell (2 + j) _ (by
  have hj : j < 32 := by have := (List.getElem?_eq_some_iff.1 hx).1; simpa [zid] using this
  have : x = .int .u8 0 := by
    have := List.mem_of_getElem? hx
    simp [zid] at this
    exact this
  subst this
  exact z51_at j hj)
set_option maxRecDepth 100000 in
set_option maxHeartbeats 1000000 in
theorem sameCert11 (w : World) : Calls Tryd.prog 11 #[.agg Z51, .agg Z51] w fun e w' => e = .returned (.bool true) ∧ Turn no w w' := by
  obtain ⟨w0, hw0⟩ : ∃ w0, (w.alloc (.cells Z51 51)).alloc (.cells Z51 51) = w0 := ⟨_, rfl⟩
  have T0 : Turn no w w0 := by rw [← hw0]; exact ((Turn.refl no w).alloc _).alloc _
  have B0 : Row w0 w.heap.size Z51 51 := by rw [← hw0]; exact (Row.new w _ 51).alloc _
  have B1 : Row w0 (w.heap.size + 1) Z51 51 := by rw [← hw0]; exact Row.newAt _ _ _ _ (by simp)
  have r0 := rangeZ w0 _ B0
  have r1 := rangeZ w0 _ B1
  have a0 : w0.cell? ⟨w.heap.size, 0, none⟩ = some (.int .u64 0) := B0.cell 0 _ rfl
  have a1 : w0.cell? ⟨w.heap.size, 1, none⟩ = some (.int .i64 0) := B0.cell 1 _ rfl
  have a34 : w0.cell? ⟨w.heap.size, 34, none⟩ = some (.slice none 0 0) := B0.cell 34 _ rfl
  have b0 : w0.cell? ⟨w.heap.size + 1, 0, none⟩ = some (.int .u64 0) := B1.cell 0 _ rfl
  have b1 : w0.cell? ⟨w.heap.size + 1, 1, none⟩ = some (.int .i64 0) := B1.cell 1 _ rfl
  have b34 : w0.cell? ⟨w.heap.size + 1, 34, none⟩ = some (.slice none 0 0) := B1.cell 34 _ rfl
  have e1 := fun W => neq24z W
  rw [Z24_zid] at e1
  have s24 : (Tryd.prog.info? 24).map (·.size) = some zid.length := by rw [size24]; rfl
  have HT0 := shut T0
  clear T0 B0 B1
  generalize zid = I at *
  generalize Z51 = Z at *
  go_enter Tryd.func11, Tryd.ntmps11
  go_upto_region 1 with fail
  try rw [hw0]
  clear hw0
  go_wp2_with (first | (refine wpList_load_midG (by rfl) 24 (.tmp 19) rfl w.heap.size 2 rfl I _ r0 Tryd.underlying24 rfl s24 ?_) | (refine wpList_load_midG (by rfl) 24 (.tmp 21) rfl (w.heap.size + 1) 2 rfl I _ r1 Tryd.underlying24 rfl s24 ?_))
  refine wp_loop_rounds 1 (wp_unroll 0 fun K0 hK0 => ?_)
  go_wp2_with fail
  go_ret
  exact ⟨rfl, HT0.out⟩
end Go.Proofs.YtcjijofckjgikaaDoor
