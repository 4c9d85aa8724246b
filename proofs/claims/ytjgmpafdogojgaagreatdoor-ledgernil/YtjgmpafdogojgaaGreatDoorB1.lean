/- Registries that are nil or none; Check and Apply with them; a sort of one; Find's closure. -/
import Derived.Test.YtjgmpafdogojgaaGreatDoorA5
import Derived.LaidMore
import Derived.Deep.RegionHeld3
import Derived.Laws.Rows
import Derived.Laws.Tables
namespace Go.Proofs.YtjgmpafdogojgaaGreatDoor
open Go.RowKit
set_option linter.unusedVariables false

theorem shut {p : Prop} (h : p) : Shut p := h
theorem eql35_nil (a : Addr) (w : World) : (binOp .eql 35 (.pointer none) (.pointer (some a))).run Tryz.prog w = .ok (.bool false) w := by
  have h : ∀ d : Nat, (Op.equalIn (d + 1) 35 (.pointer none) (.pointer (some a))).run Tryz.prog w = .ok false w := fun d => by
    simp [Op.equalIn, run_underlying Tryz.underlying35]
  simp only [binOp]
  simp [Op.equal, Op.maxDepth, h 9999]
/-- A registry that New did not make: nil, or its first cell is. -/
def No (w : World) (v : Value) : Prop := v = .pointer none ∨ ∃ p, v = .pointer (some ⟨p, 0, none⟩) ∧ w.cell? ⟨p, 0, none⟩ = some (.pointer none)
theorem No.form {w : World} {v : Value} (h : No w v) : ∃ a, v = .pointer a := by
  rcases h with rfl | ⟨p, rfl, _⟩
  · exact ⟨none, rfl⟩
  · exact ⟨_, rfl⟩
theorem No.turn {w w' : World} {v : Value} (h : No w v) (t : Turn no w w') : No w' v := by
  rcases h with rfl | ⟨p, rfl, h⟩
  · exact Or.inl rfl
  · exact Or.inr ⟨p, rfl, t.keep h (fun q => q)⟩
theorem made33_no (w : World) (v : Value) (h : No w v) : Calls Tryz.prog 33 #[v] w fun e w' => e = .returned (.bool false) ∧ w' = w := by
  have e1 := fun a w => eql35_nil a w
  rcases h with rfl | ⟨p, rfl, h⟩
  · go_enter Tryz.func33, Tryz.ntmps33
    go_wp2_with fail
    go_ret
    exact ⟨rfl, rfl⟩
  · go_enter Tryz.func33, Tryz.ntmps33
    go_wp2_with fail
    go_ret
    exact ⟨rfl, rfl⟩
set_option maxRecDepth 100000 in
theorem enter29_no (w : World) (v : Value) (h : No w v) (a : Int) : Calls Tryz.prog 29 #[v, .int .u64 a] w fun e w' => e = .returned (.tuple #[.pointer none, .int .i64 1]) ∧ w' = w := by
  have hm := made33_no w v h
  obtain ⟨pa, rfl⟩ := h.form
  clear h
  go_enter_defers Tryz.func29, Tryz.ntmps29
  go_wp2_with fail
  refine hm.mono ?_
  rintro e w' ⟨rfl, rfl⟩
  go_wp2_with fail
  exact ⟨_, results_tmp2 rfl _ _ _, rfl, rfl⟩
set_option maxRecDepth 100000 in
theorem isreg11_no (w : World) (v : Value) (h : No w v) : Calls Tryz.prog 11 #[v] w fun e w' => e = .returned (.bool false) ∧ w' = w := by
  have hm := enter29_no w v h 0
  obtain ⟨pa, rfl⟩ := h.form
  clear h
  go_enter Tryz.func11, Tryz.ntmps11
  go_wp2_with fail
  refine hm.mono ?_
  rintro e w' ⟨rfl, rfl⟩
  go_wp2_with fail
  go_ret
  exact ⟨rfl, rfl⟩
set_option maxRecDepth 100000 in
set_option maxHeartbeats 1000000 in
theorem check5_no (w : World) (v c h : Value) (L P X : Array Value) (hn : No w v) : Calls Tryz.prog 5 #[.agg L, v, c, .agg P, h, .agg X] w fun e w' => e = .returned (.int .i64 1) ∧ Turn no w w' := by
  have T0 : Turn no w (((w.alloc (.cells L 26)).alloc (.cells P 28)).alloc (.cells X 33)) := (((Turn.refl no w).alloc _).alloc _).alloc _
  have hm := isreg11_no _ v (hn.turn T0)
  have HT := shut T0
  clear T0
  obtain ⟨pa, rfl⟩ := hn.form
  clear hn
  go_enter Tryz.func5, Tryz.ntmps5
  go_wp2_with fail
  refine hm.mono ?_
  rintro e w' ⟨rfl, rfl⟩
  go_wp2_with fail
  go_ret
  exact ⟨rfl, HT.out⟩
/-- No ledger. -/
def zl : Array Value := #[.slice none 0 0, .slice none 0 0, .int .u64 0, .int .u64 0]
set_option maxRecDepth 100000 in
set_option maxHeartbeats 2000000 in
theorem apply6_no (w : World) (v c h : Value) (pr : Int) (L P X : Array Value) (hL : (Tryz.prog.info? 26).map (·.size) = some L.size) (hP : (Tryz.prog.info? 28).map (·.size) = some P.size) (hX : (Tryz.prog.info? 33).map (·.size) = some X.size) (hn : No w v) :
    Calls Tryz.prog 6 #[.agg L, v, c, .agg P, h, .int .u64 pr, .agg X] w fun e w' => e = .returned (.tuple #[.agg zl, .int .i64 1]) ∧ Turn no w w' := by
  have T0 : Turn no w ((((w.alloc (.cells L 26)).alloc (.cells P 28)).alloc (.cells X 33)).alloc (.cells zl 26)) := ((((Turn.refl no w).alloc _).alloc _).alloc _).alloc _
  have RL : ((((w.alloc (.cells L 26)).alloc (.cells P 28)).alloc (.cells X 33)).alloc (.cells zl 26)).heap[w.heap.size]? = some (.cells L 26 (0, 0)) := by
    rw [Below.heap_alloc _ _ _ (by simp <;> omega), Below.heap_alloc _ _ _ (by simp <;> omega), Below.heap_alloc _ _ _ (by simp)]
    exact heap_alloc_new w _
  have RP : ((((w.alloc (.cells L 26)).alloc (.cells P 28)).alloc (.cells X 33)).alloc (.cells zl 26)).heap[w.heap.size + 1]? = some (.cells P 28 (0, 0)) := by
    rw [Below.heap_alloc _ _ _ (by simp <;> omega), Below.heap_alloc _ _ _ (by simp)]
    have := heap_alloc_new (w.alloc (.cells L 26)) (.cells P 28)
    simpa using this
  have RX : ((((w.alloc (.cells L 26)).alloc (.cells P 28)).alloc (.cells X 33)).alloc (.cells zl 26)).heap[w.heap.size + 1 + 1]? = some (.cells X 33 (0, 0)) := by
    rw [Below.heap_alloc _ _ _ (by simp)]
    have := heap_alloc_new ((w.alloc (.cells L 26)).alloc (.cells P 28)) (.cells X 33)
    simpa using this
  have RZ : ((((w.alloc (.cells L 26)).alloc (.cells P 28)).alloc (.cells X 33)).alloc (.cells zl 26)).heap[w.heap.size + 1 + 1 + 1]? = some (.cells zl 26 (0, 0)) := by
    have := heap_alloc_new (((w.alloc (.cells L 26)).alloc (.cells P 28)).alloc (.cells X 33)) (.cells zl 26)
    simpa using this
  have hm := shut (check5_no _ v c h L P X (hn.turn T0))
  have HT := shut T0
  have HRZ := shut RZ
  clear T0 RZ
  obtain ⟨pa, rfl⟩ := hn.form
  clear hn
  go_enter Tryz.func6, Tryz.ntmps6
  go_wp2_with (first | (refine wpList_load_row rfl 26 (.tmp 7) rfl w.heap.size rfl 26 L _ _ RL Tryz.underlying26 rfl hL ?_) | (refine wpList_load_row rfl 28 (.tmp 10) rfl (w.heap.size + 1) rfl 28 P _ _ RP Tryz.underlying28 rfl hP ?_) | (refine wpList_load_row rfl 33 (.tmp 13) rfl (w.heap.size + 1 + 1) rfl 33 X _ _ RX Tryz.underlying33 rfl hX ?_))
  refine hm.out.mono ?_
  rintro e w1 ⟨rfl, t1⟩
  have R1 : w1.heap[w.heap.size + 1 + 1 + 1]? = some (.cells #[.slice none 0 0, .slice none 0 0, .int .u64 0, .int .u64 0] 26 (0, 0)) := t1.obj HRZ.out (fun q => q)
  have HT1 := shut (HT.out.then_no t1)
  obtain ⟨⟨c0, f0⟩, ⟨c1, f1⟩, ⟨c2, f2⟩, ⟨c3, f3⟩, R2, t2⟩ := store4 R1 (.slice none 0 0) (.slice none 0 0) (.int .u64 0) (.int .u64 0)
  have HR2 := shut R2
  have HT2 := shut t2
  clear RL RP RX HRZ hm t1 HT R1 R2 t2
  go_wp2_with fail
  refine ⟨rfl, _, results_cell_row_tmp (g := w.heap.size + 1 + 1 + 1) (cs := #[.slice none 0 0, .slice none 0 0, .int .u64 0, .int .u64 0]) (t := 26) rfl _ _ _ _ rfl HR2.out Tryz.underlying26 rfl (by kernel_rfl), rfl, HT1.out.trans HT2.out (fun i hi e => by omega)⟩
set_option maxRecDepth 100000 in
theorem same7_zero (w : World) : Calls Tryz.prog 7 #[.agg zl, .agg zl] w fun e w' => e = .returned (.bool true) ∧ Turn no w w' := by
  have T0 : Turn no w ((w.alloc (.cells zl 26)).alloc (.cells zl 26)) := ((Turn.refl no w).alloc _).alloc _
  unfold zl at *
  go_enter Tryz.func7, Tryz.ntmps7
  go_wp2_with fail
  go_loopw [5] (fun x wr => x = .int .i64 0 ∧ wr = (w.alloc (.cells #[.slice none 0 0, .slice none 0 0, .int .u64 0, .int .u64 0] 26)).alloc (.cells #[.slice none 0 0, .slice none 0 0, .int .u64 0, .int .u64 0] 26)) (fun _ _ => 0)
  case atStart => exact ⟨rfl, rfl⟩
  case round =>
    obtain ⟨rfl, rfl⟩ := hrel
    go_wp2_with fail
    go_loopw [6] (fun x wr => x = .int .i64 0 ∧ wr = (w.alloc (.cells #[.slice none 0 0, .slice none 0 0, .int .u64 0, .int .u64 0] 26)).alloc (.cells #[.slice none 0 0, .slice none 0 0, .int .u64 0, .int .u64 0] 26)) (fun _ _ => 0)
    case atStart => exact ⟨rfl, rfl⟩
    case round =>
      obtain ⟨rfl, rfl⟩ := hrel
      go_wp2_with fail
      go_ret
      exact ⟨rfl, T0⟩
end Go.Proofs.YtjgmpafdogojgaaGreatDoor
