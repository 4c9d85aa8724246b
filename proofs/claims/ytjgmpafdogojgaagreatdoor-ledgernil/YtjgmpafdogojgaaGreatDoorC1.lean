/- LedgerNil: the walk. -/
import Derived.Test.YtjgmpafdogojgaaGreatDoorB5
namespace Go.Proofs.YtjgmpafdogojgaaGreatDoor
open Go.RowKit
set_option linter.unusedVariables false

section
variable {w : World} {g : Nat} {cs : Array Value} {e : TypeId}
/-- A block of cells. -/
def Rw (w : World) (g : Nat) (cs : Array Value) (e : TypeId) : Prop := w.heap[g]? = some (.cells cs e (0, 0))
theorem Rw.turn {S : Nat → Prop} {w' : World} (h : Rw w g cs e) (t : Turn S w w') (hn : ¬ S g) : Rw w' g cs e := t.obj h hn
end
theorem size26 : (Tryz.prog.info? 26).map (·.size) = some 4 := by kernel_rfl
set_option maxRecDepth 100000 in
set_option maxHeartbeats 4000000 in
theorem nil3 (w : World) (c h : Value) (L P X : Array Value) (hL : (Tryz.prog.info? 26).map (·.size) = some L.size) (hP : (Tryz.prog.info? 28).map (·.size) = some P.size) (hX : (Tryz.prog.info? 33).map (·.size) = some X.size) : Calls Tryz.prog 3 #[.agg L, c, .agg P, h, .agg X] w fun e w' => e = .returned (.bool true) ∧ Turn no w w' := by
  obtain ⟨w0, hw0⟩ : ∃ w0, ((w.alloc (.cells L 26)).alloc (.cells P 28)).alloc (.cells X 33) = w0 := ⟨_, rfl⟩
  have T0 : Turn no w w0 := by rw [← hw0]; exact (((Turn.refl no w).alloc _).alloc _).alloc _
  have RL : Rw w0 w.heap.size L 26 := by
    rw [← hw0]
    exact (((Turn.refl no _).alloc _).alloc _).obj (heap_alloc_new w (.cells L 26)) (fun q => q)
  have RP : Rw w0 (w.heap.size + 1) P 28 := by
    rw [← hw0]
    exact ((Turn.refl no _).alloc _).obj (heap_alloc2_new w (.cells L 26) (.cells P 28)) (fun q => q)
  have RX : Rw w0 (w.heap.size + 1 + 1) X 33 := by
    rw [← hw0]
    have := heap_alloc_new ((w.alloc (.cells L 26)).alloc (.cells P 28)) (.cells X 33)
    show _ = _
    simpa using this
  have HR := shut (And.intro RL (And.intro RP RX))
  have HT0 := shut T0
  clear T0 RL RP RX
  go_enter Tryz.func3, Tryz.ntmps3
  go_wp2_with fail
  refine (alive4 w0).mono ?_
  rintro e w1 ⟨rfl, t1⟩
  have HT1 := shut (HT0.out.then_no t1)
  have HR1 : Shut (Rw w1 w.heap.size L 26 ∧ Rw w1 (w.heap.size + 1) P 28 ∧ Rw w1 (w.heap.size + 1 + 1) X 33) := ⟨HR.out.1.turn t1 (fun q => q), HR.out.2.1.turn t1 (fun q => q), HR.out.2.2.turn t1 (fun q => q)⟩
  clear t1 HT0 HR hw0
  obtain ⟨w2, hw2⟩ : ∃ w2, w1.alloc (.cells #[.pointer none, .int .i32 0, .int .u32 0, .map none, .map none] 46) = w2 := ⟨_, rfl⟩
  have t2 : Turn no w1 w2 := by rw [← hw2]; exact (Turn.refl no w1).alloc _
  have HZ : Shut (No w2 (.pointer (some ⟨w1.heap.size, 0, none⟩))) := Or.inr ⟨_, rfl, by rw [← hw2]; exact cell_of_row _ _ 0 _ 46 (0, 0) (heap_alloc_new w1 _)⟩
  obtain ⟨rL, rP, rX⟩ := HR1.out
  have rL := rL.turn t2 (fun q => q)
  have rP := rP.turn t2 (fun q => q)
  have rX := rX.turn t2 (fun q => q)
  have T2 := shut (HT1.out.then_no t2)
  clear t2 HT1 HR1
  go_upto_region 5 with fail
  clear hw2
  generalize w1.heap.size = z at *
  have n2 := HZ
  clear HZ
  go_wp2_with (first | (refine wpList_load_row rfl 26 (.tmp 5) rfl w.heap.size rfl 26 L _ _ rL Tryz.underlying26 rfl hL ?_) | (refine wpList_load_row rfl 28 (.tmp 7) rfl (w.heap.size + 1) rfl 28 P _ _ rP Tryz.underlying28 rfl hP ?_) | (refine wpList_load_row rfl 33 (.tmp 9) rfl (w.heap.size + 1 + 1) rfl 33 X _ _ rX Tryz.underlying33 rfl hX ?_))
  refine (check5_no w2 (.pointer none) _ _ L P X (Or.inl rfl)).mono ?_
  rintro e w3 ⟨rfl, t3⟩
  have rL3 := rL.turn t3 (fun q => q)
  have rP3 := rP.turn t3 (fun q => q)
  have rX3 := rX.turn t3 (fun q => q)
  have n3 := shut (n2.out.turn t3)
  have T3 := shut (T2.out.then_no t3)
  clear t3 rL rP rX n2 T2
  go_wp2_with (first | (refine wpList_load_row rfl 26 (.tmp 5) rfl w.heap.size rfl 26 L _ _ rL3 Tryz.underlying26 rfl hL ?_) | (refine wpList_load_row rfl 28 (.tmp 7) rfl (w.heap.size + 1) rfl 28 P _ _ rP3 Tryz.underlying28 rfl hP ?_) | (refine wpList_load_row rfl 33 (.tmp 9) rfl (w.heap.size + 1 + 1) rfl 33 X _ _ rX3 Tryz.underlying33 rfl hX ?_))
  refine (check5_no w3 _ _ _ L P X n3.out).mono ?_
  rintro e w4 ⟨rfl, t4⟩
  have rL4 := rL3.turn t4 (fun q => q)
  have rP4 := rP3.turn t4 (fun q => q)
  have rX4 := rX3.turn t4 (fun q => q)
  have n4 := shut (n3.out.turn t4)
  have T4 := shut (T3.out.then_no t4)
  clear t4 rL3 rP3 rX3 n3 T3
  go_wp2_with (first | (refine wpList_load_row rfl 26 (.tmp 5) rfl w.heap.size rfl 26 L _ _ rL4 Tryz.underlying26 rfl hL ?_) | (refine wpList_load_row rfl 28 (.tmp 7) rfl (w.heap.size + 1) rfl 28 P _ _ rP4 Tryz.underlying28 rfl hP ?_) | (refine wpList_load_row rfl 33 (.tmp 9) rfl (w.heap.size + 1 + 1) rfl 33 X _ _ rX4 Tryz.underlying33 rfl hX ?_))
  refine (apply6_no w4 (.pointer none) _ _ 1 L P X hL hP hX (Or.inl rfl)).mono ?_
  rintro e w5 ⟨rfl, t5⟩
  have rL5 := rL4.turn t5 (fun q => q)
  have rP5 := rP4.turn t5 (fun q => q)
  have rX5 := rX4.turn t5 (fun q => q)
  have n5 := shut (n4.out.turn t5)
  have T5 := shut (T4.out.then_no t5)
  clear t5 rL4 rP4 rX4 n4 T4
  unfold zl
  go_upto_region 8 with fail
  have t6 : Turn no w5 (w5.alloc (.cells #[.slice none 0 0, .slice none 0 0, .int .u64 0, .int .u64 0] 26)) := (Turn.refl no w5).alloc _
  have m6 : Rw (w5.alloc (.cells #[.slice none 0 0, .slice none 0 0, .int .u64 0, .int .u64 0] 26)) w5.heap.size #[.slice none 0 0, .slice none 0 0, .int .u64 0, .int .u64 0] 26 := heap_alloc_new w5 _
  have rL6 := rL5.turn t6 (fun q => q)
  have rP6 := rP5.turn t6 (fun q => q)
  have rX6 := rX5.turn t6 (fun q => q)
  have n6 := shut (n5.out.turn t6)
  have T6 := shut (T5.out.then_no t6)
  clear t6 rL5 rP5 rX5 n5 T5
  generalize w5.alloc (.cells #[.slice none 0 0, .slice none 0 0, .int .u64 0, .int .u64 0] 26) = w6 at *
  generalize w5.heap.size = q1 at *
  go_wp2_with (first | (refine wpList_load_row rfl 26 (.tmp 5) rfl w.heap.size rfl 26 L _ _ rL6 Tryz.underlying26 rfl hL ?_) | (refine wpList_load_row rfl 28 (.tmp 7) rfl (w.heap.size + 1) rfl 28 P _ _ rP6 Tryz.underlying28 rfl hP ?_) | (refine wpList_load_row rfl 33 (.tmp 9) rfl (w.heap.size + 1 + 1) rfl 33 X _ _ rX6 Tryz.underlying33 rfl hX ?_))
  refine (apply6_no w6 _ _ _ 1 L P X hL hP hX n6.out).mono ?_
  rintro e w7 ⟨rfl, t7⟩
  have t7s := t7
  have rL7 := rL6.turn t7 (fun q => q)
  have rP7 := rP6.turn t7 (fun q => q)
  have rX7 := rX6.turn t7 (fun q => q)
  have n7 := shut (n6.out.turn t7)
  have T7 := shut (T6.out.then_no t7)
  clear t7 rL6 rP6 rX6 n6 T6
  unfold zl
  go_upto_region 9 with fail
  have t8 : Turn no w7 (w7.alloc (.cells #[.slice none 0 0, .slice none 0 0, .int .u64 0, .int .u64 0] 26)) := (Turn.refl no w7).alloc _
  have m7 := m6.turn t7s (fun q => q)
  have HC : Shut (∀ W, Turn no (w7.alloc (.cells #[.slice none 0 0, .slice none 0 0, .int .u64 0, .int .u64 0] 26)) W → (W.cell? ⟨q1, 0, none⟩ = some (.slice none 0 0) ∧ W.cell? ⟨q1, 1, none⟩ = some (.slice none 0 0) ∧ W.cell? ⟨q1, 2, none⟩ = some (.int .u64 0) ∧ W.cell? ⟨q1, 3, none⟩ = some (.int .u64 0)) ∧ (W.cell? ⟨w7.heap.size, 0, none⟩ = some (.slice none 0 0) ∧ W.cell? ⟨w7.heap.size, 1, none⟩ = some (.slice none 0 0) ∧ W.cell? ⟨w7.heap.size, 2, none⟩ = some (.int .u64 0) ∧ W.cell? ⟨w7.heap.size, 3, none⟩ = some (.int .u64 0)) ∧ Turn no w W) := fun W t => by
    have r1 := (m7.turn t8 (fun q => q)).turn t (fun q => q)
    have r2 : Rw W w7.heap.size _ 26 := Rw.turn (heap_alloc_new w7 (.cells #[.slice none 0 0, .slice none 0 0, .int .u64 0, .int .u64 0] 26)) t (fun q => q)
    exact ⟨⟨cell_of_row _ _ 0 _ 26 (0, 0) r1, cell_of_row _ _ 1 _ 26 (0, 0) r1, cell_of_row _ _ 2 _ 26 (0, 0) r1, cell_of_row _ _ 3 _ 26 (0, 0) r1⟩, ⟨cell_of_row _ _ 0 _ 26 (0, 0) r2, cell_of_row _ _ 1 _ 26 (0, 0) r2, cell_of_row _ _ 2 _ 26 (0, 0) r2, cell_of_row _ _ 3 _ 26 (0, 0) r2⟩, (T7.out.then_no t8).then_no t⟩
  clear m6 m7 t7s t8 T7 n7 rL7 rP7 rX7
  generalize w7.alloc (.cells #[.slice none 0 0, .slice none 0 0, .int .u64 0, .int .u64 0] 26) = w8 at *
  obtain ⟨⟨a0, a1, a2, a3⟩, _, _⟩ := HC.out w8 (Turn.refl _ _)
  go_wp2_with fail
  refine (same7_zero w8).mono ?_
  rintro e w9 ⟨rfl, t9⟩
  obtain ⟨_, ⟨b0, b1, b2, b3⟩, TT⟩ := HC.out w9 t9
  clear a0 a1 a2 a3
  go_wp2_with fail
  refine (same7_zero w9).mono ?_
  rintro e w10 ⟨rfl, t10⟩
  have HTT := shut (TT.then_no t10)
  clear b0 b1 b2 b3 TT t9 t10 HC
  go_wp2_with fail
  go_ret
  exact ⟨rfl, HTT.out⟩
end Go.Proofs.YtjgmpafdogojgaaGreatDoor
