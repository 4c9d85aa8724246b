/- The walk of CodecNils. -/
import Derived.Test.YtfjdojodbhmmaaaW7
namespace Go.Proofs.Ytfjdojodbhmmaaa
open Go.RowKit

theorem unmade_nil (w : World) : Unmade w (.pointer none) := Or.inl rfl

theorem row_cell {w : World} {g : Nat} {cs : Array Value} {e : TypeId} (h : w.heap[g]? = some (.cells cs e (0, 0))) (j : Nat) (u : Value) (hu : cs[j]? = some u) : w.cell? ⟨g, j, none⟩ = some u := by
  rw [cell_of_row w g j cs e (0, 0) h]; exact hu

set_option maxRecDepth 100000 in
set_option maxHeartbeats 4000000 in
theorem nils_walk (w : World) (k n : Int) (vb : Value) (bs : List UInt8) (k2 a2 b2 : Int) (hb : Bs w vb bs) (hle : bs.length + 3 ≤ 140737488355328) :
    Calls Try.prog 6 #[.agg #[.int .i64 k, .int .u64 n, vb], .agg #[.int .i64 k2, .int .i64 a2, .int .i64 b2]] w fun e w' => e = .returned (.bool true) ∧ Turn no w w' := by
  obtain ⟨ba, bc, rfl⟩ := hb.slice
  go_enter Try.func6, Try.ntmps6
  go_wp2_with fail
  refine (alive_any _).mono ?_
  rintro e w1 ⟨rfl, t1⟩
  have P1 : w1.heap[w.heap.size]? = some (.cells #[.int .i64 k, .int .u64 n, .slice ba bs.length bc] 27 (0, 0)) := t1.obj (by rw [Below.heap_alloc _ _ _ (by simp)]; exact heap_alloc_new w _) (fun q => q)
  have G1 : w1.heap[w.heap.size + 1]? = some (.cells #[.int .i64 k2, .int .i64 a2, .int .i64 b2] 48 (0, 0)) := t1.obj (by have := heap_alloc_new (w.alloc (.cells #[.int .i64 k, .int .u64 n, .slice ba bs.length bc] 27)) (.cells #[.int .i64 k2, .int .i64 a2, .int .i64 b2] 48); simpa using this) (fun q => q)
  have T1 : Turn no w w1 := (((Turn.refl no w).alloc _).alloc _).then_no t1
  have s1 : w.heap.size + 1 < w1.heap.size := lt_of_obj G1
  have s0 : w.heap.size < w1.heap.size := by omega
  clear t1
  have W2 : Turn no w1 ((w1.alloc (.cells #[.pointer none, .slice none 0 0, .int .i64 0] 65)).alloc (.cells #[.pointer none, .slice none 0 0, .int .i64 0, .int .i64 0] 67)) := ((Turn.refl no w1).alloc _).alloc _
  have p0 := row_cell P1 0 _ rfl
  have p1 := row_cell P1 1 _ rfl
  have p2 := row_cell P1 2 _ rfl
  go_wp2_with fail
  refine (lay_unmade _ _ k n _ bs (unmade_nil _) (hb.turn_no (T1.then_no W2)) hle).mono ?_
  rintro e w3 ⟨rfl, t3⟩
  have V0 : ((w1.alloc (.cells #[.pointer none, .slice none 0 0, .int .i64 0] 65)).alloc (.cells #[.pointer none, .slice none 0 0, .int .i64 0, .int .i64 0] 67)).heap[w1.heap.size]? = some (.cells #[.pointer none, .slice none 0 0, .int .i64 0] 65 (0, 0)) := by rw [Below.heap_alloc _ _ _ (by simp)]; exact heap_alloc_new w1 _
  have S0 : ((w1.alloc (.cells #[.pointer none, .slice none 0 0, .int .i64 0] 65)).alloc (.cells #[.pointer none, .slice none 0 0, .int .i64 0, .int .i64 0] 67)).heap[w1.heap.size + 1]? = some (.cells #[.pointer none, .slice none 0 0, .int .i64 0, .int .i64 0] 67 (0, 0)) := by have := heap_alloc_new (w1.alloc (.cells #[.pointer none, .slice none 0 0, .int .i64 0] 65)) (.cells #[.pointer none, .slice none 0 0, .int .i64 0, .int .i64 0] 67); simpa using this
  have V3 := t3.obj V0 (fun q => q)
  have S3 := t3.obj S0 (fun q => q)
  have T13 := W2.then_no t3
  have T3 := T1.then_no T13
  have P3 := T13.obj P1 (fun q => q)
  have G3 := T13.obj G1 (fun q => q)
  clear P1 G1 T1 W2 V0 S0 t3 p0 p1 p2 T13
  have p0 := row_cell P3 0 _ rfl
  have p1 := row_cell P3 1 _ rfl
  have p2 := row_cell P3 2 _ rfl
  go_wp2_with fail
  refine (lay_unmade _ _ k n _ bs (Or.inr ⟨_, rfl, row_cell V3 0 _ rfl⟩) (hb.turn_no T3) hle).mono ?_
  rintro e w4 ⟨rfl, t4⟩
  have V4 := t4.obj V3 (fun q => q)
  have S4 := t4.obj S3 (fun q => q)
  have T4 := T3.then_no t4
  have P4 := t4.obj P3 (fun q => q)
  have G4 := t4.obj G3 (fun q => q)
  clear V3 S3 T3 P3 G3 t4 p0 p1 p2
  go_wp2_with fail
  refine (out_fault _ _ 1 (unmade_nil _).fault rfl).mono ?_
  rintro e w' ⟨rfl, rfl⟩
  go_wp2_with fail
  refine (out_fault _ _ 1 (Unmade.fault (Or.inr ⟨_, rfl, row_cell V4 0 _ rfl⟩)) rfl).mono ?_
  rintro e w' ⟨rfl, rfl⟩
  have g0 := row_cell G4 0 _ rfl
  have g1 := row_cell G4 1 _ rfl
  have g2 := row_cell G4 2 _ rfl
  go_wp2_with (go_at_call 15; refine (num_any _ _).mono ?_; rintro e w' ⟨rfl, rfl⟩)
  refine (read_unmade _ _ k2 a2 b2 (unmade_nil _)).mono ?_
  rintro e w5 ⟨ad5, c5, rfl, t5⟩
  have V5 := t5.obj V4 (fun q => q)
  have S5 := t5.obj S4 (fun q => q)
  have T5 := T4.then_no t5
  have G5 := t5.obj G4 (fun q => q)
  clear V4 S4 T4 P4 G4 t5 g0 g1 g2
  have g0 := row_cell G5 0 _ rfl
  have g1 := row_cell G5 1 _ rfl
  have g2 := row_cell G5 2 _ rfl
  have z0 : w1.heap.size + 1 < w5.heap.size := lt_of_obj S5
  have z1 : w.heap.size + 1 < w5.heap.size := lt_of_obj G5
  go_wp2_with fail
  have S5' : (w5.alloc (.cells #[.int .u64 0, .slice ad5 0 c5] 33)).heap[w1.heap.size + 1]? = some (.cells #[.pointer none, .slice none 0 0, .int .i64 0, .int .i64 0] 67 (0, 0)) := by rw [Below.heap_alloc _ _ _ (by omega)]; exact S5
  refine (read_unmade _ _ k2 a2 b2 (Or.inr ⟨_, rfl, row_cell S5' 0 _ rfl⟩)).mono ?_
  rintro e w6 ⟨ad6, c6, rfl, t6⟩
  have S6 := t6.obj S5' (fun q => q)
  have T6 := (T5.alloc _).then_no t6
  have X6 := t6.obj (heap_alloc_new w5 _) (fun q => q)
  clear V5 S5 T5 G5 t6 g0 g1 g2 S5'
  have x0 := row_cell X6 0 _ rfl
  have x1 := row_cell X6 1 _ rfl
  have y0 : w5.heap.size < w6.heap.size := lt_of_obj X6
  have y1 : w1.heap.size + 1 < w6.heap.size := lt_of_obj S6
  have T7 := T6.alloc (.cells #[.int .u64 0, .slice ad6 0 c6] 33)
  have U7 : Unmade (w6.alloc (.cells #[.int .u64 0, .slice ad6 0 c6] 33)) (.pointer (some ⟨w1.heap.size + 1, 0, none⟩)) := Unmade.turn_no (Or.inr ⟨_, rfl, row_cell S6 0 _ rfl⟩) ((Turn.refl no _).alloc _)
  have N7 := unmade_nil (w6.alloc (.cells #[.int .u64 0, .slice ad6 0 c6] 33))
  go_wp2_with fail
  refine (at_unmade _ _ N7).mono ?_
  rintro e w' ⟨rfl, rfl⟩
  go_wp2_with fail
  refine (at_unmade _ _ U7).mono ?_
  rintro e w' ⟨rfl, rfl⟩
  go_wp2_with fail
  refine (left_unmade _ _ N7).mono ?_
  rintro e w' ⟨rfl, rfl⟩
  go_wp2_with fail
  refine (left_unmade _ _ U7).mono ?_
  rintro e w' ⟨rfl, rfl⟩
  go_wp2_with fail
  refine (err_any _ _ 1 N7.errs).mono ?_
  rintro e w' ⟨rfl, rfl⟩
  go_wp2_with fail
  refine (num_any _ _).mono ?_
  rintro e w' ⟨rfl, rfl⟩
  go_wp2_with fail
  refine (err_any _ _ 1 U7.errs).mono ?_
  rintro e w' ⟨rfl, rfl⟩
  go_wp2_with fail
  refine (num_any _ _).mono ?_
  rintro e w' ⟨rfl, rfl⟩
  go_wp2_with fail
  refine (end_err _ _ 1 N7.errs rfl).mono ?_
  rintro e w' ⟨rfl, rfl⟩
  go_wp2_with fail
  refine (num_any _ _).mono ?_
  rintro e w' ⟨rfl, rfl⟩
  go_wp2_with fail
  refine (end_err _ _ 1 U7.errs rfl).mono ?_
  rintro e w' ⟨rfl, rfl⟩
  go_wp2_with fail
  refine (num_any _ _).mono ?_
  rintro e w' ⟨rfl, rfl⟩
  go_wp2_with fail
  go_ret
  exact ⟨rfl, T7⟩
end Go.Proofs.Ytfjdojodbhmmaaa
