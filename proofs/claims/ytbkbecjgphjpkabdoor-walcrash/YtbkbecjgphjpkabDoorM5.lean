/- copied, syncedFile. -/
import Derived.Test.YtbkbecjgphjpkabDoorM1
import Derived.Laws.CopyRow
import Derived.Laws.IdiomCopy
import Derived.Laws.MakeOwn
namespace Go.Proofs.YtbkbecjgphjpkabDoor
open Go.RowKit Go.Maps
set_option linter.unusedVariables false

theorem mk31 (w : World) (n : Nat) (hn : n ≤ 140737488355328) : (Instr.makeSlice 55 (.int .i64 n) (.int .i64 n)).run Tryd.prog w = .ok (.slice (some ⟨w.heap.size, 0, none⟩) n n) (w.alloc (.cells (madeCells #[.int .u8 0] n) 5)) := by
  obtain ⟨i, hi, hz0, hz1, hz2⟩ := info_parts info5
  have := run_make (P := Tryd.prog) w 55 5 i (.int .u8 0) Tryd.underlying55 hi hz0 .i64 .i64 n n (by omega) (Int.le_refl _) (by rw [hz2]; omega) (by omega)
  rw [hz1, show (Value.int .u8 0).cells = #[.int .u8 0] from rfl] at this
  simpa using this
set_option maxRecDepth 100000 in
set_option maxHeartbeats 1000000 in
theorem copied47 (w : World) (v : Value) (bs : List UInt8) (hb : Bs w v bs) (hn : bs.length ≤ 140737488355328) : Calls Tryd.prog 35 #[v] w fun e w' => ∃ v', e = .returned v' ∧ Own w' 5 v' (bs.map bv) ∧ v'.ownBlock = some w.heap.size ∧ Turn no w w' := by
  obtain ⟨a, cap, hv⟩ := hb.slice
  have hmk := mk31 w bs.length hn
  have T0 : Turn no w (w.alloc (.cells (madeCells #[.int .u8 0] bs.length) 5)) := (Turn.refl no w).alloc _
  have R0 := Row.new w (madeCells #[.int .u8 0] bs.length) 5
  have hs : (madeCells #[.int .u8 0] bs.length).size = bs.length := by rw [size_madeCells]
  obtain ⟨w2, hcopy, R2, T2⟩ := run_copy_over _ 3 w.heap.size 0 bs.length bs.length v bs _ 5 R0 (hb.turn_no T0) (by rw [hs]; omega)
  have hcopy' : ∀ ty, (Builtin.copy_ #[55, 55] ty #[.slice (some ⟨w.heap.size, 0, none⟩) bs.length bs.length, v]).run Tryd.prog (w.alloc (.cells (madeCells #[.int .u8 0] bs.length) 5)) = .ok (.int .i64 bs.length) w2 := fun ty => by
    have := hcopy
    rw [Nat.min_self] at this
    exact this
  have e : over (madeCells #[.int .u8 0] bs.length) 0 ((bs.take (min bs.length bs.length)).map bv) = (bs.map bv).toArray := by
    rw [Nat.min_self, List.take_length]
    have : (madeCells #[Value.int .u8 0] bs.length).toList.drop (0 + (bs.map bv).length) = [] := List.drop_eq_nil_of_le (by rw [Array.length_toList, hs]; simp)
    unfold over
    rw [this]
    simp
  rw [e] at R2
  have TT : Turn no w w2 := T0.trans T2 (fun i hi q => by omega)
  have hO : Own w2 5 (.slice (some ⟨w.heap.size, 0, none⟩) bs.length bs.length) (bs.map bv) := by
    have := Own.of (xs := bs.map bv) (cap := bs.length) R2 (by simp) hb.le (by simp) (by rw [show (bs.map bv).toArray.toList = bs.map bv from rfl, List.take_length])
    simpa using this
  generalize hW : w.alloc (.cells (madeCells #[.int .u8 0] bs.length) 5) = w1 at *
  clear hcopy R0 R2 T0 T2 e hs
  subst hv
  go_enter Tryd.func35, Tryd.ntmps35
  go_wp2_with (at_builtin; refine wpList_copy rfl _ _ (t := 55) (tx := 55) rfl _ _ rfl rfl (hcopy' _) ?_)
  go_ret
  exact ⟨_, rfl, hO, rfl, TT⟩

set_option maxRecDepth 100000 in
set_option maxHeartbeats 1000000 in
theorem syncedFile49 (w : World) (v : Value) (bs : List UInt8) (hb : Bs w v bs) (hn : bs.length ≤ 140737488355328) : Calls Tryd.prog 33 #[v] w fun e w' => ∃ v', e = .returned (fileV v' bs.length) ∧ Own w' 5 v' (bs.map bv) ∧ v'.ownBlock = some (w.heap.size + 1) ∧ Turn no w w' := by
  have T0 : Turn no w (w.alloc (.cells #[.slice none 0 0, .int .i64 0] 77)) := (Turn.refl no w).alloc _
  have R0 := Row.new w #[.slice none 0 0, .int .i64 0] 77
  have hc := copied47 _ v bs (hb.turn_no T0) hn
  have hlt := R0.lt
  obtain ⟨a, cap, hv⟩ := hb.slice
  clear hb
  subst hv
  go_enter Tryd.func33, Tryd.ntmps33
  go_wp2_with fail
  refine hc.mono ?_
  rintro e w2 ⟨v', rfl, hO, hB, T2⟩
  obtain ⟨a', n', cap', rfl⟩ := hO.slice
  have R2 := R0.turn T2 (fun q => q)
  have c0 := R2.cell 0 _ rfl
  have c1 := R2.cell 1 _ rfl
  have f0 := R2.frozen 0
  have f1 := R2.frozen 1
  have R3 := (R2.set 0 (.slice a' n' cap')).set 1 (.int .i64 bs.length)
  have T3 : Turn (fun k => k = w.heap.size) w2 ((w2.setCell ⟨w.heap.size, 0, none⟩ (.slice a' n' cap')).setCell ⟨w.heap.size, 1, none⟩ (.int .i64 bs.length)) := Turn.setCell (S := fun k => k = w.heap.size) (Turn.setCell (S := fun k => k = w.heap.size) (Turn.refl _ w2) (p := ⟨w.heap.size, 0, none⟩) (fun _ => rfl) _) (p := ⟨w.heap.size, 1, none⟩) (fun _ => rfl) _
  go_wp2_with fail
  refine ⟨rfl, _, results_cell_row (g := w.heap.size) (cs := #[.slice a' n' cap', .int .i64 bs.length]) (t := 77) rfl _ _ _ _ rfl R3 Tryd.underlying77 rfl (by kernel_rfl), _, rfl, hO.turn T3 (fun g hg q => ?_), ?_, (T0.then_no T2).trans T3 (fun i hi q => by omega)⟩
  · rw [hB] at hg; cases hg; simp at q
  · rw [hB]; simp
end Go.Proofs.YtbkbecjgphjpkabDoor
