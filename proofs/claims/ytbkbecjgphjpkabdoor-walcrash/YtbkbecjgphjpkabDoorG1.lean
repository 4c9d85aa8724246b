/- A log in memory: made, Count, change. -/
import Derived.Test.YtbkbecjgphjpkabDoorN0
namespace Go.Proofs.YtbkbecjgphjpkabDoor
open Go.RowKit Go.Maps
set_option linter.unusedVariables false

theorem some65 : (Tryd.prog.info? 65).isSome = true := by kernel_rfl
theorem eql29_same (a : Addr) (w : World) : (binOp .eql 29 (.pointer (some a)) (.pointer (some a))).run Tryd.prog w = .ok (.bool true) w := by
  obtain ⟨j, hj⟩ := Option.isSome_iff_exists.1 some65
  exact run_eql_ptr_same w a Tryd.underlying29 hj
attribute [local go_sem] eql29_same

/-- A log at q over the disk at p: its file's name, how many records, how many synced, dead or not. -/
structure Lg (w : World) (q p : Nat) (nm : Nm) (c y : Nat) (d : Bool) : Prop where
  blk : w.heap[q]? = some (.cells #[ptr q, ptr p, strV nm, .int .i64 c, .int .i64 y, .bool d] 65 (0, 0))

section
variable {w : World} {q p : Nat} {nm : Nm} {c y : Nat} {d : Bool}
theorem Lg.c0 (h : Lg w q p nm c y d) : w.cell? ⟨q, 0, none⟩ = some (ptr q) := by rw [cell_of_row w q 0 _ 65 (0, 0) h.blk]; rfl
theorem Lg.c1 (h : Lg w q p nm c y d) : w.cell? ⟨q, 1, none⟩ = some (ptr p) := by rw [cell_of_row w q 1 _ 65 (0, 0) h.blk]; rfl
theorem Lg.c2 (h : Lg w q p nm c y d) : w.cell? ⟨q, 2, none⟩ = some (strV nm) := by rw [cell_of_row w q 2 _ 65 (0, 0) h.blk]; rfl
theorem Lg.c3 (h : Lg w q p nm c y d) : w.cell? ⟨q, 3, none⟩ = some (.int .i64 c) := by rw [cell_of_row w q 3 _ 65 (0, 0) h.blk]; rfl
theorem Lg.c4 (h : Lg w q p nm c y d) : w.cell? ⟨q, 4, none⟩ = some (.int .i64 y) := by rw [cell_of_row w q 4 _ 65 (0, 0) h.blk]; rfl
theorem Lg.c5 (h : Lg w q p nm c y d) : w.cell? ⟨q, 5, none⟩ = some (.bool d) := by rw [cell_of_row w q 5 _ 65 (0, 0) h.blk]; rfl
theorem Lg.f (h : Lg w q p nm c y d) (j : Nat) : w.frozen? ⟨q, j, none⟩ = false := frozen_of_row w q j _ 65 h.blk
theorem Lg.lt (h : Lg w q p nm c y d) : q < w.heap.size := lt_of_obj h.blk
theorem Lg.turn {S : Nat → Prop} {w' : World} (h : Lg w q p nm c y d) (t : Turn S w w') (hn : ¬ S q) : Lg w' q p nm c y d := ⟨t.obj h.blk hn⟩
theorem Lg.turn_no {w' : World} (h : Lg w q p nm c y d) (t : Turn no w w') : Lg w' q p nm c y d := h.turn t (fun z => z)
theorem Lg.setCount (h : Lg w q p nm c y d) (n : Nat) : Lg (w.setCell ⟨q, 3, none⟩ (.int .i64 n)) q p nm n y d := by
  have := cells_set 3 (.int .i64 n) h.blk
  exact ⟨by simpa using this⟩
theorem Lg.setSync (h : Lg w q p nm c y d) (n : Nat) : Lg (w.setCell ⟨q, 4, none⟩ (.int .i64 n)) q p nm c n d := by
  have := cells_set 4 (.int .i64 n) h.blk
  exact ⟨by simpa using this⟩
theorem Lg.setDead (h : Lg w q p nm c y d) (b : Bool) : Lg (w.setCell ⟨q, 5, none⟩ (.bool b)) q p nm c y b := by
  have := cells_set 5 (.bool b) h.blk
  exact ⟨by simpa using this⟩

set_option maxRecDepth 100000 in
set_option maxHeartbeats 1000000 in
theorem made20 (h : Lg w q p nm c y d) : Calls Tryd.prog 20 #[ptr q] w fun e w' => e = .returned (.bool true) ∧ w' = w := by
  have c0 := h.c0
  unfold ptr at *
  go_enter Tryd.func20, Tryd.ntmps20
  go_wp2
  go_ret
  exact ⟨rfl, rfl⟩
set_option maxRecDepth 100000 in
set_option maxHeartbeats 1000000 in
theorem count9 (h : Lg w q p nm c y d) : Calls Tryd.prog 9 #[ptr q] w fun e w' => e = .returned (.tuple #[.int .i64 c, .int .i64 y]) ∧ ∃ n, w' = w.drewN n := by
  have c1 := made20 h
  have c3 := h.c3
  have c4 := h.c4
  unfold ptr at *
  go_enter Tryd.func9, Tryd.ntmps9
  go_wp2_with fail
  refine c1.mono ?_
  rintro e w1 ⟨rfl, rfl⟩
  clear c1
  go_wp2_with fail
  go_quiet (fail)
  go_wp2
  go_ret2
  exact ⟨rfl, _, rfl⟩

set_option maxRecDepth 100000 in
set_option maxHeartbeats 2000000 in
theorem change_43 (h : Lg w q p nm c y false) (caps : Array Value) (E : Int) (R : World → Nat → Nat → Prop)
    (hc : Calls Tryd.prog 43 caps w fun e w' => e = .returned (.int .i64 E) ∧ ∃ c' y', Lg w' q p nm c' y' false ∧ R w' c' y') :
    Calls Tryd.prog 42 #[ptr q, .func (.func 43) #[] caps] w fun e w' => e = .returned (.int .i64 E) ∧ ∃ w1 c' y', R w1 c' y' ∧ Lg w1 q p nm c' y' false ∧ w' = w1.setCell ⟨q, 5, none⟩ (.bool (E != 0 && E != 4)) := by
  have c1 := made20 h
  have c5 := h.c5
  unfold ptr at *
  go_enter Tryd.func42, Tryd.ntmps42
  go_wp2_with fail
  refine c1.mono ?_
  rintro e w1 ⟨rfl, rfl⟩
  go_wp2_with fail
  refine hc.mono ?_
  rintro e w2 ⟨rfl, c', y', L2, r2⟩
  have d5 := L2.c5
  have f5 := L2.f 5
  clear c1 c5 hc
  by_cases h0 : (E != 0) = true
  · by_cases h4 : (E != 4) = true
    · have hv : Hid ((E != 0 && E != 4) = true) := by show (E != 0 && E != 4) = true; rw [h0, h4]; rfl
      go_wp2_with fail
      go_ret
      refine ⟨rfl, w2, c', y', r2, L2, ?_⟩
      rw [hv.out]
    · have h4' : (E != 4) = false := by simpa using h4
      have hv : Hid ((E != 0 && E != 4) = false) := by show (E != 0 && E != 4) = false; rw [h0, h4']; rfl
      go_wp2_with fail
      go_ret
      refine ⟨rfl, w2, c', y', r2, L2, ?_⟩
      rw [hv.out]
  · have h0' : (E != 0) = false := by simpa using h0
    have hv : Hid ((E != 0 && E != 4) = false) := by show (E != 0 && E != 4) = false; rw [h0']; rfl
    go_wp2_with fail
    go_ret
    refine ⟨rfl, w2, c', y', r2, L2, ?_⟩
    rw [hv.out]
set_option maxRecDepth 100000 in
set_option maxHeartbeats 2000000 in
theorem change_dead_43 (h : Lg w q p nm c y true) (caps : Array Value) :
    Calls Tryd.prog 42 #[ptr q, .func (.func 43) #[] caps] w fun e w' => e = .returned (.int .i64 70) ∧ w' = w := by
  have c1 := made20 h
  have c5 := h.c5
  unfold ptr at *
  go_enter Tryd.func42, Tryd.ntmps42
  go_wp2_with fail
  refine c1.mono ?_
  rintro e w1 ⟨rfl, rfl⟩
  go_wp2_with fail
  go_ret
  exact ⟨rfl, rfl⟩

set_option maxRecDepth 100000 in
set_option maxHeartbeats 2000000 in
theorem change_46 (h : Lg w q p nm c y false) (caps : Array Value) (E : Int) (R : World → Nat → Nat → Prop)
    (hc : Calls Tryd.prog 46 caps w fun e w' => e = .returned (.int .i64 E) ∧ ∃ c' y', Lg w' q p nm c' y' false ∧ R w' c' y') :
    Calls Tryd.prog 42 #[ptr q, .func (.func 46) #[] caps] w fun e w' => e = .returned (.int .i64 E) ∧ ∃ w1 c' y', R w1 c' y' ∧ Lg w1 q p nm c' y' false ∧ w' = w1.setCell ⟨q, 5, none⟩ (.bool (E != 0 && E != 4)) := by
  have c1 := made20 h
  have c5 := h.c5
  unfold ptr at *
  go_enter Tryd.func42, Tryd.ntmps42
  go_wp2_with fail
  refine c1.mono ?_
  rintro e w1 ⟨rfl, rfl⟩
  go_wp2_with fail
  refine hc.mono ?_
  rintro e w2 ⟨rfl, c', y', L2, r2⟩
  have d5 := L2.c5
  have f5 := L2.f 5
  clear c1 c5 hc
  by_cases h0 : (E != 0) = true
  · by_cases h4 : (E != 4) = true
    · have hv : Hid ((E != 0 && E != 4) = true) := by show (E != 0 && E != 4) = true; rw [h0, h4]; rfl
      go_wp2_with fail
      go_ret
      refine ⟨rfl, w2, c', y', r2, L2, ?_⟩
      rw [hv.out]
    · have h4' : (E != 4) = false := by simpa using h4
      have hv : Hid ((E != 0 && E != 4) = false) := by show (E != 0 && E != 4) = false; rw [h0, h4']; rfl
      go_wp2_with fail
      go_ret
      refine ⟨rfl, w2, c', y', r2, L2, ?_⟩
      rw [hv.out]
  · have h0' : (E != 0) = false := by simpa using h0
    have hv : Hid ((E != 0 && E != 4) = false) := by show (E != 0 && E != 4) = false; rw [h0']; rfl
    go_wp2_with fail
    go_ret
    refine ⟨rfl, w2, c', y', r2, L2, ?_⟩
    rw [hv.out]
set_option maxRecDepth 100000 in
set_option maxHeartbeats 2000000 in
theorem change_dead_46 (h : Lg w q p nm c y true) (caps : Array Value) :
    Calls Tryd.prog 42 #[ptr q, .func (.func 46) #[] caps] w fun e w' => e = .returned (.int .i64 70) ∧ w' = w := by
  have c1 := made20 h
  have c5 := h.c5
  unfold ptr at *
  go_enter Tryd.func42, Tryd.ntmps42
  go_wp2_with fail
  refine c1.mono ?_
  rintro e w1 ⟨rfl, rfl⟩
  go_wp2_with fail
  go_ret
  exact ⟨rfl, rfl⟩
end
end Go.Proofs.YtbkbecjgphjpkabDoor
