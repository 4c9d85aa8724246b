/- Walks: logs and disks that no call made. -/
import Derived.Test.YtbkbecjgphjpkaaDoorL4
namespace Go.Proofs.YtbkbecjgphjpkaaDoor
open Go.RowKit
set_option linter.unusedVariables false

theorem some55 : (Tryd.prog.info? 55).isSome = true := by kernel_rfl
theorem some53 : (Tryd.prog.info? 53).isSome = true := by kernel_rfl
theorem eql46_nil (a : Addr) (w : World) : (binOp .eql 46 (.pointer none) (.pointer (some a))).run Tryd.prog w = .ok (.bool false) w := by
  have h : ∀ d : Nat, (Op.equalIn (d + 1) 46 (.pointer none) (.pointer (some a))).run Tryd.prog w = .ok false w := fun d => by
    simp [Op.equalIn, run_underlying Tryd.underlying46]
  simp only [binOp]
  simp [Op.equal, Op.maxDepth, h 9999]
theorem eql49_nil (a : Addr) (w : World) : (binOp .eql 49 (.pointer none) (.pointer (some a))).run Tryd.prog w = .ok (.bool false) w := by
  have h : ∀ d : Nat, (Op.equalIn (d + 1) 49 (.pointer none) (.pointer (some a))).run Tryd.prog w = .ok false w := fun d => by
    simp [Op.equalIn, run_underlying Tryd.underlying49]
  simp only [binOp]
  simp [Op.equal, Op.maxDepth, h 9999]
attribute [local go_sem] eql46_nil eql49_nil

/-- A pointer that leads to nothing, or to what no call made. -/
def Un (w : World) (v : Value) : Prop := v = .pointer none ∨ ∃ p, v = .pointer (some ⟨p, 0, none⟩) ∧ w.cell? ⟨p, 0, none⟩ = some (.pointer none)
theorem Un.turn_no {w w' : World} {v : Value} (h : Un w v) (t : Turn no w w') : Un w' v := by
  rcases h with rfl | ⟨p, rfl, c⟩
  · exact Or.inl rfl
  · exact Or.inr ⟨p, rfl, t.keep c (fun q => q)⟩

set_option maxRecDepth 100000 in
set_option maxHeartbeats 1000000 in
theorem made46 (w : World) (v : Value) (h : Un w v) : Calls Tryd.prog 46 #[v] w fun e w' => e = .returned (.bool false) ∧ w' = w := by
  rcases h with rfl | ⟨p, rfl, c⟩
  all_goals
    go_enter Tryd.func46, Tryd.ntmps46
    go_wp2
    go_ret
    exact ⟨rfl, rfl⟩
set_option maxRecDepth 100000 in
set_option maxHeartbeats 1000000 in
theorem made72 (w : World) (v : Value) (h : Un w v) : Calls Tryd.prog 72 #[v] w fun e w' => e = .returned (.bool false) ∧ w' = w := by
  rcases h with rfl | ⟨p, rfl, c⟩
  all_goals
    go_enter Tryd.func72, Tryd.ntmps72
    go_wp2
    go_ret
    exact ⟨rfl, rfl⟩
set_option maxRecDepth 100000 in
set_option maxHeartbeats 1000000 in
theorem count25 (w : World) (v : Value) (h : Un w v) : Calls Tryd.prog 25 #[v] w fun e w' => e = .returned (.tuple #[.int .i64 0, .int .i64 0]) ∧ w' = w := by
  have c1 := made46 w v h
  obtain ⟨a, rfl⟩ : ∃ a, v = .pointer a := by rcases h with rfl | ⟨p, rfl, _⟩ <;> exact ⟨_, rfl⟩
  go_enter Tryd.func25, Tryd.ntmps25
  go_wp2_with fail
  refine c1.mono ?_
  rintro e w1 ⟨rfl, rfl⟩
  go_wp2_with fail
  go_ret2
  exact ⟨rfl, rfl⟩
set_option maxRecDepth 100000 in
set_option maxHeartbeats 1000000 in
theorem name26 (w : World) (v : Value) (h : Un w v) : Calls Tryd.prog 26 #[v] w fun e w' => e = .returned (.string ⟨#[]⟩) ∧ w' = w := by
  have c1 := made46 w v h
  obtain ⟨a, rfl⟩ : ∃ a, v = .pointer a := by rcases h with rfl | ⟨p, rfl, _⟩ <;> exact ⟨_, rfl⟩
  go_enter Tryd.func26, Tryd.ntmps26
  go_wp2_with fail
  refine c1.mono ?_
  rintro e w1 ⟨rfl, rfl⟩
  go_wp2_with fail
  go_ret
  exact ⟨rfl, rfl⟩
set_option maxRecDepth 100000 in
set_option maxHeartbeats 1000000 in
theorem change47 (w : World) (v f : Value) (h : Un w v) : Calls Tryd.prog 47 #[v, f] w fun e w' => e = .returned (.int .i64 1) ∧ w' = w := by
  have c1 := made46 w v h
  obtain ⟨a, rfl⟩ : ∃ a, v = .pointer a := by rcases h with rfl | ⟨p, rfl, _⟩ <;> exact ⟨_, rfl⟩
  go_enter Tryd.func47, Tryd.ntmps47
  go_wp2_with fail
  refine c1.mono ?_
  rintro e w1 ⟨rfl, rfl⟩
  go_wp2_with fail
  go_ret
  exact ⟨rfl, rfl⟩
set_option maxRecDepth 100000 in
set_option maxHeartbeats 1000000 in
theorem append27 (w : World) (v : Value) (h : Un w v) (a : Option Addr) (n c : Nat) : Calls Tryd.prog 27 #[v, .slice a n c] w fun e w' => e = .returned (.int .i64 1) ∧ Turn no w w' := by
  obtain ⟨b, rfl⟩ : ∃ a, v = .pointer a := by rcases h with rfl | ⟨p, rfl, _⟩ <;> exact ⟨_, rfl⟩
  have T : Turn no w ((w.alloc (.cells #[.pointer b] 46)).alloc (.cells #[.slice a n c] 22)) := ((Turn.refl no w).alloc _).alloc _
  have hU := h.turn_no T
  go_enter Tryd.func27, Tryd.ntmps27
  go_wp2_with fail
  refine (change47 _ _ _ hU).mono ?_
  rintro e w1 ⟨rfl, rfl⟩
  go_wp2_with fail
  go_ret
  exact ⟨rfl, T⟩
set_option maxRecDepth 100000 in
set_option maxHeartbeats 1000000 in
theorem sync28 (w : World) (v : Value) (h : Un w v) : Calls Tryd.prog 28 #[v] w fun e w' => e = .returned (.int .i64 1) ∧ Turn no w w' := by
  obtain ⟨b, rfl⟩ : ∃ a, v = .pointer a := by rcases h with rfl | ⟨p, rfl, _⟩ <;> exact ⟨_, rfl⟩
  have T : Turn no w (w.alloc (.cells #[.pointer b] 46)) := (Turn.refl no w).alloc _
  have hU := h.turn_no T
  go_enter Tryd.func28, Tryd.ntmps28
  go_wp2_with fail
  refine (change47 _ _ _ hU).mono ?_
  rintro e w1 ⟨rfl, rfl⟩
  go_wp2_with fail
  go_ret
  exact ⟨rfl, T⟩
end Go.Proofs.YtbkbecjgphjpkaaDoor
