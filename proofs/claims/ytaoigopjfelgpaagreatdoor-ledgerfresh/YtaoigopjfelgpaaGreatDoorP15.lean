/- What Prove makes a witness of: its first form, and one more of each list. -/
import Derived.Test.YtaoigopjfelgpaaGreatDoorP13
import Derived.Test.YtaoigopjfelgpaaGreatDoorKa
import Derived.Test.YtaoigopjfelgpaaGreatDoorY2
namespace Go.Proofs.YtaoigopjfelgpaaGreatDoor
open Go.RowKit
set_option linter.unusedVariables false

theorem bldW (w : World) (R : List UInt8) (hR : R.length = 32) : (Instr.build 43 #[(0, .agg (hb32 R))]).run Tryz.prog w = .ok (.agg (wtL R (.slice none 0 0) (.slice none 0 0)).toArray) w := by
  obtain _ | ⟨x0, R⟩ := R
  · simp at hR
  obtain _ | ⟨x1, R⟩ := R
  · simp at hR
  obtain _ | ⟨x2, R⟩ := R
  · simp at hR
  obtain _ | ⟨x3, R⟩ := R
  · simp at hR
  obtain _ | ⟨x4, R⟩ := R
  · simp at hR
  obtain _ | ⟨x5, R⟩ := R
  · simp at hR
  obtain _ | ⟨x6, R⟩ := R
  · simp at hR
  obtain _ | ⟨x7, R⟩ := R
  · simp at hR
  obtain _ | ⟨x8, R⟩ := R
  · simp at hR
  obtain _ | ⟨x9, R⟩ := R
  · simp at hR
  obtain _ | ⟨x10, R⟩ := R
  · simp at hR
  obtain _ | ⟨x11, R⟩ := R
  · simp at hR
  obtain _ | ⟨x12, R⟩ := R
  · simp at hR
  obtain _ | ⟨x13, R⟩ := R
  · simp at hR
  obtain _ | ⟨x14, R⟩ := R
  · simp at hR
  obtain _ | ⟨x15, R⟩ := R
  · simp at hR
  obtain _ | ⟨x16, R⟩ := R
  · simp at hR
  obtain _ | ⟨x17, R⟩ := R
  · simp at hR
  obtain _ | ⟨x18, R⟩ := R
  · simp at hR
  obtain _ | ⟨x19, R⟩ := R
  · simp at hR
  obtain _ | ⟨x20, R⟩ := R
  · simp at hR
  obtain _ | ⟨x21, R⟩ := R
  · simp at hR
  obtain _ | ⟨x22, R⟩ := R
  · simp at hR
  obtain _ | ⟨x23, R⟩ := R
  · simp at hR
  obtain _ | ⟨x24, R⟩ := R
  · simp at hR
  obtain _ | ⟨x25, R⟩ := R
  · simp at hR
  obtain _ | ⟨x26, R⟩ := R
  · simp at hR
  obtain _ | ⟨x27, R⟩ := R
  · simp at hR
  obtain _ | ⟨x28, R⟩ := R
  · simp at hR
  obtain _ | ⟨x29, R⟩ := R
  · simp at hR
  obtain _ | ⟨x30, R⟩ := R
  · simp at hR
  obtain _ | ⟨x31, R⟩ := R
  · simp at hR
  obtain _ | ⟨x32, R⟩ := R
  · kernel_rfl
  · simp at hR
theorem bslA (w : World) (m : Ac) : (Instr.buildSlice 22 1 #[(0, .agg (acs m).toArray)]).run Tryz.prog w = .ok (.slice (some ⟨w.heap.size, 0, none⟩) 1 1) (w.alloc (.cells (acs m).toArray 50)) := by kernel_rfl
theorem bslP (w : World) (q : Pf) (a : Option Addr) (c : Nat) : (Instr.buildSlice 41 1 #[(0, .agg (pfC q a c).toArray)]).run Tryz.prog w = .ok (.slice (some ⟨w.heap.size, 0, none⟩) 1 1) (w.alloc (.cells (pfC q a c).toArray 53)) := by kernel_rfl
theorem info43a : (Tryz.prog.info? 50).map (fun i => (i.zero, i.size, i.bytes)) = some (some (.agg #[.int .u64 0, .int .u64 0, .int .u64 0, .int .u64 0, .bool false]), 5, 40) := by kernel_rfl
theorem info69p : (Tryz.prog.info? 53).map (fun i => (i.zero, i.size, i.bytes)) = some (some (.agg #[.int .i64 0, .int .i64 0, .slice none 0 0]), 3, 40) := by kernel_rfl
/-- One more account in new memory. -/
theorem ac_app {w W : World} {v : Value} {n : Nat} {xs : List Value} (T : Turn no w W) (O : OwnN W 50 5 v n xs) (f : ∀ g, v.ownBlock = some g → w.heap.size ≤ g) (hn : n ≤ 4) (m : Ac) :
    ∃ v2 w2, (Builtin.append_ #[22, 22] 22 #[v, .slice (some ⟨W.heap.size, 0, none⟩) 1 1]).run Tryz.prog (W.alloc (.cells (acs m).toArray 50)) = .ok v2 w2 ∧ OwnN w2 50 5 v2 (n + 1) (xs ++ acs m) ∧ Turn no w w2 ∧ ∃ g2 c2, v2 = .slice (some ⟨g2, 0, none⟩) (n + 1) c2 ∧ n + 1 ≤ c2 ∧ w.heap.size ≤ g2 := by
  have TX : Turn no W (W.alloc (.cells (acs m).toArray 50)) := (Turn.refl no W).alloc _
  have := app_second Tryz.underlying22 info43a rfl (by decide) (T.then_no TX) (O.turn_no TX) f (Row.new W (acs m).toArray 50) rfl (by simp [acs, Value.oneCell']) (by omega) (by simp only [maxLen]; omega)
  simpa using this
/-- One more proof in new memory. -/
theorem pf_app {w W : World} {v : Value} {n : Nat} {xs : List Value} (T : Turn no w W) (O : OwnN W 53 3 v n xs) (f : ∀ g, v.ownBlock = some g → w.heap.size ≤ g) (hn : n ≤ 4) (q : Pf) (a : Option Addr) (c : Nat) :
    ∃ v2 w2, (Builtin.append_ #[41, 41] 41 #[v, .slice (some ⟨W.heap.size, 0, none⟩) 1 1]).run Tryz.prog (W.alloc (.cells (pfC q a c).toArray 53)) = .ok v2 w2 ∧ OwnN w2 53 3 v2 (n + 1) (xs ++ pfC q a c) ∧ Turn no w w2 ∧ ∃ g2 c2, v2 = .slice (some ⟨g2, 0, none⟩) (n + 1) c2 ∧ n + 1 ≤ c2 ∧ w.heap.size ≤ g2 := by
  have TX : Turn no W (W.alloc (.cells (pfC q a c).toArray 53)) := (Turn.refl no W).alloc _
  have := app_second Tryz.underlying41 info69p rfl (by decide) (T.then_no TX) (O.turn_no TX) f (Row.new W (pfC q a c).toArray 53) rfl (by simp [pfC, Value.oneCell']) (by omega) (by simp only [maxLen]; omega)
  simpa using this
theorem wp_build1 {P : Program} {o : Oper} {a : Act} {w : World} {K : Act → World → Prop} {Q : Exit → Act → World → Prop} (t : TypeId) (x : Operand) (ho : o.op = .build t #[(0, x)]) (v : Value) (hx : a.eval x = v) {r : Value} {w' : World} (hr : (Instr.build t #[(0, v)]).run P w = .ok r w') (h : K (a.put o.dst r) w') : Oper.wp P o a w K Q := by
  unfold Oper.wp execOp
  simp only [ho, hx, Sem.run_bind, List.map_toArray, List.map_cons, List.map_nil, hr, Result.andThen_ok, Sem.run_pure]
  exact h
theorem wpList_build1 {P : Program} {ops : Array Oper} {rest : List Oper} {op : Oper} {a : Act} {w : World} {Q : Exit → Act → World → Prop} (hgd : op.guard = none) (t : TypeId) (x : Operand) (ho : op.op = .build t #[(0, x)]) (v : Value) (hx : a.eval x = v) (r : Value) (w' : World) (hr : (Instr.build t #[(0, v)]).run P w = .ok r w') (h : wpList P ops Q rest (a.put op.dst r) w') : wpList P ops Q (op :: rest) a w :=
  wpList_plain hgd fun K hK => wp_build1 t x ho v hx hr (hK _ _ h)
theorem wt_one (R : List UInt8) : (wtL R (.slice none 0 0) (.slice none 0 0)).toArray.all (·.oneCell') = true := by
  simp [wtL, Value.oneCell', bv]
end Go.Proofs.YtaoigopjfelgpaaGreatDoor

