/- The tally's map: none, and one entry. -/
import Derived.Test.YtcjijofckjgikaaDoorT2
import Derived.Maps.RangeRun
namespace Go.Proofs.YtcjijofckjgikaaDoor
open Go.RowKit
open Go.ChangeMaps (setBlock)
set_option linter.unusedVariables false
set_option linter.unusedSimpArgs false

/-- The first vote's place. -/
def k0 : Value := .agg #[.int .i64 1, .int .i64 0, .int .i64 0]
/-- No vote. -/
def Z29 : Array Value := #[.int .i64 0, .int .u64 0, .int .i64 0, .int .u8 0, .int .u8 0, .int .u8 0, .int .u8 0, .int .u8 0, .int .u8 0, .int .u8 0, .int .u8 0, .int .u8 0, .int .u8 0, .int .u8 0, .int .u8 0, .int .u8 0, .int .u8 0, .int .u8 0, .int .u8 0, .int .u8 0, .int .u8 0, .int .u8 0, .int .u8 0, .int .u8 0, .int .u8 0, .int .u8 0, .int .u8 0, .int .u8 0, .int .u8 0, .int .u8 0, .int .u8 0, .int .u8 0, .int .u8 0, .int .u8 0, .int .u8 0, .int .u64 0, .int .u64 0, .int .u8 0, .int .u8 0, .int .u8 0, .int .u8 0, .int .u8 0, .int .u8 0, .int .u8 0, .int .u8 0, .int .u8 0, .int .u8 0, .int .u8 0, .int .u8 0, .int .u8 0, .int .u8 0, .int .u8 0, .int .u8 0]
theorem zero29 (w : World) : (zeroValue 29).run Tryd.prog w = .ok (.agg Z29) w := by kernel_rfl
theorem chk (b : Bool) (w : World) : (Instr.checkKey b 10000 74 k0).run Tryd.prog w = .ok () w := by cases b <;> kernel_rfl
theorem find0 (w : World) : (Instr.findKey 74 k0 []).run Tryd.prog w = .ok none w := by kernel_rfl
theorem find1 (w : World) (V : Value) : (Instr.findKey 74 k0 [⟨k0, V, 0⟩]).run Tryd.prog w = .ok (some (0, V)) w := by kernel_rfl
theorem look0 (w : World) (m : Nat) (h : w.heap[m]? = some (.map #[] 0)) : (Instr.lookup 35 (.map (some m)) k0 true).run Tryd.prog w = .ok (.tuple #[.agg Z29, .bool false]) w := by
  unfold Instr.lookup
  simp only [Sem.run_bind, run_underlying Tryd.underlying35, Result.andThen_ok, MapKept.run_getObj_map h, Sem.run_pure, chk, find0, zero29, Array.toList_empty]
  rfl
theorem look1 (w : World) (m : Nat) (V : Value) (h : w.heap[m]? = some (.map #[⟨k0, V, 0⟩] 1)) : (Instr.lookup 35 (.map (some m)) k0 false).run Tryd.prog w = .ok V w := by
  unfold Instr.lookup
  simp only [Sem.run_bind, run_underlying Tryd.underlying35, Result.andThen_ok, MapKept.run_getObj_map h, Sem.run_pure, chk, find1]
  rfl
theorem upd0 (w : World) (m : Nat) (V : Value) (h : w.heap[m]? = some (.map #[] 0)) : (Instr.mapUpdate 35 (.map (some m)) k0 V).run Tryd.prog w = .ok () (setBlock w m (.map #[⟨k0, V, 0⟩] 1)) := by
  unfold Instr.mapUpdate
  simp only [Sem.run_bind, run_underlying Tryd.underlying35, Result.andThen_ok, MapKept.run_getObj_map h, Sem.run_pure, chk, find0, Array.toList_empty, MapKept.run_setObj_map _ h]
  rfl
theorem range1 (w : World) (m : Nat) (V : Value) (h : w.heap[m]? = some (.map #[⟨k0, V, 0⟩] 1)) : (Instr.range 35 (.map (some m))).run Tryd.prog w = .ok (.pointer (some ⟨w.heap.size, 0, none⟩)) (w.alloc (.mapIter (some m) 1 #[] 1)) := run_range_map w 35 74 29 m _ 1 Tryd.underlying35 h
theorem next1 (w : World) (ty : TypeId) (r m : Nat) (V : Value) (hr : w.heap[r]? = some (.mapIter (some m) 1 #[] 1)) (h : w.heap[m]? = some (.map #[⟨k0, V, 0⟩] 1)) :
    ∃ w1 : World, (w1 = w ∨ w1 = w.drew) ∧ (Instr.next (.pointer (some ⟨r, 0, none⟩)) false ty).run Tryd.prog w = .ok (.tuple #[.bool true, k0, V]) (setBlock w1 r (.mapIter (some m) 1 #[0] 1)) := by
  rcases run_next_at (P := Tryd.prog) w ty r m 1 1 #[] #[⟨k0, V, 0⟩] 1 hr h (by simp) (Nat.le_refl _) with ⟨h0, _⟩ | ⟨e, he, w1, hw, hh⟩
  · simp [leftOf] at h0
  · have : e = ⟨k0, V, 0⟩ := by
      simpa [leftOf] using he
    subst this
    exact ⟨w1, hw, hh⟩
theorem next2 (w : World) (ty : TypeId) (r m : Nat) (V : Value) (hr : w.heap[r]? = some (.mapIter (some m) 1 #[0] 1)) (h : w.heap[m]? = some (.map #[⟨k0, V, 0⟩] 1)) :
    (Instr.next (.pointer (some ⟨r, 0, none⟩)) false ty).run Tryd.prog w = .ok (.tuple #[.bool false]) w := by
  rcases run_next_at (P := Tryd.prog) w ty r m 1 1 #[0] #[⟨k0, V, 0⟩] 1 hr h (by simp) (Nat.le_refl _) with ⟨_, h0⟩ | ⟨e, he, w1, hw, hh⟩
  · exact h0
  · simp [leftOf] at he
theorem entry1 (w : World) (r m : Nat) (V : Value) (hr : w.heap[r]? = some (.mapIter (some m) 1 #[0] 1)) (h : w.heap[m]? = some (.map #[⟨k0, V, 0⟩] 1)) :
    (Instr.entry (.pointer (some ⟨r, 0, none⟩))).run Tryd.prog w = .ok (.tuple #[k0, V]) w :=
  run_entry_at w r m 1 #[] #[⟨k0, V, 0⟩] 1 ⟨k0, V, 0⟩ hr h (by simp) (by simp)
end Go.Proofs.YtcjijofckjgikaaDoor
