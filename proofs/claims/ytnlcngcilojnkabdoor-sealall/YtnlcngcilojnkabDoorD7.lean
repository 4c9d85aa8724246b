/- Sum, Leaf, Inner; alive. -/
import Derived.Test.YtnlcngcilojnkabDoorD6
namespace Go.Proofs.YtnlcngcilojnkabDoor
open Go.RowKit
set_option linter.unusedVariables false

/-- A digest as a value. -/
def hv (bs : List UInt8) : Array Value := ((hashOf bs).map bv).toArray
theorem hv_size (bs : List UInt8) : (hv bs).size = 32 := by simp [hv, hashOf_len]
theorem hv_one (bs : List UInt8) : (hv bs).all (·.oneCell') = true := by simp [hv, bv, Value.oneCell']
theorem hv_info (bs : List UInt8) : (Tryd.prog.info? 125).map (·.size) = some (hv bs).size := by rw [hv_size]; exact size35
theorem hv_get (bs : List UInt8) (k : Nat) (hk : k < 32) : (hv bs)[k]? = some (bv (hashAt (shaOf bs) k)) := by simp [hv, hashOf, hk]

theorem Row.newAt (w : World) (cs : Array Value) (e : TypeId) (g : Nat) (h : g = w.heap.size) : Row (w.alloc (.cells cs e)) g cs e := by subst h; exact Row.new w cs e

/-- New bytes, marked as coming of a text. -/
def mark (w : World) (cs : Array Value) : World := (w.alloc (.cells cs 5)).freeze ⟨w.heap.size, cs.size, none⟩ 1
theorem conv22 (w : World) (cs : Array Value) (n c : Nat) : (convert 29 29 (.slice (some ⟨w.heap.size, 0, none⟩) n c)).run Tryd.prog (w.alloc (.cells cs 5)) = .ok (.slice (some ⟨w.heap.size, 0, none⟩) n c) (mark w cs) := by
  have hsh : (w.alloc (.cells cs 5)).shape? w.heap.size = some (5, cs.size) := by
    simp [World.shape?, World.alloc, -World.alloc_eq]
  simp [convert, run_underlying Tryd.underlying29, run_underlying Tryd.underlying5, markStringish, hsh, mark]
theorem mark_new (w : World) (cs : Array Value) : (mark w cs).heap[w.heap.size]? = some (.cells cs 5 (cs.size, cs.size + 1)) := by
  simp [mark, World.freeze, World.alloc, -World.alloc_eq, Array.getElem_modify]
theorem mark_turn (w : World) (cs : Array Value) : Turn no w (mark w cs) :=
  ⟨rfl, rfl, rfl, by simp [mark, World.freeze, World.alloc, -World.alloc_eq], fun k hk _ => by
    have : w.heap.size ≠ k := by omega
    simp [mark, World.freeze, World.alloc, -World.alloc_eq, Array.getElem?_modify, Array.getElem?_push, this, this.symm]⟩
theorem mark_cell (w : World) (cs : Array Value) (j : Nat) : (mark w cs).cell? ⟨w.heap.size, j, none⟩ = cs[j]? := cell_of_row _ _ j cs 5 _ (mark_new w cs)

end Go.Proofs.YtnlcngcilojnkabDoor
