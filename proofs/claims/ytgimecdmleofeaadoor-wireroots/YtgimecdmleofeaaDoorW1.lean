/- Walks: pointers held against each other, fault, made, Err and the other small ones; same, lent, left. -/
import Derived.Test.YtgimecdmleofeaaDoorRows
import Derived.Test.YtgimecdmleofeaaDoorBase
namespace Go.Proofs.YtgimecdmleofeaaDoor
open Go.RowKit

theorem Tryd.info5 : (Tryd.prog.info? 5).map (fun i => (i.zero, i.size, i.bytes)) = some (some (.int .u8 0), 1, 1) := by kernel_rfl
theorem some65 : (Tryd.prog.info? 138).isSome = true := by kernel_rfl
theorem neq50_same (a : Addr) (w : World) : (binOp .neq 93 (.pointer (some a)) (.pointer (some a))).run Tryd.prog w = .ok (.bool false) w := by
  obtain ⟨j, hj⟩ := Option.isSome_iff_exists.1 some65
  exact Lib.run_neq_ptr_same w a Tryd.underlying93 hj
theorem neq50_nil (a : Addr) (w : World) : (binOp .neq 93 (.pointer none) (.pointer (some a))).run Tryd.prog w = .ok (.bool true) w := by
  have h : ∀ d : Nat, (Op.equalIn (d + 1) 93 (.pointer none) (.pointer (some a))).run Tryd.prog w = .ok false w := fun d => by
    simp [Op.equalIn, run_underlying Tryd.underlying93]
  simp only [binOp]
  simp [Op.equal, Op.maxDepth, h 9999]
attribute [local go_sem] neq50_same neq50_nil

/-- What 'fault' answers of a Writer: no Writer, one that was not made, one with this error. -/
def Fault (w : World) (v : Value) (e : Int) : Prop :=
  (v = .pointer none ∧ e = 1) ∨ (∃ p, v = .pointer (some ⟨p, 0, none⟩) ∧ w.cell? ⟨p, 0, none⟩ = some (.pointer none) ∧ e = 1) ∨
  (∃ p, v = .pointer (some ⟨p, 0, none⟩) ∧ w.cell? ⟨p, 0, none⟩ = some (.pointer (some ⟨p, 0, none⟩)) ∧ w.cell? ⟨p, 2, none⟩ = some (.int .i64 e))

set_option maxRecDepth 100000 in
set_option maxHeartbeats 400000 in
theorem fault_any (w : World) (v : Value) (e0 : Int) (h : Fault w v e0) :
    Calls Tryd.prog 96 #[v] w fun e w' => e = .returned (.int .i64 e0) ∧ w = w' := by
  rcases h with ⟨rfl, rfl⟩ | ⟨p, rfl, h0, rfl⟩ | ⟨p, rfl, h0, h2⟩
  all_goals
    go_enter Tryd.func96, Tryd.ntmps96
    go_wp2
    go_ret
    exact ⟨rfl, rfl⟩

/-- What 'Err' answers of a Reader, likewise; and whether it was made. -/
def Errs (w : World) (v : Value) (e : Int) : Prop :=
  (v = .pointer none ∧ e = 1) ∨ (∃ p, v = .pointer (some ⟨p, 0, none⟩) ∧ w.cell? ⟨p, 0, none⟩ = some (.pointer none) ∧ e = 1) ∨
  (∃ p, v = .pointer (some ⟨p, 0, none⟩) ∧ w.cell? ⟨p, 0, none⟩ = some (.pointer (some ⟨p, 0, none⟩)) ∧ w.cell? ⟨p, 3, none⟩ = some (.int .i64 e))

theorem beq_take_succ {xs bs : List UInt8} {k : Nat} (hl : xs.length = bs.length) (hk : k < xs.length) (h : xs.take k = bs.take k) (he : xs.getD k 0 = bs.getD k 0) : xs.take (k + 1) = bs.take (k + 1) := by
  rw [List.take_succ_eq_append_getElem hk, List.take_succ_eq_append_getElem (by omega), h]
  have e1 : xs[k] = xs.getD k 0 := by simp [hk]
  have e2 : bs[k] = bs.getD k 0 := by simp [show k < bs.length by omega]
  rw [e1, e2, he]

theorem ne_of_getD {xs bs : List UInt8} {k : Nat} (he : xs.getD k 0 ≠ bs.getD k 0) : (xs == bs) = false := by
  apply beq_eq_false_iff_ne.2
  intro h
  exact he (by rw [h])

theorem u8_ne {a b : UInt8} (h : ((a.toNat : Int) != (b.toNat : Int)) = true) : a ≠ b := by
  intro q
  subst q
  simp at h

theorem u8_eq {a b : UInt8} (h : ((a.toNat : Int) != (b.toNat : Int)) = false) : a = b := by
  simp at h
  exact UInt8.toNat_inj.1 (by omega)

theorem own_empty (w : World) (e : TypeId) : Own (w.alloc (.cells #[] e)) e (.slice (some ⟨w.heap.size, 0, none⟩) 0 0) [] :=
  Own.of (xs := []) (heap_alloc_new w _) (Nat.le_refl _) (Nat.zero_le _) rfl rfl

/-- What 'lent' hands out: a row of its own with three marks behind. -/
def Lent (w : World) (v : Value) (bs : List UInt8) : Prop :=
  ∃ g cap cur, v = .slice (some ⟨g, 0, none⟩) bs.length cap ∧ w.heap[g]? = some (.cells cur 5 (0, 0)) ∧ bs.length + 3 ≤ cap ∧ cap ≤ maxLen ∧ cur.size = cap ∧ cur.toList.take (bs.length + 3) = (bs ++ [161, 162, 163]).map bv

theorem cells_set {w : World} {g : Nat} {cur : Array Value} {e : TypeId} (k : Nat) (u : Value) (hg : w.heap[g]? = some (.cells cur e (0, 0))) : (w.setCell ⟨g, k, none⟩ u).heap[g]? = some (.cells (cur.setIfInBounds k u) e (0, 0)) :=
  heap_setCell_same w g k cur e u hg

theorem Lent.bs {w : World} {v : Value} {bs : List UInt8} (h : Lent w v bs) : Bs w v bs := by
  obtain ⟨g, cap, cur, rfl, hg, h1, h2, h3, h4⟩ := h
  refine Or.inr ⟨⟨g, 0, none⟩, cap, rfl, by omega, h2, fun j u hu => ?_⟩
  rw [Addr.add_lit, cell_of_row w g (0 + j) cur 5 (0, 0) hg, Nat.zero_add]
  have hj : j < bs.length := (List.getElem?_eq_some_iff.1 hu).1
  have : (cur.toList.take (bs.length + 3))[j]? = some (bv u) := by
    rw [h4, List.getElem?_map, List.getElem?_append_left hj, hu]; rfl
  rw [List.getElem?_take, if_pos (by omega)] at this
  simpa using this

theorem Lent.mark {w : World} {g : Nat} {cur : Array Value} {bs : List UInt8} (hg : w.heap[g]? = some (.cells cur 5 (0, 0))) (h4 : cur.toList.take (bs.length + 3) = (bs ++ [161, 162, 163]).map bv) (j : Nat) (hj : j < 3) : w.cell? ⟨g, bs.length + j, none⟩ = some (bv ([161, 162, 163].getD j 0)) := by
  rw [cell_of_row w g _ cur 5 (0, 0) hg]
  have : (cur.toList.take (bs.length + 3))[bs.length + j]? = some (bv ([161, 162, 163].getD j 0)) := by
    rw [h4, List.getElem?_map, List.getElem?_append_right (by omega)]
    have : bs.length + j - bs.length = j := by omega
    rw [this]
    match j, hj with
    | 0, _ => rfl
    | 1, _ => rfl
    | 2, _ => rfl
  rw [List.getElem?_take, if_pos (by omega)] at this
  simpa using this

/-- The first m cells of a row are bytes. -/
def AllU8 (cur : Array Value) (m : Nat) : Prop := ∀ j, j < m → ∃ b : Int, cur[j]? = some (.int .u8 b)

theorem AllU8.set {cur : Array Value} {m : Nat} (h : AllU8 cur m) (k : Nat) (b : Int) (hk : k < cur.size) : AllU8 (cur.setIfInBounds k (.int .u8 b)) m := by
  intro j hj
  by_cases q : k = j
  · subst q; exact ⟨b, by simp [hk]⟩
  · obtain ⟨b', hb'⟩ := h j hj
    exact ⟨b', by rw [Array.getElem?_setIfInBounds_ne q]; exact hb'⟩

theorem allU8_of {cur : Array Value} {bs : List UInt8} {m : Nat} (h4 : cur.toList.take m = bs.map bv) (hm : m ≤ cur.size) : AllU8 cur m := by
  intro j hj
  have hl : bs.length = m := by have := congrArg List.length h4; simp at this; omega
  have hb : bs[j]? = some bs[j] := List.getElem?_eq_getElem (by omega)
  have h : (cur.toList.take m)[j]? = some (bv bs[j]) := by rw [h4, List.getElem?_map, hb]; rfl
  rw [List.getElem?_take, if_pos hj] at h
  exact ⟨_, by simpa [bv] using h⟩

end Go.Proofs.YtgimecdmleofeaaDoor


