/- Texts in one. -/
import Derived.Test.YtaoigopjfelgpaaGreatDoorDa
import Derived.Test.YtaoigopjfelgpaaGreatDoorBaseN
import Derived.Test.YtaoigopjfelgpaaGreatDoorJa
/- Rows that are written over: what stays of them. -/
namespace Go.Proofs.YtaoigopjfelgpaaGreatDoor
open Go.RowKit
set_option linter.unusedVariables false

/-- A list in a block of its own that may be written, whatever it holds. -/
def Wx (w : World) (e : TypeId) (sz : Nat) (v : Value) (n : Nat) : Prop := (v = .slice none 0 0 ∧ n = 0) ∨ ∃ g cap cur, v = .slice (some ⟨g, 0, none⟩) n cap ∧ w.heap[g]? = some (.cells cur e (0, 0)) ∧ n ≤ cap ∧ cap ≤ maxLen ∧ n * sz ≤ cur.size
/-- Each row of cells stays one of its type and length. -/
def Kp (w w' : World) : Prop := ∀ (g : Nat) (cur : Array Value) (e : TypeId), w.heap[g]? = some (.cells cur e (0, 0)) → ∃ cur' : Array Value, w'.heap[g]? = some (.cells cur' e (0, 0)) ∧ cur'.size = cur.size
section
variable {w w' w2 : World} {e : TypeId} {sz n : Nat} {v : Value}
theorem OwnN.wx {xs : List Value} (h : OwnN w e sz v n xs) : Wx w e sz v n := by
  rcases h.2 with ⟨rfl, rfl⟩ | ⟨g, cap, cur, rfl, _, hg, h1, h2, h3, _⟩
  · exact Or.inl ⟨rfl, rfl⟩
  · exact Or.inr ⟨g, cap, cur, rfl, hg, h1, h2, by rw [h3]; exact Nat.mul_le_mul_right _ h1⟩
theorem Wx.keep (h : Wx w e sz v n) (k : Kp w w') : Wx w' e sz v n := by
  rcases h with q | ⟨g, cap, cur, rfl, hg, h1, h2, h3⟩
  · exact Or.inl q
  · obtain ⟨cur', hg', hs⟩ := k g cur e hg
    exact Or.inr ⟨g, cap, cur', rfl, hg', h1, h2, by omega⟩
theorem Wx.form (h : Wx w e sz v n) : ∃ a cap, v = .slice a n cap ∧ n ≤ maxLen := by
  rcases h with ⟨rfl, rfl⟩ | ⟨g, cap, cur, rfl, _, h1, h2, _⟩
  · exact ⟨none, 0, rfl, by simp⟩
  · exact ⟨_, cap, rfl, by omega⟩
theorem Wx.at (h : Wx w e sz v n) (hn : 0 < n) : ∃ g cap, v = .slice (some ⟨g, 0, none⟩) n cap ∧ ∃ cur : Array Value, w.heap[g]? = some (.cells cur e (0, 0)) ∧ n * sz ≤ cur.size := by
  rcases h with ⟨rfl, rfl⟩ | ⟨g, cap, cur, rfl, hg, h1, h2, h3⟩
  · omega
  · exact ⟨g, cap, rfl, cur, hg, h3⟩
theorem Wx.cell {g cap : Nat} (h : Wx w e sz (.slice (some ⟨g, 0, none⟩) n cap) n) (i : Nat) (hi : i < n * sz) : ∃ u, w.cell? ⟨g, i, none⟩ = some u ∧ w.frozen? ⟨g, i, none⟩ = false := by
  rcases h with ⟨q, _⟩ | ⟨g', cap', cur, q, hg, h1, h2, h3⟩
  · cases q
  · cases q
    exact ⟨cur[i]'(by omega), by rw [cell_of_row w g i cur e (0, 0) hg]; exact Array.getElem?_eq_getElem _, frozen_of_row w g i _ e hg⟩
theorem Kp.refl (w : World) : Kp w w := fun g cur e h => ⟨cur, h, rfl⟩
theorem Kp.trans (h : Kp w w') (k : Kp w' w2) : Kp w w2 := fun g cur e q => by
  obtain ⟨c1, h1, s1⟩ := h g cur e q
  obtain ⟨c2, h2, s2⟩ := k g c1 e h1
  exact ⟨c2, h2, by omega⟩
theorem Kp.set {g : Nat} {cur : Array Value} (hg : w.heap[g]? = some (.cells cur e (0, 0))) (i : Nat) (u : Value) : Kp w (w.setCell ⟨g, i, none⟩ u) := fun k c e' h => by
  by_cases q : k = g
  · subst q
    rw [hg] at h
    cases h
    exact ⟨_, heap_setCell_same w k i _ e u hg, by simp⟩
  · exact ⟨c, by rw [heap_setCell_other w _ k u q]; exact h, rfl⟩
theorem Kp.row {g : Nat} {cur X : Array Value} (hg : w.heap[g]? = some (.cells cur e (0, 0))) (hs : X.size = cur.size) : Kp w (w.setRow g X) := fun k c e' h => by
  by_cases q : k = g
  · subst q
    rw [hg] at h
    cases h
    exact ⟨_, setRow_heap w k _ _ e _ hg, hs⟩
  · exact ⟨c, by rw [setRow_other w g k X q]; exact h, rfl⟩
end
end Go.Proofs.YtaoigopjfelgpaaGreatDoor

/- A witness that is written over. -/
namespace Go.Proofs.YtaoigopjfelgpaaGreatDoor
open Go.RowKit
set_option linter.unusedVariables false

/-- A witness' lists while they are written over: n accounts, n proofs, the digests A j of each, M j in number. -/
structure Ov (w : World) (n : Nat) (v1 v2 : Value) (A : Nat → Value) (M : Nat → Nat) : Prop where
  one : Wx w 50 5 v1 n
  two : (v2 = .slice none 0 0 ∧ n = 0) ∨ ∃ g cap cur, v2 = .slice (some ⟨g, 0, none⟩) n cap ∧ w.heap[g]? = some (.cells cur 53 (0, 0)) ∧ n ≤ cap ∧ cap ≤ maxLen ∧ n * 3 ≤ cur.size ∧ ∀ j, j < n → cur[j * 3 + 2]? = some (A j)
  aun : ∀ j, j < n → Wx w 40 32 (A j) (M j)
/-- Their blocks. -/
def Ob (n : Nat) (v1 v2 : Value) (A : Nat → Value) : Nat → Prop := fun g => v1.ownBlock = some g ∨ v2.ownBlock = some g ∨ ∃ j, j < n ∧ (A j).ownBlock = some g
section
variable {w w' : World} {n : Nat} {v1 v2 : Value} {A : Nat → Value} {M : Nat → Nat}
theorem Ov.keep (h : Ov w n v1 v2 A M) (k : Kp w w') (hk : ∀ (g : Nat) (cur : Array Value), w.heap[g]? = some (.cells cur 53 (0, 0)) → ∃ cur' : Array Value, w'.heap[g]? = some (.cells cur' 53 (0, 0)) ∧ cur'.size = cur.size ∧ ∀ j, cur'[j * 3 + 2]? = cur[j * 3 + 2]?) : Ov w' n v1 v2 A M := by
  refine ⟨h.one.keep k, ?_, fun j hj => (h.aun j hj).keep k⟩
  rcases h.two with q | ⟨g, cap, cur, rfl, hg, h1, h2, h3, h4⟩
  · exact Or.inl q
  · obtain ⟨cur', q1, q2, q3⟩ := hk g cur hg
    exact Or.inr ⟨g, cap, cur', rfl, q1, h1, h2, by omega, fun j hj => by rw [q3]; exact h4 j hj⟩
/-- An account's first cell is written. -/
theorem Ov.acc {g c : Nat} (h : Ov w n (.slice (some ⟨g, 0, none⟩) n c) v2 A M) (i : Nat) (u : Value) : Ov (w.setCell ⟨g, i, none⟩ u) n (.slice (some ⟨g, 0, none⟩) n c) v2 A M := by
  rcases h.one with ⟨q, _⟩ | ⟨g', cap', cur, q, hg, _⟩
  · cases q
  · cases q
    refine h.keep (Kp.set hg i u) (fun k c e => ⟨c, ?_, rfl, fun _ => rfl⟩)
    have : k ≠ g := fun q => by subst q; rw [hg] at e; cases e
    rw [heap_setCell_other w _ k u this]
    exact e
/-- A proof's place is written. -/
theorem Ov.idx {g c : Nat} (h : Ov w n v1 (.slice (some ⟨g, 0, none⟩) n c) A M) (i : Nat) (u : Value) : Ov (w.setCell ⟨g, i * 3 + 1, none⟩ u) n v1 (.slice (some ⟨g, 0, none⟩) n c) A M := by
  rcases h.two with ⟨q, _⟩ | ⟨g', cap', cur, q, hg, _⟩
  · cases q
  · cases q
    refine h.keep (Kp.set hg _ u) (fun k c e => ?_)
    by_cases q : k = g
    · subst q
      rw [hg] at e
      cases e
      refine ⟨_, heap_setCell_same w k _ _ 53 u hg, by simp, fun j => ?_⟩
      rw [Array.getElem?_setIfInBounds_ne (by omega)]
    · exact ⟨c, by rw [heap_setCell_other w _ k u q]; exact e, rfl, fun _ => rfl⟩
/-- A digest is written. -/
theorem Ov.dig (h : Ov w n v1 v2 A M) {j g c : Nat} (hj : j < n) (hA : A j = .slice (some ⟨g, 0, none⟩) (M j) c) (k : Nat) (hk : k < M j) (m : List UInt8) (hm : m.length = 32) :
    ∃ w', (Instr.storeAt 40 (.pointer (some ⟨g, k * 32, none⟩)) (.agg (hb32 m))).run Tryz.prog w = .ok () w' ∧ Ov w' n v1 v2 A M ∧ Turn (fun b => b = g) w w' := by
  rcases h.aun j hj with ⟨q, _⟩ | ⟨g', cap', cur, q, hg, h1, h2, h3⟩
  · rw [hA] at q; cases q
  · rw [hA] at q
    cases q
    have hml : (m.map bv).length = 32 := by simp [hm]
    have hst := run_storeCells_at Tryz.prog g (k * 32) 40 (m.map bv) 0 cur w hg (by rw [hml]; omega) (bv_one m)
    simp only [Nat.add_zero] at hst
    have hs : (Tryz.prog.info? 40).map (·.size) = some 32 := by kernel_rfl
    have hz : (cur.toList.take (k * 32) ++ m.map bv ++ cur.toList.drop (k * 32 + (m.map bv).length)).toArray.size = cur.size := by
      simp only [List.size_toArray, List.length_append, List.length_take, List.length_drop, Array.length_toList, hml]
      omega
    refine ⟨w.setRow g (cur.toList.take (k * 32) ++ m.map bv ++ cur.toList.drop (k * 32 + (m.map bv).length)).toArray, ?_, h.keep (Kp.row hg hz) (fun k c e => ⟨c, ?_, rfl, fun _ => rfl⟩), (Turn.refl _ w).setRow g _ (fun _ => rfl)⟩
    · cases hq : Tryz.prog.info? 40 with
      | none => simp [hq] at hs
      | some i =>
        have hi : 32 = i.size := by simp [hq] at hs; omega
        have hsz : (hb32 m).size = i.size := by rw [← hi]; exact hb32_size hm
        have hto : (hb32 m).toList = m.map bv := by simp [hb32]
        simp [Instr.storeAt, Instr.sureAddr, storeVar, sizeOf, typeInfo, hq, Value.cells, hsz, hto, hst]
    · have : k ≠ g := fun q => by subst q; rw [hg] at e; cases e
      rw [setRow_other w g k _ this]
      exact e
/-- The j-th proof's digests, as they are loaded. -/
theorem Ov.at2 (h : Ov w n v1 v2 A M) {j : Nat} (hj : j < n) : ∃ g c, v2 = .slice (some ⟨g, 0, none⟩) n c ∧ w.cell? ⟨g, j * 3 + 2, none⟩ = some (A j) ∧ (∃ u, w.cell? ⟨g, j * 3 + 1, none⟩ = some u) ∧ w.frozen? ⟨g, j * 3 + 1, none⟩ = false := by
  rcases h.two with ⟨q, h0⟩ | ⟨g, cap, cur, rfl, hg, h1, h2, h3, h4⟩
  · omega
  · exact ⟨g, cap, rfl, by rw [cell_of_row w g _ cur 53 (0, 0) hg]; exact h4 j hj, ⟨cur[j * 3 + 1]'(by omega), by rw [cell_of_row w g _ cur 53 (0, 0) hg]; exact Array.getElem?_eq_getElem _⟩, frozen_of_row w g _ _ 53 hg⟩
theorem Ov.at1 (h : Ov w n v1 v2 A M) {j : Nat} (hj : j < n) : ∃ g c, v1 = .slice (some ⟨g, 0, none⟩) n c ∧ (∃ u, w.cell? ⟨g, j * 5, none⟩ = some u) ∧ w.frozen? ⟨g, j * 5, none⟩ = false := by
  obtain ⟨g, c, e, _⟩ := h.one.at (by omega)
  have h1 := h.one
  rw [e] at h1
  obtain ⟨u, q1, q2⟩ := h1.cell (j * 5) (by omega)
  exact ⟨g, c, e, ⟨u, q1⟩, q2⟩
end
end Go.Proofs.YtaoigopjfelgpaaGreatDoor
