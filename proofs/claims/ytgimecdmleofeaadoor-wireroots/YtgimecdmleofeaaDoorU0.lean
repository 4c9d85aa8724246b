/- A vote as plain data and as cells; blocks of cells; arrays of bytes held against each other. -/
import Derived.Test.YtgimecdmleofeaaDoorD8
import Derived.Test.YtgimecdmleofeaaDoorVx
import Derived.Test.YtgimecdmleofeaaDoorRows
import Derived.ChangeKeysEq
import Derived.Laws.Rows
import Derived.Laws.ResultCell
import Derived.Deep.MidRow
import Derived.Deep.RegionHeld3
import Derived.Lib.Bytealg
namespace Go.Proofs.YtgimecdmleofeaaDoor
open Go.RowKit
set_option linter.unusedVariables false

section
variable {w : World} {g : Nat} {cs : Array Value} {e : TypeId}
theorem Row.setSame (h : Row w g cs e) (ds : Array Value) : Row (w.setRow g ds) g ds e := setRow_heap w g cs ds e _ h
theorem Row.setOther (h : Row w g cs e) {k : Nat} (hk : k ≠ g) (ds : Array Value) : Row (w.setRow k ds) g cs e := by
  unfold Row at *
  rw [setRow_other w k g ds (fun q => hk q.symm)]
  exact h
end
/-- A vote. -/
structure Vt where
  k : Int
  h : Int
  r : Int
  id : List UInt8
  t : Int
  f : Int
  se : List UInt8

def Vt.ok (v : Vt) : Prop := v.id.length = 32 ∧ v.se.length = 16

/-- A vote's cells. -/
def Vt.cs (v : Vt) : List Value := .int .i64 v.k :: .int .u64 v.h :: .int .i64 v.r :: (v.id.map bv ++ .int .u64 v.t :: .int .u64 v.f :: v.se.map bv)
theorem Vt.len {v : Vt} (h : v.ok) : v.cs.length = 53 := by simp [Vt.cs, h.1, h.2]
theorem Vt.size {v : Vt} (h : v.ok) : v.cs.toArray.size = 53 := by simpa using v.len h
theorem Vt.one (v : Vt) : ∀ u ∈ v.cs, u.oneCell' = true := by
  intro u hu
  simp only [Vt.cs, List.mem_cons, List.mem_append, List.mem_map] at hu
  rcases hu with rfl | rfl | rfl | ⟨b, _, rfl⟩ | rfl | rfl | ⟨b, _, rfl⟩ <;> rfl
theorem Vt.c0 (v : Vt) : v.cs.toArray[(0 : Nat)]? = some (.int .i64 v.k) := by simp [Vt.cs]
theorem Vt.c1 (v : Vt) : v.cs.toArray[(1 : Nat)]? = some (.int .u64 v.h) := by simp [Vt.cs]
theorem Vt.c2 (v : Vt) : v.cs.toArray[(2 : Nat)]? = some (.int .i64 v.r) := by simp [Vt.cs]
theorem Vt.c35 {v : Vt} (h : v.ok) : v.cs.toArray[(35 : Nat)]? = some (.int .u64 v.t) := by
  simp [Vt.cs, h.1]
theorem Vt.c36 {v : Vt} (h : v.ok) : v.cs.toArray[(36 : Nat)]? = some (.int .u64 v.f) := by
  simp [Vt.cs, List.getElem?_append, h.1]
theorem Vt.cid {v : Vt} (h : v.ok) (j : Nat) (u : Value) (hu : (v.id.map bv)[j]? = some u) : v.cs.toArray[3 + j]? = some u := by
  have hj : j < v.id.length := by have := (List.getElem?_eq_some_iff.1 hu).1; simpa using this
  rw [show 3 + j = j + 1 + 1 + 1 by omega]
  simp only [Vt.cs, List.getElem?_toArray, List.getElem?_cons_succ]
  rw [List.getElem?_append_left (by simpa using hj)]
  exact hu
theorem Vt.cse {v : Vt} (h : v.ok) (j : Nat) (u : Value) (hu : (v.se.map bv)[j]? = some u) : v.cs.toArray[37 + j]? = some u := by
  have h1 := h.1
  rw [show 37 + j = (34 + j) + 1 + 1 + 1 by omega]
  simp only [Vt.cs, List.getElem?_toArray, List.getElem?_cons_succ]
  rw [List.getElem?_append_right (by simp; omega)]
  rw [show 34 + j - (v.id.map bv).length = j + 1 + 1 by simp; omega]
  simp only [List.getElem?_cons_succ]
  exact hu
/-- What a block with a vote in it shows. -/
structure At (w : World) (g : Nat) (v : Vt) : Prop where
  c0 : w.cell? ⟨g, 0, none⟩ = some (.int .i64 v.k)
  c1 : w.cell? ⟨g, 1, none⟩ = some (.int .u64 v.h)
  c2 : w.cell? ⟨g, 2, none⟩ = some (.int .i64 v.r)
  c35 : w.cell? ⟨g, 35, none⟩ = some (.int .u64 v.t)
  c36 : w.cell? ⟨g, 36, none⟩ = some (.int .u64 v.f)
  cid : w.rangeAt g 3 (v.id.map bv)
theorem Row.vt {w : World} {g : Nat} {v : Vt} (r : Row w g v.cs.toArray 78) (h : v.ok) : At w g v :=
  ⟨r.cell 0 _ v.c0, r.cell 1 _ v.c1, r.cell 2 _ v.c2, r.cell 35 _ (Vt.c35 h), r.cell 36 _ (Vt.c36 h), fun j u hu => r.cell (3 + j) _ (Vt.cid h j u hu)⟩


theorem size24 : (Tryd.prog.info? 29).map (·.size) = some 32 := by kernel_rfl
theorem size29 : (Tryd.prog.info? 78).map (·.size) = some 53 := by kernel_rfl
theorem cells5 : Tryd.prog.cellsOf 5 = 1 := by kernel_rfl
theorem eqIn24 (w : World) (d : Nat) (X Y : List UInt8) (hx : X.length = 32) (hy : Y.length = 32) : (Op.equalIn (d + 2) 29 (.agg (X.map bv).toArray) (.agg (Y.map bv).toArray)).run Tryd.prog w = .ok (X == Y) w := by
  obtain ⟨i, hi⟩ : ∃ i, Tryd.prog.info? 5 = some i := by
    cases hq : Tryd.prog.info? 5 with
    | none => have := size5; simp [hq] at this
    | some i => exact ⟨i, rfl⟩
  rw [run_equalIn_array w (d + 1) _ _ Tryd.underlying29 hi, cells5, eqItems_u8 w d X Y _ (fun j hj => by simp at hj; omega), all_range X Y 32 hx hy]
theorem eqIn27 (w : World) (d : Nat) (X Y : List UInt8) (hx : X.length = 16) (hy : Y.length = 16) : (Op.equalIn (d + 2) 25 (.agg (X.map bv).toArray) (.agg (Y.map bv).toArray)).run Tryd.prog w = .ok (X == Y) w := by
  obtain ⟨i, hi⟩ : ∃ i, Tryd.prog.info? 5 = some i := by
    cases hq : Tryd.prog.info? 5 with
    | none => have := size5; simp [hq] at this
    | some i => exact ⟨i, rfl⟩
  rw [run_equalIn_array w (d + 1) _ _ Tryd.underlying25 hi, cells5, eqItems_u8 w d X Y _ (fun j hj => by simp at hj; omega), all_range X Y 16 hx hy]
theorem eql24 (w : World) (X Y : List UInt8) (hx : X.length = 32) (hy : Y.length = 32) : (binOp .eql 29 (.agg (X.map bv).toArray) (.agg (Y.map bv).toArray)).run Tryd.prog w = .ok (.bool (X == Y)) w := by
  rw [run_eql_struct, eqIn24 w 9998 X Y hx hy]
  rfl
theorem neq24 (w : World) (X Y : List UInt8) (hx : X.length = 32) (hy : Y.length = 32) : (binOp .neq 29 (.agg (X.map bv).toArray) (.agg (Y.map bv).toArray)).run Tryd.prog w = .ok (.bool (!(X == Y))) w := by
  rw [run_neq_struct, eqIn24 w 9998 X Y hx hy]
  rfl
section
variable {P : Program} {ops : Array Oper} {rest : List Oper} {op : Oper} {a : Act} {w : World} {Q : Exit → Act → World → Prop}
theorem wpList_want (hg : Region.wanted op (yielded ops a.tmps) = true) (h : ∀ K : Act → World → Prop, (∀ a w, wpList P ops Q rest a w → K a w) → op.wp P a w K Q) : wpList P ops Q (op :: rest) a w :=
  wpList_step fun K hK => by simp only [hg, if_true]; exact h K hK
/-- A load of many cells whose guard is on. -/
theorem wpList_load_midG (hgd : Region.wanted op (yielded ops a.tmps) = true) (ty : TypeId) (x : Operand) (ho : op.op = .load ty x)
    (b o : Nat) (hx : a.eval x = .pointer (some ⟨b, o, none⟩)) (cs : List Value) (d : TypeDesc) (hc : w.rangeAt b o cs)
    (hu : P.underlying ty = some d) (hd : d.isRow = true) (hi : (P.info? ty).map (·.size) = some cs.length)
    (h : wpList P ops Q rest (a.put op.dst (.agg cs.toArray)) w) : wpList P ops Q (op :: rest) a w :=
  wpList_want hgd fun _ hK => wp_load_mid ty x ho b o hx cs d hc hu hd hi (hK _ _ h)
end
end Go.Proofs.YtgimecdmleofeaaDoor

