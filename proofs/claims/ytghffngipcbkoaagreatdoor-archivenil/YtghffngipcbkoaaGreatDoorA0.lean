/- Blocks of cells. -/
import Derived.Test.YtghffngipcbkoaaGreatDoorBase
import Derived.Test.YtghffngipcbkoaaGreatDoorRows
import Derived.ChangeKeysEq
import Derived.Laws.Rows
import Derived.Laws.ResultCell
import Derived.Deep.MidRow
import Derived.Deep.RegionHeld3
import Derived.Lib.Bytealg
namespace Go.Proofs.YtghffngipcbkoaaGreatDoor
open Go.RowKit
set_option linter.unusedVariables false

theorem shut {p : Prop} (h : p) : Shut p := h
/-- A block of cells. -/
def Row (w : World) (g : Nat) (cs : Array Value) (e : TypeId) : Prop := w.heap[g]? = some (.cells cs e (0, 0))
section
variable {w : World} {g : Nat} {cs : Array Value} {e : TypeId}
theorem Row.cell (h : Row w g cs e) (j : Nat) (u : Value) (hu : cs[j]? = some u) : w.cell? ⟨g, j, none⟩ = some u := by
  rw [cell_of_row w g j cs e (0, 0) h]; exact hu
theorem Row.lt (h : Row w g cs e) : g < w.heap.size := lt_of_obj h
theorem Row.alloc (h : Row w g cs e) (o : Obj) : Row (w.alloc o) g cs e := by
  unfold Row at *
  rw [Below.heap_alloc w o g (lt_of_obj h)]
  exact h
theorem Row.turn {S : Nat → Prop} {w' : World} (h : Row w g cs e) (t : Turn S w w') (hn : ¬ S g) : Row w' g cs e := t.obj h hn
theorem Row.new (w : World) (cs : Array Value) (e : TypeId) : Row (w.alloc (.cells cs e)) w.heap.size cs e := heap_alloc_new w _
theorem Row.newAt (w : World) (cs : Array Value) (e : TypeId) (g : Nat) (h : g = w.heap.size) : Row (w.alloc (.cells cs e)) g cs e := by subst h; exact Row.new w cs e
theorem Row.setSame (h : Row w g cs e) (ds : Array Value) : Row (w.setRow g ds) g ds e := setRow_heap w g cs ds e _ h
theorem Row.range (h : Row w g cs e) : w.rangeAt g 0 cs.toList := fun j x hx => h.cell (0 + j) _ (by rw [Nat.zero_add]; simpa using hx)
end
theorem Turn.setRow {S : Nat → Prop} {a w : World} (h : Turn S a w) (g : Nat) (cs : Array Value) (hg : g < a.heap.size → S g) : Turn S a (w.setRow g cs) :=
  h.trans (S' := fun k => k = g) ⟨rfl, rfl, rfl, by simp [World.setRow], fun k _ hk => setRow_other w g k cs hk⟩ (fun i hi q => by subst q; exact hg hi)
section
variable {P : Program} {ops : Array Oper} {rest : List Oper} {o : Oper} {a : Act} {w : World} {Q : Exit → Act → World → Prop}
theorem wpList_store_anyN (hgd : o.guard = none) (hd : o.dst = none) (ty : TypeId) (x y : Operand) (ho : o.op = .store ty x y)
    (g : Nat) (cells : Array Value) (hx : a.eval x = .pointer (some ⟨g, 0, none⟩)) (hy : a.eval y = .agg cells)
    (t : TypeId) (old : Array Value) (hg : Row w g old t) (hi : (P.info? ty).map (·.size) = some cells.size)
    (hold : old.size = cells.size) (h1 : cells.all (·.oneCell') = true)
    (h : ∀ w', Row w' g cells t → Turn (fun k => k = g) w w' → wpList P ops Q rest a w') : wpList P ops Q (o :: rest) a w :=
  wpList_store_row hgd ty x y ho g cells hx hy t old hg hi hold h1 (by rw [hd]; exact h _ (hg.setSame cells) ((Turn.refl _ w).setRow g cells (fun _ => rfl)))
theorem wpList_want (hg : Region.wanted o (yielded ops a.tmps) = true) (h : ∀ K : Act → World → Prop, (∀ a w, wpList P ops Q rest a w → K a w) → o.wp P a w K Q) : wpList P ops Q (o :: rest) a w :=
  wpList_step fun K hK => by simp only [hg, if_true]; exact h K hK
/-- A load of many cells whose guard is on. -/
theorem wpList_load_midG (hgd : Region.wanted o (yielded ops a.tmps) = true) (ty : TypeId) (x : Operand) (ho : o.op = .load ty x)
    (b off : Nat) (hx : a.eval x = .pointer (some ⟨b, off, none⟩)) (cs : List Value) (d : TypeDesc) (hc : w.rangeAt b off cs)
    (hu : P.underlying ty = some d) (hd : d.isRow = true) (hi : (P.info? ty).map (·.size) = some cs.length)
    (h : wpList P ops Q rest (a.put o.dst (.agg cs.toArray)) w) : wpList P ops Q (o :: rest) a w :=
  wpList_want hgd fun _ hK => wp_load_mid ty x ho b off hx cs d hc hu hd hi (hK _ _ h)
theorem wpList_load_rowG (hgd : Region.wanted o (yielded ops a.tmps) = true) (ty : TypeId) (x : Operand) (ho : o.op = .load ty x)
    (b : Nat) (hx : a.eval x = .pointer (some ⟨b, 0, none⟩)) (cs : Array Value) (e : TypeId) (d : TypeDesc) (hc : Row w b cs e)
    (hu : P.underlying ty = some d) (hd : d.isRow = true) (hi : (P.info? ty).map (·.size) = some cs.size)
    (h : wpList P ops Q rest (a.put o.dst (.agg cs)) w) : wpList P ops Q (o :: rest) a w :=
  wpList_load_midG hgd ty x ho b 0 hx cs.toList d hc.range hu hd (by rw [hi]; simp) (by rw [Array.toArray_toList]; exact h)
theorem wpList_build_none (hg : o.guard = none) (t : TypeId) (ho : o.op = .build t #[]) (cells : Array Value) (hf : P.built t [] = some cells) (h : wpList P ops Q rest (a.put o.dst (.agg cells)) w) : wpList P ops Q (o :: rest) a w := by
  have e : ((#[] : Array (Nat × Operand)).map fun (i, x) => (i, a.eval x)).toList = [] := by simp
  exact wpList_build hg t _ ho (by rw [e, hf]; rfl) (by rw [e, hf]; exact h)
end
/-- An archive that no call made. -/
def NoA (w : World) (v : Value) : Prop := v = .pointer none ∨ ∃ p, v = .pointer (some ⟨p, 0, none⟩) ∧ w.cell? ⟨p, 0, none⟩ = some (.pointer none)
theorem NoA.turn {w w' : World} {v : Value} (h : NoA w v) (t : Turn no w w') : NoA w' v := by
  rcases h with h | ⟨p, e, c⟩
  · exact .inl h
  · exact .inr ⟨p, e, t.keep c (fun q => q)⟩
theorem eql48_nil (a : Addr) (w : World) : (binOp .eql 48 (.pointer none) (.pointer (some a))).run Tryz.prog w = .ok (.bool false) w := by
  have h : ∀ d : Nat, (Op.equalIn (d + 1) 48 (.pointer none) (.pointer (some a))).run Tryz.prog w = .ok false w := fun d => by
    simp [Op.equalIn, run_underlying Tryz.underlying48]
  simp only [binOp]
  simp [Op.equal, Op.maxDepth, h 9999]
theorem eql52_nil (a : Addr) (w : World) : (binOp .eql 52 (.pointer none) (.pointer (some a))).run Tryz.prog w = .ok (.bool false) w := by
  have h : ∀ d : Nat, (Op.equalIn (d + 1) 52 (.pointer none) (.pointer (some a))).run Tryz.prog w = .ok false w := fun d => by
    simp [Op.equalIn, run_underlying Tryz.underlying52]
  simp only [binOp]
  simp [Op.equal, Op.maxDepth, h 9999]
set_option maxRecDepth 100000 in
theorem made38 (w : World) (v : Value) (h : NoA w v) : Calls Tryz.prog 17 #[v] w fun e w' => e = .returned (.bool false) ∧ w' = w := by
  rcases h with rfl | ⟨p, rfl, c⟩
  · go_enter Tryz.func17, Tryz.ntmps17
    go_wp2_with fail
    go_ret
    exact ⟨rfl, rfl⟩
  · have e1 := fun a w => eql48_nil a w
    go_enter Tryz.func17, Tryz.ntmps17
    go_wp2_with fail
    go_ret
    exact ⟨rfl, rfl⟩
set_option maxRecDepth 100000 in
theorem dmade65 (w : World) (v : Value) (h : NoA w v) : Calls Tryz.prog 60 #[v] w fun e w' => e = .returned (.bool false) ∧ w' = w := by
  rcases h with rfl | ⟨p, rfl, c⟩
  · go_enter Tryz.func60, Tryz.ntmps60
    go_wp2_with fail
    go_ret
    exact ⟨rfl, rfl⟩
  · have e1 := fun a w => eql52_nil a w
    go_enter Tryz.func60, Tryz.ntmps60
    go_wp2_with fail
    go_ret
    exact ⟨rfl, rfl⟩
set_option maxRecDepth 100000 in
theorem num9 (w : World) (e : Int) : Calls Tryz.prog 5 #[.int .i64 e] w fun x w' => x = .returned (.int .i64 e) ∧ w' = w := by
  go_enter Tryz.func5, Tryz.ntmps5
  go_wp2_with fail
  go_ret
  exact ⟨rfl, rfl⟩
set_option maxRecDepth 100000 in
theorem head12 (w : World) (v : Value) (h : NoA w v) : Calls Tryz.prog 8 #[v] w fun e w' => e = .returned (.int .u64 0) ∧ w' = w := by
  have c := made38 w v h
  go_enter Tryz.func8, Tryz.ntmps8
  go_wp2_with (go_at_call 17; refine c.mono ?_; rintro e w1 ⟨rfl, rfl⟩)
  go_ret
  exact ⟨rfl, rfl⟩
set_option maxRecDepth 100000 in
theorem change44 (w : World) (v f : Value) (h : NoA w v) : Calls Tryz.prog 23 #[v, f] w fun e w' => e = .returned (.int .i64 1) ∧ w' = w := by
  have c := made38 w v h
  go_enter Tryz.func23, Tryz.ntmps23
  go_wp2_with (go_at_call 17; refine c.mono ?_; rintro e w1 ⟨rfl, rfl⟩)
  go_ret
  exact ⟨rfl, rfl⟩
set_option maxRecDepth 100000 in
theorem ready59 (w : World) (v : Value) (s : ByteArray) (h : NoA w v) : Calls Tryz.prog 57 #[v, .string s] w fun e w' => e = .returned (.int .i64 1) ∧ w' = w := by
  have c := dmade65 w v h
  go_enter Tryz.func57, Tryz.ntmps57
  go_wp2_with (go_at_call 60; refine c.mono ?_; rintro e w1 ⟨rfl, rfl⟩)
  go_ret
  exact ⟨rfl, rfl⟩
set_option maxRecDepth 100000 in
theorem from17 (w : World) (a : Option Addr) (h : Int) : Calls Tryz.prog 13 #[.pointer a, .int .u64 h] w fun e w' => e = .returned (.func (.func 32) #[] #[.pointer (some ⟨w.heap.size + 1, 0, none⟩), .pointer (some ⟨w.heap.size, 0, none⟩)]) ∧ w' = (w.alloc (.cells #[.pointer a] 48)).alloc (.cells #[.int .u64 h] 22) := by
  go_enter Tryz.func13, Tryz.ntmps13
  go_wp2_with fail
  go_ret
  exact ⟨rfl, rfl⟩
end Go.Proofs.YtghffngipcbkoaaGreatDoor
