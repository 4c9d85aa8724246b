/- Blocks of cells; marks as blocks. -/
import Derived.Test.YtbhimedajfkioaaM0
import Derived.Deep.MidRow
namespace Go.Proofs.Ytbhimedajfkioaa
open Go.RowKit
set_option linter.unusedVariables false

/-- A block of cells. -/
def Row (w : World) (g : Nat) (cs : Array Value) (e : TypeId) : Prop := w.heap[g]? = some (.cells cs e (0, 0))
section
variable {w : World} {g : Nat} {cs : Array Value} {e : TypeId}
theorem Row.cell (h : Row w g cs e) (j : Nat) (u : Value) (hu : cs[j]? = some u) : w.cell? ⟨g, j, none⟩ = some u := by
  rw [cell_of_row w g j cs e (0, 0) h]; exact hu
theorem Row.lt (h : Row w g cs e) : g < w.heap.size := lt_of_obj h
theorem Row.drew (h : Row w g cs e) : Row w.drew g cs e := h
theorem Row.drewN (h : Row w g cs e) (n : Nat) : Row (w.drewN n) g cs e := h
theorem Row.alloc (h : Row w g cs e) (o : Obj) : Row (w.alloc o) g cs e := by
  unfold Row at *
  rw [Below.heap_alloc w o g (lt_of_obj h)]
  exact h
theorem Row.turn {S : Nat → Prop} {w' : World} (h : Row w g cs e) (t : Turn S w w') (hn : ¬ S g) : Row w' g cs e := t.obj h hn
theorem Row.new (w : World) (cs : Array Value) (e : TypeId) : Row (w.alloc (.cells cs e)) w.heap.size cs e := heap_alloc_new w _
theorem Row.newAt (w : World) (cs : Array Value) (e : TypeId) (g : Nat) (h : g = w.heap.size) : Row (w.alloc (.cells cs e)) g cs e := by subst h; exact Row.new w cs e
theorem Row.setSame (h : Row w g cs e) (ds : Array Value) : Row (w.setRow g ds) g ds e := setRow_heap w g cs ds e _ h
theorem Row.setOther (h : Row w g cs e) {k : Nat} (hk : k ≠ g) (ds : Array Value) : Row (w.setRow k ds) g cs e := by
  unfold Row at *
  rw [setRow_other w k g ds (fun q => hk q.symm)]
  exact h
end
theorem Turn.setRow {S : Nat → Prop} {a w : World} (h : Turn S a w) (g : Nat) (cs : Array Value) (hg : g < a.heap.size → S g) : Turn S a (w.setRow g cs) :=
  h.trans (S' := fun k => k = g) ⟨rfl, rfl, rfl, by simp [World.setRow], fun k _ hk => setRow_other w g k cs hk⟩ (fun i hi q => by subst q; exact hg hi)

section
variable {P : Program} {ops : Array Oper} {rest : List Oper} {o : Oper} {a : Act} {w : World} {Q : Exit → Act → World → Prop}
/-- A store over a whole block; of the world behind it only that. -/
theorem wpList_store_any (hgd : o.guard = none) (ty : TypeId) (x y : Operand) (ho : o.op = .store ty x y)
    (g : Nat) (cells : Array Value) (hx : a.eval x = .pointer (some ⟨g, 0, none⟩)) (hy : a.eval y = .agg cells)
    (t : TypeId) (old : Array Value) (hg : Row w g old t) (hi : (P.info? ty).map (·.size) = some cells.size)
    (hold : old.size = cells.size) (h1 : cells.all (·.oneCell') = true)
    (h : ∀ w', Row w' g cells t → Turn (fun k => k = g) w w' → wpList P ops Q rest (a.put o.dst undef) w') : wpList P ops Q (o :: rest) a w :=
  wpList_store_row hgd ty x y ho g cells hx hy t old hg hi hold h1 (h _ (hg.setSame cells) ((Turn.refl _ w).setRow g cells (fun _ => rfl)))
end
theorem results_cell_row_tmp {P : Program} {fn : Func} {p u : Tmp} {ty : TypeId} (h : fn.results = #[.cell p ty, .tmp u]) (tmps : Array Value) (w : World) (g : Nat) (t : TypeId) (cs : Array Value) (fr : Nat × Nat) (d : TypeDesc)
    (hp : tmps.getD p undef = .pointer (some ⟨g, 0, none⟩)) (hg : w.heap[g]? = some (.cells cs t fr))
    (hu : P.underlying ty = some d) (hd : (match d with | .struct _ | .array _ _ => true | _ => false) = true) (hi : (P.info? ty).map (·.size) = some cs.size) :
    (results fn tmps).run P w = .ok (.tuple #[.agg cs, tmps.getD u undef]) w := by
  rw [results_cell_tmp h]
  simp [hp, asAddr, run_loadVar_row w g t ty cs fr d hg hu hd hi]
section
variable {P : Program} {ops : Array Oper} {rest : List Oper} {op : Oper} {a : Act} {w : World} {Q : Exit → Act → World → Prop}
theorem wpList_want (hg : Region.wanted op (yielded ops a.tmps) = true) (h : ∀ K : Act → World → Prop, (∀ a w, wpList P ops Q rest a w → K a w) → op.wp P a w K Q) : wpList P ops Q (op :: rest) a w :=
  wpList_step fun K hK => by simp only [hg, if_true]; exact h K hK
/-- A load of many cells whose guard is on. -/
theorem wpList_load_midG (hgd : Region.wanted op (yielded ops a.tmps) = true) (ty : TypeId) (x : Operand) (ho : op.op = .load ty x)
    (b o : Nat) (hx : a.eval x = .pointer (some ⟨b, o, none⟩)) (cs : List Value) (d : TypeDesc) (hc : w.rangeAt b o cs)
    (hu : P.underlying ty = some d) (hd : d.isRow = true) (hi : (P.info? ty).map (·.size) = some cs.length)
    (h : wpList P ops Q rest (a.put op.dst (.agg cs.toArray)) w) : wpList P ops Q (op :: rest) a w :=
  wpList_want hgd fun _ hK => wp_load_mid ty x ho b o hx cs d hc hu hd hi (hK _ _ h)
end
def Z50 : Array Value := mkA mk0
theorem size50 (m : Mk) : (Try.prog.info? 50).map (·.size) = some (mkL m).length := by kernel_rfl
theorem size50A (m : Mk) : (Try.prog.info? 50).map (·.size) = some (mkL m).toArray.size := by kernel_rfl
theorem one50 (m : Mk) : (mkL m).toArray.all (·.oneCell') = true := by kernel_rfl
theorem z50 (m : Mk) : Z50.size = (mkL m).toArray.size := by kernel_rfl
/-- A mark of a list, as a range of cells. -/
theorem KsAt.range {w : World} {a : Option Addr} {cap : Nat} {l : List Mk} (h : KsAt w a cap l) (j : Nat) (m : Mk) (hj : l[j]? = some m) : ∃ b off, a = some ⟨b, off, none⟩ ∧ w.rangeAt b (off + j * 18) (mkL m) := by
  obtain ⟨b, off, e, c⟩ := h.cells j m hj
  exact ⟨b, off, e, fun i v hi => c i v hi⟩
end Go.Proofs.Ytbhimedajfkioaa
