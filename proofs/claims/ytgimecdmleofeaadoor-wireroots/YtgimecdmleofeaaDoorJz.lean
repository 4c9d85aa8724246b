/- Arrays of 32 bytes. -/
import Derived.Test.YtgimecdmleofeaaDoorD8
import Derived.Test.YtgimecdmleofeaaDoorU0
import Derived.Laws.ResultCell
namespace Go.Proofs.YtgimecdmleofeaaDoor
open Go.RowKit
set_option linter.unusedVariables false

def hb32 (X : List UInt8) : Array Value := (X.map bv).toArray
theorem shut {p : Prop} (h : p) : Shut p := ⟨h⟩
theorem Row.rangeZ {w : World} {g : Nat} {l : List Value} {e : TypeId} (h : Row w g l.toArray e) : w.rangeAt g 0 l := fun j v hv => by rw [Nat.zero_add]; exact h.cell j v (by simpa using hv)
theorem hb32_size {X : List UInt8} (h : X.length = 32) : (hb32 X).size = 32 := by simpa [hb32] using h
theorem hb32_one (X : List UInt8) : (hb32 X).all (·.oneCell') = true := by simp [hb32, bv, Value.oneCell']
theorem hb32_info {X : List UInt8} (h : X.length = 32) : (Tryd.prog.info? 29).map (·.size) = some (hb32 X).size := by rw [hb32_size h]; exact size35

section
variable {P : Program} {ops : Array Oper} {rest : List Oper} {o : Oper} {a : Act} {w : World} {Q : Exit → Act → World → Prop}
/-- A store over a whole block; of the world behind it only that. -/
theorem wpList_store_anyN (hgd : o.guard = none) (hd : o.dst = none) (ty : TypeId) (x y : Operand) (ho : o.op = .store ty x y)
    (g : Nat) (cells : Array Value) (hx : a.eval x = .pointer (some ⟨g, 0, none⟩)) (hy : a.eval y = .agg cells)
    (t : TypeId) (old : Array Value) (hg : Row w g old t) (hi : (P.info? ty).map (·.size) = some cells.size)
    (hold : old.size = cells.size) (h1 : cells.all (·.oneCell') = true)
    (h : ∀ w', Row w' g cells t → Turn (fun k => k = g) w w' → wpList P ops Q rest a w') : wpList P ops Q (o :: rest) a w :=
  wpList_store_row hgd ty x y ho g cells hx hy t old hg hi hold h1 (by rw [hd]; exact h _ (setRow_heap w g old cells t _ hg) ((Turn.refl _ w).setRow g cells (fun _ => rfl)))
end

def z32 : List UInt8 := List.replicate 32 0
theorem z32_len : z32.length = 32 := rfl
theorem results_cell_row_tmp {P : Program} {fn : Func} {p u : Tmp} {ty : TypeId} (h : fn.results = #[.cell p ty, .tmp u]) (tmps : Array Value) (w : World) (g : Nat) (t : TypeId) (cs : Array Value) (fr : Nat × Nat) (d : TypeDesc)
    (hp : tmps.getD p undef = .pointer (some ⟨g, 0, none⟩)) (hg : w.heap[g]? = some (.cells cs t fr))
    (hu : P.underlying ty = some d) (hd : (match d with | .struct _ | .array _ _ => true | _ => false) = true) (hi : (P.info? ty).map (·.size) = some cs.size) :
    (results fn tmps).run P w = .ok (.tuple #[.agg cs, tmps.getD u undef]) w := by
  rw [results_cell_tmp h]
  simp [hp, asAddr, run_loadVar_row w g t ty cs fr d hg hu hd hi]
theorem bld35 (w : World) : (Instr.build 29 #[]).run Tryd.prog w = .ok (.agg (hb32 z32)) w := by kernel_rfl
theorem zero35v (w : World) : (zeroValue 29).run Tryd.prog w = .ok (.agg (hb32 z32)) w := by kernel_rfl
section
variable {P : Program} {ops : Array Oper} {rest : List Oper} {op : Oper} {a : Act} {w : World} {Q : Exit → Act → World → Prop}
theorem wpList_buildG (hgd : Region.wanted op (yielded ops a.tmps) = true) (t : TypeId) (ho : op.op = .build t #[]) (r : Value) (hr : (Instr.build t #[]).run P w = .ok r w) (h : wpList P ops Q rest (a.put op.dst r) w) : wpList P ops Q (op :: rest) a w :=
  wpList_want hgd fun K hK => by
    unfold Oper.wp execOp
    simp only [ho, Sem.run_bind, List.map_toArray, List.map_nil, hr, Result.andThen_ok, Sem.run_pure]
    exact hK _ _ h
end
end Go.Proofs.YtgimecdmleofeaaDoor
