/- Two votes built beside each other; laws on stores and results of many cells. -/
import Derived.Test.YtgbcdjjnpadddaaGreatDoorMVa
import Derived.Test.YtgbcdjjnpadddaaGreatDoorQT
import Derived.Laws.Tables
namespace Go.Proofs.YtgbcdjjnpadddaaGreatDoor
open Go.RowKit
set_option linter.unusedVariables false

theorem fill_two (Z A B : Array Value) (n : Nat) (hz : Z.size = n + n) (ha : A.size = n) (hb : B.size = n) (place : Nat → Option (Nat × Nat)) (h0 : place 0 = some (0, n)) (h1 : place 1 = some (n, n)) :
    Instr.fill place Z [(0, .agg A), (1, .agg B)] = some (A ++ B) := by
  have e : ∀ (off : Nat) (C Y : Array Value), (C.zipIdx.foldl (fun cs (x : Value × Nat) => cs.setIfInBounds (off + x.2) x.1) Y) = (C.toList.zipIdx 0).foldl (fun cs (x : Value × Nat) => cs.setIfInBounds (off + x.2) x.1) Y := fun off C Y => by
    rw [← Array.foldl_toList, Array.toList_zipIdx]
  simp only [Instr.fill, h0, h1, Value.cells, ha, hb]
  have s1 : ((A.toList.zipIdx 0).foldl (fun cs (x : Value × Nat) => cs.setIfInBounds (0 + x.2) x.1) Z).size = n + n := by rw [fold_size]; exact hz
  rw [if_neg (by simp; omega)]
  have e1 := e 0 A Z
  rw [e1, if_neg (by rw [s1]; simp)]
  congr 1
  rw [e n B]
  apply Array.ext_getElem?
  intro i
  rw [fold_get n B.toList 0 _ i (by rw [s1]; simp [hb]), fold_get 0 A.toList 0 _ i (by simp [ha, hz])]
  simp only [Array.length_toList, ha, hb, Nat.add_zero, Nat.zero_add, Nat.zero_le, true_and, Nat.sub_zero, Array.getElem?_append, Array.getElem?_toList]
  by_cases h2 : i < n
  · rw [if_neg (by omega), if_pos h2, if_pos h2]
  · rw [if_neg h2]
    by_cases h3 : i < n + n
    · rw [if_pos (by omega), if_neg h2]
    · rw [if_neg (by omega), if_neg h2]
      rw [Array.getElem?_eq_none (by omega), Array.getElem?_eq_none (by omega)]
theorem built40 (A B : Array Value) (ha : A.size = 53) (hb : B.size = 53) : Tryz.prog.built 120 [(0, .agg A), (1, .agg B)] = some (A ++ B) := by
  have hu : Tryz.prog.underlying 120 = some (.array 2 50) := Tryz.underlying120
  obtain ⟨it, hit, z, hz, hzs⟩ : ∃ it, Tryz.prog.info? 120 = some it ∧ ∃ z, it.zero = some z ∧ z.cells.size = 106 := by
    have h : ((Tryz.prog.info? 120).bind (·.zero)).map (fun z => z.cells.size) = some 106 := by kernel_rfl
    cases hq : Tryz.prog.info? 120 with
    | none => rw [hq] at h; cases h
    | some it =>
      rw [hq] at h
      cases hz : it.zero with
      | none => simp [hz] at h
      | some z => simp [hz] at h; exact ⟨it, rfl, z, hz, h⟩
  obtain ⟨ie, hie, hies⟩ : ∃ ie, Tryz.prog.info? 50 = some ie ∧ ie.size = 53 := by
    have h := qsize29
    cases hq : Tryz.prog.info? 50 with
    | none => rw [hq] at h; cases h
    | some ie => rw [hq] at h; simp at h; exact ⟨ie, rfl, h⟩
  unfold Program.built
  simp only [hit, hu, hz, hie]
  exact fill_two z.cells A B 53 hzs ha hb _ (by simp [hies]) (by simp [hies])
theorem built32 (A B : Array Value) (ha : A.size = 53) (hb : B.size = 53) : Tryz.prog.built 52 [(0, .agg A), (1, .agg B)] = some (A ++ B) := by
  obtain ⟨it, hit, z, hz, hzs⟩ : ∃ it, Tryz.prog.info? 52 = some it ∧ ∃ z, it.zero = some z ∧ z.cells.size = 106 := by
    have h : ((Tryz.prog.info? 52).bind (·.zero)).map (fun z => z.cells.size) = some 106 := by kernel_rfl
    cases hq : Tryz.prog.info? 52 with
    | none => rw [hq] at h; cases h
    | some it =>
      rw [hq] at h
      cases hz : it.zero with
      | none => simp [hz] at h
      | some z => simp [hz] at h; exact ⟨it, rfl, z, hz, h⟩
  obtain ⟨fs, hu, pl, hp, h0, h1⟩ : ∃ fs, Tryz.prog.underlying 52 = some (.struct fs) ∧ ∃ pl, fs.toList.mapM (fun f => (Tryz.prog.info? f.type).map fun i => (f.offset, i.size)) = some pl ∧ pl.toArray[0]? = some (0, 53) ∧ pl.toArray[1]? = some (53, 53) := by
    refine ⟨Tryz.prog.fieldsOf 52, by kernel_rfl, [(0, 53), (53, 53)], by kernel_rfl, rfl, rfl⟩
  unfold Program.built
  simp only [hit, hu, hz, hp]
  exact fill_two z.cells A B 53 hzs ha hb _ h0 h1
theorem index40 (A B : Array Value) (ha : A.size = 53) (hb : B.size = 53) (w : World) : (Instr.index 120 (.agg (A ++ B)) (.int .i64 0)).run Tryz.prog w = .ok (.agg A) w ∧ (Instr.index 120 (.agg (A ++ B)) (.int .i64 1)).run Tryz.prog w = .ok (.agg B) w := by
  obtain ⟨ie, hie, hies⟩ : ∃ ie, Tryz.prog.info? 50 = some ie ∧ ie.size = 53 := by
    have h := qsize29
    cases hq : Tryz.prog.info? 50 with
    | none => rw [hq] at h; cases h
    | some ie => rw [hq] at h; simp at h; exact ⟨ie, rfl, h⟩
  have hA0 : A.extract 0 53 = A := by rw [← ha]; simp
  have hB0 : B.extract 0 53 = B := by rw [← hb]; simp
  constructor
  · simp [Instr.index, asIntOf, run_underlying Tryz.underlying120, sizeOf, typeInfo, hie, hies, part, ha, hA0]
  · simp [Instr.index, asIntOf, run_underlying Tryz.underlying120, sizeOf, typeInfo, hie, hies, part, ha, hB0]

section
variable {P : Program} {ops : Array Oper} {rest : List Oper} {o : Oper} {a : Act} {w : World} {Q : Exit → Act → World → Prop}
/-- A store over a whole block; of the world behind it only that. -/
theorem wpList_store_any (hgd : o.guard = none) (ty : TypeId) (x y : Operand) (ho : o.op = .store ty x y)
    (g : Nat) (cells : Array Value) (hx : a.eval x = .pointer (some ⟨g, 0, none⟩)) (hy : a.eval y = .agg cells)
    (t : TypeId) (old : Array Value) (hg : Row w g old t) (hi : (P.info? ty).map (·.size) = some cells.size)
    (hold : old.size = cells.size) (h1 : cells.all (·.oneCell') = true)
    (h : ∀ w', Row w' g cells t → Turn (fun k => k = g) w w' → wpList P ops Q rest (a.put o.dst undef) w') : wpList P ops Q (o :: rest) a w :=
  wpList_store_row hgd ty x y ho g cells hx hy t old hg hi hold h1 (h _ (hg.setSame cells) ((Turn.refl _ w).setRow g cells (fun _ => rfl)))
end
theorem results_cell_row_tmpQ {P : Program} {fn : Func} {p u : Tmp} {ty : TypeId} (h : fn.results = #[.cell p ty, .tmp u]) (tmps : Array Value) (w : World) (g : Nat) (t : TypeId) (cs : Array Value) (fr : Nat × Nat) (d : TypeDesc)
    (hp : tmps.getD p undef = .pointer (some ⟨g, 0, none⟩)) (hg : w.heap[g]? = some (.cells cs t fr))
    (hu : P.underlying ty = some d) (hd : (match d with | .struct _ | .array _ _ => true | _ => false) = true) (hi : (P.info? ty).map (·.size) = some cs.size) :
    (results fn tmps).run P w = .ok (.tuple #[.agg cs, tmps.getD u undef]) w := by
  rw [results_cell_tmp h]
  simp [hp, asAddr, run_loadVar_row w g t ty cs fr d hg hu hd hi]
end Go.Proofs.YtgbcdjjnpadddaaGreatDoor


