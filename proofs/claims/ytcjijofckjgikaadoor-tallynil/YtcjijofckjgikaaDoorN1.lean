/- Tallies that New did not make. -/
import Derived.Test.YtcjijofckjgikaaDoorV0
import Derived.Deep.CutRange
namespace Go.Proofs.YtcjijofckjgikaaDoor
open Go.RowKit
set_option linter.unusedVariables false
section
variable {P : Program} {ops : Array Oper} {rest : List Oper} {o : Oper} {a : Act} {w : World} {Q : Exit → Act → World → Prop}
theorem Row.range {w : World} {g : Nat} {cs : Array Value} {e : TypeId} (h : Row w g cs e) : w.rangeAt g 0 cs.toList := fun j x hx => h.cell (0 + j) _ (by rw [Nat.zero_add]; simpa using hx)
theorem wpList_store_anyN (hgd : o.guard = none) (hd : o.dst = none) (ty : TypeId) (x y : Operand) (ho : o.op = .store ty x y)
    (g : Nat) (cells : Array Value) (hx : a.eval x = .pointer (some ⟨g, 0, none⟩)) (hy : a.eval y = .agg cells)
    (t : TypeId) (old : Array Value) (hg : Row w g old t) (hi : (P.info? ty).map (·.size) = some cells.size)
    (hold : old.size = cells.size) (h1 : cells.all (·.oneCell') = true)
    (h : ∀ w', Row w' g cells t → Turn (fun k => k = g) w w' → wpList P ops Q rest a w') : wpList P ops Q (o :: rest) a w :=
  wpList_store_row hgd ty x y ho g cells hx hy t old hg hi hold h1 (by rw [hd]; exact h _ (hg.setSame cells) ((Turn.refl _ w).setRow g cells (fun _ => rfl)))
theorem wpList_load_rowG (hgd : Region.wanted o (yielded ops a.tmps) = true) (ty : TypeId) (x : Operand) (ho : o.op = .load ty x)
    (b : Nat) (hx : a.eval x = .pointer (some ⟨b, 0, none⟩)) (cs : Array Value) (e : TypeId) (d : TypeDesc) (hc : Row w b cs e)
    (hu : P.underlying ty = some d) (hd : d.isRow = true) (hi : (P.info? ty).map (·.size) = some cs.size)
    (h : wpList P ops Q rest (a.put o.dst (.agg cs)) w) : wpList P ops Q (o :: rest) a w :=
  wpList_load_midG hgd ty x ho b 0 hx cs.toList d hc.range hu hd (by rw [hi]; simp) (by rw [Array.toArray_toList]; exact h)
theorem wpList_build_none (hg : o.guard = none) (t : TypeId) (ho : o.op = .build t #[]) (cells : Array Value) (hf : P.built t [] = some cells) (h : wpList P ops Q rest (a.put o.dst (.agg cells)) w) : wpList P ops Q (o :: rest) a w := by
  have e : ((#[] : Array (Nat × Operand)).map fun (i, x) => (i, a.eval x)).toList = [] := by simp
  exact wpList_build hg t _ ho (by rw [e, hf]; rfl) (by rw [e, hf]; exact h)
end
theorem results_row {P : Program} {fn : Func} {p u : Tmp} {ty : TypeId} (h : fn.results = #[.cell p ty, .tmp u]) (tmps : Array Value) (w : World) (g : Nat) (t : TypeId) (cs : Array Value) (d : TypeDesc)
    (hp : tmps.getD p undef = .pointer (some ⟨g, 0, none⟩)) (hg : Row w g cs t)
    (hu : P.underlying ty = some d) (hd : (match d with | .struct _ | .array _ _ => true | _ => false) = true) (hi : (P.info? ty).map (·.size) = some cs.size) :
    (results fn tmps).run P w = .ok (.tuple #[.agg cs, tmps.getD u undef]) w := by
  rw [results_cell_tmp h]
  simp [hp, asAddr, run_loadVar_row w g t ty cs (0, 0) d hg hu hd hi]
theorem eql31_nil (a : Addr) (w : World) : (binOp .eql 31 (.pointer none) (.pointer (some a))).run Tryd.prog w = .ok (.bool false) w := by
  have h : ∀ d : Nat, (Op.equalIn (d + 1) 31 (.pointer none) (.pointer (some a))).run Tryd.prog w = .ok false w := fun d => by
    simp [Op.equalIn, run_underlying Tryd.underlying31]
  simp only [binOp]
  simp [Op.equal, Op.maxDepth, h 9999]
/-- A tally that New did not make: nil, or its first cell is. -/
def No (w : World) (v : Value) : Prop := v = .pointer none ∨ ∃ p, v = .pointer (some ⟨p, 0, none⟩) ∧ w.cell? ⟨p, 0, none⟩ = some (.pointer none)
theorem No.form {w : World} {v : Value} (h : No w v) : ∃ a, v = .pointer a := by
  rcases h with rfl | ⟨p, rfl, _⟩
  · exact ⟨none, rfl⟩
  · exact ⟨_, rfl⟩
theorem No.turn {w w' : World} {v : Value} (h : No w v) (t : Turn no w w') : No w' v := by
  rcases h with rfl | ⟨p, rfl, h⟩
  · exact Or.inl rfl
  · exact Or.inr ⟨p, rfl, t.keep h (fun q => q)⟩
theorem made18_no (w : World) (v : Value) (h : No w v) : Calls Tryd.prog 18 #[v] w fun e w' => e = .returned (.bool false) ∧ w' = w := by
  have e1 := fun a w => eql31_nil a w
  rcases h with rfl | ⟨p, rfl, h⟩
  · go_enter Tryd.func18, Tryd.ntmps18
    go_wp2_with fail
    go_ret
    exact ⟨rfl, rfl⟩
  · go_enter Tryd.func18, Tryd.ntmps18
    go_wp2_with fail
    go_ret
    exact ⟨rfl, rfl⟩
set_option maxRecDepth 100000 in
theorem num10 (w : World) (e : Int) : Calls Tryd.prog 10 #[.int .i64 e] w fun x w' => x = .returned (.int .i64 e) ∧ w' = w := by
  go_enter Tryd.func10, Tryd.ntmps10
  go_wp2_with fail
  go_ret
  exact ⟨rfl, rfl⟩
set_option maxRecDepth 100000 in
theorem round12_no (w : World) (v : Value) (h : No w v) : Calls Tryd.prog 12 #[v] w fun e w' => e = .returned (.int .i64 0) ∧ w' = w := by
  have c := made18_no w v h
  go_enter Tryd.func12, Tryd.ntmps12
  go_wp2_with (go_at_call 18; refine c.mono ?_; rintro e w1 ⟨rfl, rfl⟩)
  go_ret
  exact ⟨rfl, rfl⟩
set_option maxRecDepth 100000 in
theorem held16_no (w : World) (v : Value) (h : No w v) : Calls Tryd.prog 16 #[v] w fun e w' => e = .returned (.slice none 0 0) ∧ w' = w := by
  have c := made18_no w v h
  go_enter Tryd.func16, Tryd.ntmps16
  go_wp2_with (go_at_call 18; refine c.mono ?_; rintro e w1 ⟨rfl, rfl⟩)
  go_ret
  exact ⟨rfl, rfl⟩
set_option maxRecDepth 100000 in
theorem skip9_no (w : World) (v : Value) (h : No w v) : Calls Tryd.prog 9 #[v] w fun e w' => e = .returned (.tuple #[.int .i64 0, .bool false]) ∧ w' = w := by
  have c := made18_no w v h
  go_enter Tryd.func9, Tryd.ntmps9
  go_wp2_with (go_at_call 18; refine c.mono ?_; rintro e w1 ⟨rfl, rfl⟩)
  exact ⟨rfl, _, results_tmp2 rfl _ _ _, rfl, rfl⟩
set_option maxRecDepth 100000 in
theorem enter6_no (w : World) (v : Value) (r : Int) (h : No w v) : Calls Tryd.prog 6 #[v, .int .i64 r] w fun e w' => e = .returned (.tuple #[.slice none 0 0, .int .i64 1]) ∧ Turn no w w' := by
  obtain ⟨a, rfl⟩ := h.form
  obtain ⟨w0, hw0⟩ : ∃ w0, w.alloc (.cells #[.pointer a] 31) = w0 := ⟨_, rfl⟩
  have T0 : Turn no w w0 := by rw [← hw0]; exact (Turn.refl no w).alloc _
  have B0 : Row w0 w.heap.size #[.pointer a] 31 := by rw [← hw0]; exact Row.new w _ 31
  have x0 := B0.cell 0 _ rfl
  have c := made18_no w0 _ (h.turn T0)
  have HT0 := shut T0
  clear T0 B0 h
  go_enter Tryd.func6, Tryd.ntmps6
  go_upto_region 1 with fail
  try rw [hw0]
  clear hw0
  go_wp2_with (go_at_call 18; refine c.mono ?_; rintro e w1 ⟨rfl, rfl⟩)
  exact ⟨rfl, _, results_tmp2 rfl _ _ _, rfl, HT0.out⟩
set_option maxRecDepth 100000 in
theorem count27_no (w : World) (v : Value) (g : Fn) (xs ys : Array Value) (k r : Int) (h : No w v) : Calls Tryd.prog 27 #[v, .int .i64 k, .int .i64 r, .func g xs ys] w fun e w' => e = .returned (.tuple #[.slice none 0 0, .int .u64 0]) ∧ Turn no w w' := by
  obtain ⟨a, rfl⟩ := h.form
  obtain ⟨w0, hw0⟩ : ∃ w0, (((w.alloc (.cells #[.pointer a] 31)).alloc (.cells #[.int .i64 k] 3)).alloc (.cells #[.int .i64 r] 3)).alloc (.cells #[.func g xs ys] 81) = w0 := ⟨_, rfl⟩
  have T0 : Turn no w w0 := by rw [← hw0]; exact ((((Turn.refl no w).alloc _).alloc _).alloc _).alloc _
  have B0 : Row w0 w.heap.size #[.pointer a] 31 := by rw [← hw0]; exact (((Row.new w _ 31).alloc _).alloc _).alloc _
  have x0 := B0.cell 0 _ rfl
  have c := made18_no w0 _ (h.turn T0)
  have HT0 := shut T0
  clear T0 B0 h
  go_enter Tryd.func27, Tryd.ntmps27
  go_upto_region 1 with fail
  try rw [hw0]
  clear hw0
  go_wp2_with (go_at_call 18; refine c.mono ?_; rintro e w1 ⟨rfl, rfl⟩)
  exact ⟨rfl, _, results_tmp2 rfl _ _ _, rfl, HT0.out⟩
set_option maxRecDepth 100000 in
theorem power13_no (w : World) (v : Value) (k r : Int) (I : Array Value) (h : No w v) : Calls Tryd.prog 13 #[v, .int .i64 k, .int .i64 r, .agg I] w fun e w' => e = .returned (.int .u64 0) ∧ Turn no w w' := by
  obtain ⟨a, rfl⟩ := h.form
  obtain ⟨w0, hw0⟩ : ∃ w0, w.alloc (.cells I 24) = w0 := ⟨_, rfl⟩
  have T0 : Turn no w w0 := by rw [← hw0]; exact (Turn.refl no w).alloc _
  have c := fun g xs ys => count27_no w0 _ g xs ys k r (h.turn T0)
  have HT0 := shut T0
  clear T0 h
  go_enter Tryd.func13, Tryd.ntmps13
  go_upto_region 1 with fail
  try rw [hw0]
  clear hw0
  go_wp2_with (go_at_call 27; refine (c _ _ _).mono ?_; rintro e w1 ⟨rfl, t1⟩)
  go_ret
  exact ⟨rfl, HT0.out.then_no t1⟩
set_option maxRecDepth 100000 in
theorem any14_no (w : World) (v : Value) (k r : Int) (h : No w v) : Calls Tryd.prog 14 #[v, .int .i64 k, .int .i64 r] w fun e w' => e = .returned (.int .u64 0) ∧ Turn no w w' := by
  obtain ⟨a, rfl⟩ := h.form
  have c := fun g xs ys => count27_no w _ g xs ys k r h
  clear h
  go_enter Tryd.func14, Tryd.ntmps14
  go_wp2_with (go_at_call 27; refine (c _ _ _).mono ?_; rintro e w1 ⟨rfl, t1⟩)
  go_ret
  exact ⟨rfl, t1⟩
theorem mk63 (w : World) : (Instr.makeSlice 63 (.int .i64 0) (.int .i64 0)).run Tryd.prog w = .ok (.slice (some ⟨w.heap.size, 0, none⟩) 0 0) (w.alloc (.cells #[] 29)) := by kernel_rfl
set_option maxRecDepth 100000 in
theorem votesAt35_none (w : World) (v : Value) : Calls Tryd.prog 35 #[v, .slice none 0 0] w fun e w' => ∃ a, e = .returned (.slice a 0 0) ∧ Turn no w w' := by
  have m0 := fun W => mk63 W
  go_enter Tryd.func35, Tryd.ntmps35
  go_wp2_with fail
  go_loopw [13] (fun x wr => x = .int .i64 0 ∧ wr = w.alloc (.cells #[] 29)) (fun _ _ => 0)
  case atStart => exact ⟨rfl, rfl⟩
  case round =>
    obtain ⟨rfl, rfl⟩ := hrel
    go_wp2_with fail
    go_ret
    exact ⟨_, rfl, (Turn.refl no w).alloc _⟩
set_option maxRecDepth 100000 in
theorem votes15_no (w : World) (v : Value) (k r : Int) (h : No w v) : Calls Tryd.prog 15 #[v, .int .i64 k, .int .i64 r] w fun e w' => ∃ a, e = .returned (.slice a 0 0) ∧ Turn no w w' := by
  obtain ⟨a, rfl⟩ := h.form
  have c := fun g xs ys => count27_no w _ g xs ys k r h
  clear h
  go_enter Tryd.func15, Tryd.ntmps15
  go_wp2_with (first | (go_at_call 27; refine (c _ _ _).mono ?_; rintro e w1 ⟨rfl, t1⟩) | (go_at_call 35; refine (votesAt35_none _ _).mono ?_; rintro e w2 ⟨b, rfl, t2⟩))
  go_ret
  exact ⟨_, rfl, t1.then_no t2⟩
def Z51 : Array Value := #[.int .u64 0, .int .i64 0, .int .u8 0, .int .u8 0, .int .u8 0, .int .u8 0, .int .u8 0, .int .u8 0, .int .u8 0, .int .u8 0, .int .u8 0, .int .u8 0, .int .u8 0, .int .u8 0, .int .u8 0, .int .u8 0, .int .u8 0, .int .u8 0, .int .u8 0, .int .u8 0, .int .u8 0, .int .u8 0, .int .u8 0, .int .u8 0, .int .u8 0, .int .u8 0, .int .u8 0, .int .u8 0, .int .u8 0, .int .u8 0, .int .u8 0, .int .u8 0, .int .u8 0, .int .u8 0, .slice none 0 0]
def Z24 : Array Value := #[.int .u8 0, .int .u8 0, .int .u8 0, .int .u8 0, .int .u8 0, .int .u8 0, .int .u8 0, .int .u8 0, .int .u8 0, .int .u8 0, .int .u8 0, .int .u8 0, .int .u8 0, .int .u8 0, .int .u8 0, .int .u8 0, .int .u8 0, .int .u8 0, .int .u8 0, .int .u8 0, .int .u8 0, .int .u8 0, .int .u8 0, .int .u8 0, .int .u8 0, .int .u8 0, .int .u8 0, .int .u8 0, .int .u8 0, .int .u8 0, .int .u8 0, .int .u8 0]
theorem built42 : Tryd.prog.built 42 [] = some Tryd.zeroCells42 := by kernel_rfl
theorem built51 : Tryd.prog.built 51 [] = some Z51 := by kernel_rfl
theorem built24 : Tryd.prog.built 24 [] = some Z24 := by kernel_rfl
theorem size42 : (Tryd.prog.info? 42).map (·.size) = some Tryd.zeroCells42.size := by kernel_rfl
theorem size51 : (Tryd.prog.info? 51).map (·.size) = some Z51.size := by kernel_rfl
theorem size24z : (Tryd.prog.info? 24).map (·.size) = some Z24.size := by kernel_rfl
theorem one42 : Tryd.zeroCells42.all (·.oneCell') = true := by kernel_rfl
theorem one51 : Z51.all (·.oneCell') = true := by kernel_rfl
theorem one24 : Z24.all (·.oneCell') = true := by kernel_rfl
set_option maxRecDepth 100000 in
set_option maxHeartbeats 4000000 in
theorem add5_no (w : World) (v : Value) (B : Array Value) (hn : No w v) : Calls Tryd.prog 5 #[v, .agg B] w fun e w' => e = .returned (.tuple #[.agg Tryd.zeroCells42, .int .i64 1]) ∧ Turn no w w' := by
  obtain ⟨a, rfl⟩ := hn.form
  obtain ⟨w0, hw0⟩ : ∃ w0, (w.alloc (.cells B 29)).alloc (.cells Tryd.zeroCells42 42) = w0 := ⟨_, rfl⟩
  have T0 : Turn no w w0 := by rw [← hw0]; exact ((Turn.refl no w).alloc _).alloc _
  have B0 : Row w0 (w.heap.size + 1) Tryd.zeroCells42 42 := by rw [← hw0]; exact Row.newAt _ _ _ _ (by simp)
  have c := made18_no w0 _ (hn.turn T0)
  have HT0 := shut T0
  have h42 := built42
  have s42 := size42
  have o42 := one42
  clear T0 hn
  generalize hz42 : Tryd.zeroCells42 = z42 at *
  go_enter Tryd.func5, Tryd.ntmps5
  try rw [hz42]
  go_upto_region 1 with fail
  try rw [hz42]
  try rw [hw0]
  clear hw0
  go_wp2_with (first | (go_at_call 18; refine c.mono ?_; rintro e w1 ⟨rfl, rfl⟩) | (refine wpList_build_none rfl 42 rfl z42 h42 ?_) | (refine wpList_store_anyN rfl rfl 42 (.tmp 4) (.tmp 11) rfl (w.heap.size + 1) z42 rfl rfl 42 z42 B0 s42 rfl o42 ?_; intro w2 R2 T2; have HT2 := shut T2; clear T2 B0))
  refine ⟨rfl, _, results_row (g := w.heap.size + 1) (cs := z42) (t := 42) rfl _ _ _ rfl R2 Tryd.underlying42 rfl s42, rfl, ?_⟩
  exact HT0.out.trans HT2.out (fun k hk q => by have q : k = w.heap.size + 1 := q; omega)
set_option maxRecDepth 100000 in
set_option maxHeartbeats 4000000 in
theorem cert7_no (w : World) (v : Value) (r : Int) (I : Array Value) (hn : No w v) : Calls Tryd.prog 7 #[v, .int .i64 r, .agg I] w fun e w' => e = .returned (.tuple #[.agg Z51, .int .i64 1]) ∧ Turn no w w' := by
  obtain ⟨a, rfl⟩ := hn.form
  obtain ⟨w0, hw0⟩ : ∃ w0, (w.alloc (.cells I 24)).alloc (.cells #[.int .u64 0, .int .i64 0, .int .u8 0, .int .u8 0, .int .u8 0, .int .u8 0, .int .u8 0, .int .u8 0, .int .u8 0, .int .u8 0, .int .u8 0, .int .u8 0, .int .u8 0, .int .u8 0, .int .u8 0, .int .u8 0, .int .u8 0, .int .u8 0, .int .u8 0, .int .u8 0, .int .u8 0, .int .u8 0, .int .u8 0, .int .u8 0, .int .u8 0, .int .u8 0, .int .u8 0, .int .u8 0, .int .u8 0, .int .u8 0, .int .u8 0, .int .u8 0, .int .u8 0, .int .u8 0, .slice none 0 0] 51) = w0 := ⟨_, rfl⟩
  have T0 : Turn no w w0 := by rw [← hw0]; exact ((Turn.refl no w).alloc _).alloc _
  have B0 : Row w0 (w.heap.size + 1) Z51 51 := by rw [← hw0]; exact Row.newAt _ _ _ _ (by simp)
  have c := made18_no w0 _ (hn.turn T0)
  have HT0 := shut T0
  have h51 := built51
  have s51 := size51
  have o51 := one51
  clear T0 hn
  obtain ⟨z51, hz51⟩ : ∃ z, Z51 = z := ⟨_, rfl⟩
  rw [hz51] at B0 h51 s51 o51 ⊢
  clear hz51
  go_enter Tryd.func7, Tryd.ntmps7
  go_upto_region 1 with fail
  try rw [hw0]
  clear hw0
  go_wp2_with (first | (go_at_call 18; refine c.mono ?_; rintro e w1 ⟨rfl, rfl⟩) | (refine wpList_build_none rfl 51 rfl z51 h51 ?_) | (refine wpList_store_anyN rfl rfl 51 (.tmp 6) (.tmp 17) rfl (w.heap.size + 1) z51 rfl rfl 51 z51 B0 s51 rfl o51 ?_; intro w2 R2 T2; have HT2 := shut T2; clear T2 B0))
  refine ⟨rfl, _, results_row (g := w.heap.size + 1) (cs := z51) (t := 51) rfl _ _ _ rfl R2 Tryd.underlying51 rfl s51, rfl, ?_⟩
  exact HT0.out.trans HT2.out (fun k hk q => by have q : k = w.heap.size + 1 := q; omega)
set_option maxRecDepth 100000 in
set_option maxHeartbeats 4000000 in
theorem quorum8_no (w : World) (v : Value) (k r : Int) (hn : No w v) : Calls Tryd.prog 8 #[v, .int .i64 k, .int .i64 r] w fun e w' => e = .returned (.tuple #[.agg Z24, .bool false]) ∧ Turn no w w' := by
  obtain ⟨a, rfl⟩ := hn.form
  obtain ⟨w0, hw0⟩ : ∃ w0, w.alloc (.cells #[.int .u8 0, .int .u8 0, .int .u8 0, .int .u8 0, .int .u8 0, .int .u8 0, .int .u8 0, .int .u8 0, .int .u8 0, .int .u8 0, .int .u8 0, .int .u8 0, .int .u8 0, .int .u8 0, .int .u8 0, .int .u8 0, .int .u8 0, .int .u8 0, .int .u8 0, .int .u8 0, .int .u8 0, .int .u8 0, .int .u8 0, .int .u8 0, .int .u8 0, .int .u8 0, .int .u8 0, .int .u8 0, .int .u8 0, .int .u8 0, .int .u8 0, .int .u8 0] 24) = w0 := ⟨_, rfl⟩
  have T0 : Turn no w w0 := by rw [← hw0]; exact (Turn.refl no w).alloc _
  have B0 : Row w0 w.heap.size Z24 24 := by rw [← hw0]; exact Row.new _ _ _
  have c := made18_no w0 _ (hn.turn T0)
  have HT0 := shut T0
  have h24 := built24
  have s24 := size24z
  have o24 := one24
  clear T0 hn
  obtain ⟨z24, hz24⟩ : ∃ z, Z24 = z := ⟨_, rfl⟩
  rw [hz24] at B0 h24 s24 o24 ⊢
  clear hz24
  go_enter Tryd.func8, Tryd.ntmps8
  go_upto_region 1 with fail
  try rw [hw0]
  clear hw0
  go_wp2_with (first | (go_at_call 18; refine c.mono ?_; rintro e w1 ⟨rfl, rfl⟩) | (refine wpList_build_none rfl 24 rfl z24 h24 ?_) | (refine wpList_store_anyN rfl rfl 24 (.tmp 6) (.tmp 18) rfl w.heap.size z24 rfl rfl 24 z24 B0 s24 rfl o24 ?_; intro w2 R2 T2; have HT2 := shut T2; clear T2 B0))
  refine ⟨rfl, _, results_row (g := w.heap.size) (cs := z24) (t := 24) rfl _ _ _ rfl R2 Tryd.underlying24 rfl s24, rfl, ?_⟩
  exact HT0.out.trans HT2.out (fun k hk q => by have q : k = w.heap.size := q; omega)
end Go.Proofs.YtcjijofckjgikaaDoor
