/- Walks: Open of a disk that no call made; WalNil. -/
import Derived.Test.YtbkbecjgphjpkaaDoorN1
namespace Go.Proofs.YtbkbecjgphjpkaaDoor
open Go.RowKit
set_option linter.unusedVariables false

theorem results_cell_row_tmp {P : Program} {fn : Func} {p u : Tmp} {ty : TypeId} (h : fn.results = #[.cell p ty, .tmp u]) (tmps : Array Value) (w : World) (g : Nat) (t : TypeId) (cs : Array Value) (fr : Nat × Nat) (d : TypeDesc)
    (hp : tmps.getD p undef = .pointer (some ⟨g, 0, none⟩)) (hg : w.heap[g]? = some (.cells cs t fr))
    (hu : P.underlying ty = some d) (hd : (match d with | .struct _ | .array _ _ => true | _ => false) = true) (hi : (P.info? ty).map (·.size) = some cs.size) :
    (results fn tmps).run P w = .ok (.tuple #[.agg cs, tmps.getD u undef]) w := by
  rw [results_cell_tmp h, hp]
  simp [asAddr, run_loadVar_row w g t ty cs fr d hg hu hd hi, Result.andThen]
theorem Un.form {w : World} {v : Value} (h : Un w v) : ∃ a, v = .pointer a := by rcases h with rfl | ⟨p, rfl, _⟩ <;> exact ⟨_, rfl⟩

theorem un_new (w : World) (cs : Array Value) (t : TypeId) (h : cs[0]? = some (.pointer none)) : Un (w.alloc (.cells cs t)) (.pointer (some ⟨w.heap.size, 0, none⟩)) :=
  Or.inr ⟨_, rfl, by rw [cell_of_row _ w.heap.size 0 cs t (0, 0) (heap_alloc_new w _)]; exact h⟩
set_option maxRecDepth 100000 in
set_option maxHeartbeats 1000000 in
theorem ready65 (w : World) (v : Value) (h : Un w v) (s : ByteArray) : Calls Tryd.prog 65 #[v, .string s] w fun e w' => e = .returned (.int .i64 1) ∧ w' = w := by
  have c1 := made72 w v h
  obtain ⟨a, rfl⟩ := h.form
  go_enter Tryd.func65, Tryd.ntmps65
  go_wp2_with fail
  refine c1.mono ?_
  rintro e w1 ⟨rfl, rfl⟩
  go_wp2_with fail
  go_ret
  exact ⟨rfl, rfl⟩
set_option maxRecDepth 100000 in
set_option maxHeartbeats 1000000 in
theorem find59 (w : World) (v : Value) (h : Un w v) (s : ByteArray) : Calls Tryd.prog 59 #[v, .string s] w fun e w' => e = .returned (.tuple #[.agg #[.slice none 0 0, .int .i64 0], .int .i64 1]) ∧ Turn no w w' := by
  have hr := fun o => ready65 _ v (h.turn_no ((Turn.refl no w).alloc o)) s
  obtain ⟨a, rfl⟩ := h.form
  clear h
  go_enter Tryd.func59, Tryd.ntmps59
  go_wp2_with fail
  refine (hr _).mono ?_
  rintro e w' ⟨rfl, rfl⟩
  go_wp2_with fail
  refine ⟨rfl, _, results_cell_row_tmp (g := w.heap.size) (cs := #[.slice none 0 0, .int .i64 0]) (t := 88) rfl _ _ _ _ rfl (Row.new w #[.slice none 0 0, .int .i64 0] 88) Tryd.underlying88 rfl (by kernel_rfl), rfl, ((Turn.refl no w).alloc _)⟩
set_option maxRecDepth 100000 in
set_option maxHeartbeats 1000000 in
theorem read42 (w : World) (v : Value) (h : Un w v) (s : ByteArray) : Calls Tryd.prog 42 #[v, .string s] w fun e w' => e = .returned (.tuple #[.slice none 0 0, .int .i64 1]) ∧ Turn no w w' := by
  have hf := find59 w v h s
  obtain ⟨a, rfl⟩ := h.form
  clear h
  go_enter Tryd.func42, Tryd.ntmps42
  go_wp2_with fail
  refine hf.mono ?_
  rintro e w' ⟨rfl, t2⟩
  go_wp2_with fail
  go_ret2
  exact ⟨rfl, t2.alloc _⟩
set_option maxRecDepth 100000 in
set_option maxHeartbeats 1000000 in
theorem open24 (w : World) (v : Value) (h : Un w v) (s : ByteArray) : Calls Tryd.prog 24 #[v, .string s] w fun e w' => e = .returned (.tuple #[.pointer none, .slice none 0 0, .int .i64 1]) ∧ Turn no w w' := by
  have hf := read42 w v h s
  obtain ⟨a, rfl⟩ := h.form
  clear h
  go_enter Tryd.func24, Tryd.ntmps24
  go_wp2_with fail
  refine hf.mono ?_
  rintro e w' ⟨rfl, t2⟩
  go_wp2_with fail
  go_ret3
  exact ⟨rfl, t2⟩

set_option maxRecDepth 100000 in
set_option maxHeartbeats 4000000 in
theorem nil_walk (w : World) (s : ByteArray) (a : Option Addr) (n c : Nat) (hL : LaidT w) :
    Calls Tryd.prog 8 #[.string s, .slice a n c] w fun e w' => e = .returned (.bool true) ∧ Turn no w w' := by
  have c1 := alive20 w hL
  go_enter Tryd.func8, Tryd.ntmps8
  go_wp2_with fail
  refine c1.mono ?_
  rintro e w1 ⟨rfl, t1⟩
  go_wp2_with fail
  refine (open24 w1 _ (Or.inl rfl) s).mono ?_
  rintro e w2 ⟨rfl, t2⟩
  have T2 := t1.then_no t2
  clear c1 t1 t2
  go_wp2_with fail
  refine (open24 _ _ (un_new w2 _ 53 rfl) s).mono ?_
  rintro e w3 ⟨rfl, t3⟩
  have T3 := (T2.alloc _).then_no t3
  clear t3 T2
  go_wp2_with fail
  refine (num12 _ _).mono ?_
  rintro e w4 ⟨rfl, rfl⟩
  go_wp2_with fail
  refine (num12 _ _).mono ?_
  rintro e w5 ⟨rfl, rfl⟩
  go_wp2_with fail
  have T4 : Turn no w5 (w5.alloc (.cells #[.pointer none, .pointer none, .string ⟨#[]⟩, .int .i64 0, .int .i64 0, .bool false] 55)) := (Turn.refl no w5).alloc _
  have U := un_new w5 #[.pointer none, .pointer none, .string ⟨#[]⟩, .int .i64 0, .int .i64 0, .bool false] 55 rfl
  have T5 := T3.then_no T4
  generalize w5.heap.size = p at *
  generalize w5.alloc (.cells #[.pointer none, .pointer none, .string ⟨#[]⟩, .int .i64 0, .int .i64 0, .bool false] 55) = w6 at *
  clear T3 T4
  refine (count25 _ _ (Or.inl rfl)).mono ?_
  rintro e w7 ⟨rfl, rfl⟩
  go_wp2_with fail
  refine (count25 _ _ U).mono ?_
  rintro e w8 ⟨rfl, rfl⟩
  go_wp2_with fail
  refine (name26 _ _ (Or.inl rfl)).mono ?_
  rintro e w9 ⟨rfl, rfl⟩
  go_wp2_with fail
  refine (name26 _ _ U).mono ?_
  rintro e w10 ⟨rfl, rfl⟩
  go_wp2_with fail
  refine (append27 _ _ (Or.inl rfl) a n c).mono ?_
  rintro e w11 ⟨rfl, t11⟩
  have T11 := T5.then_no t11
  have U11 := U.turn_no t11
  clear U T5 t11
  go_wp2_with fail
  refine (num12 _ _).mono ?_
  rintro e w12 ⟨rfl, rfl⟩
  go_wp2_with fail
  refine (sync28 _ _ (Or.inl rfl)).mono ?_
  rintro e w13 ⟨rfl, t13⟩
  have T13 := T11.then_no t13
  have U13 := U11.turn_no t13
  clear U11 T11 t13
  go_wp2_with fail
  refine (num12 _ _).mono ?_
  rintro e w14 ⟨rfl, rfl⟩
  go_wp2_with fail
  refine (append27 _ _ U13 a n c).mono ?_
  rintro e w15 ⟨rfl, t15⟩
  have T15 := T13.then_no t15
  have U15 := U13.turn_no t15
  clear U13 T13 t15
  go_wp2_with fail
  refine (num12 _ _).mono ?_
  rintro e w16 ⟨rfl, rfl⟩
  go_wp2_with fail
  refine (sync28 _ _ U15).mono ?_
  rintro e w17 ⟨rfl, t17⟩
  go_wp2_with fail
  refine (num12 _ _).mono ?_
  rintro e w18 ⟨rfl, rfl⟩
  go_wp2_with fail
  go_ret
  exact ⟨rfl, T15.then_no t17⟩
end Go.Proofs.YtbkbecjgphjpkaaDoor
