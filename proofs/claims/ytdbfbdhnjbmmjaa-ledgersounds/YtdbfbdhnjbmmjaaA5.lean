/- New. -/
import Derived.Test.YtdbfbdhnjbmmjaaA4
import Derived.Laws.ResultCell
namespace Go.Proofs.Ytdbfbdhnjbmmjaa
open Go.RowKit
set_option linter.unusedVariables false

theorem results_cell_row_tmp {P : Program} {fn : Func} {p u : Tmp} {ty : TypeId} (h : fn.results = #[.cell p ty, .tmp u]) (tmps : Array Value) (w : World) (g : Nat) (t : TypeId) (cs : Array Value) (fr : Nat × Nat) (d : TypeDesc)
    (hp : tmps.getD p undef = .pointer (some ⟨g, 0, none⟩)) (hg : w.heap[g]? = some (.cells cs t fr))
    (hu : P.underlying ty = some d) (hd : (match d with | .struct _ | .array _ _ => true | _ => false) = true) (hi : (P.info? ty).map (·.size) = some cs.size) :
    (results fn tmps).run P w = .ok (.tuple #[.agg cs, tmps.getD u undef]) w := by
  rw [results_cell_tmp h, hp]
  simp [asAddr, run_loadVar_row w g t ty cs fr d hg hu hd hi, Result.andThen]
/-- Four cells of a row, written one by one. -/
theorem store4 {w : World} {g : Nat} {a b c d : Value} {t : TypeId} (R : w.heap[g]? = some (.cells #[a, b, c, d] t (0, 0))) (x0 x1 x2 x3 : Value) :
    (w.cell? ⟨g, 0, none⟩ = some a ∧ w.frozen? ⟨g, 0, none⟩ = false) ∧ ((w.setCell ⟨g, 0, none⟩ x0).cell? ⟨g, 1, none⟩ = some b ∧ (w.setCell ⟨g, 0, none⟩ x0).frozen? ⟨g, 1, none⟩ = false) ∧
    (((w.setCell ⟨g, 0, none⟩ x0).setCell ⟨g, 1, none⟩ x1).cell? ⟨g, 2, none⟩ = some c ∧ ((w.setCell ⟨g, 0, none⟩ x0).setCell ⟨g, 1, none⟩ x1).frozen? ⟨g, 2, none⟩ = false) ∧
    ((((w.setCell ⟨g, 0, none⟩ x0).setCell ⟨g, 1, none⟩ x1).setCell ⟨g, 2, none⟩ x2).cell? ⟨g, 3, none⟩ = some d ∧ (((w.setCell ⟨g, 0, none⟩ x0).setCell ⟨g, 1, none⟩ x1).setCell ⟨g, 2, none⟩ x2).frozen? ⟨g, 3, none⟩ = false) ∧
    ((((w.setCell ⟨g, 0, none⟩ x0).setCell ⟨g, 1, none⟩ x1).setCell ⟨g, 2, none⟩ x2).setCell ⟨g, 3, none⟩ x3).heap[g]? = some (.cells #[x0, x1, x2, x3] t (0, 0)) ∧
    Turn (fun k => k = g) w ((((w.setCell ⟨g, 0, none⟩ x0).setCell ⟨g, 1, none⟩ x1).setCell ⟨g, 2, none⟩ x2).setCell ⟨g, 3, none⟩ x3) := by
  have R1 := heap_setCell_same w g 0 _ t x0 R
  have R2 := heap_setCell_same _ g 1 _ t x1 R1
  have R3 := heap_setCell_same _ g 2 _ t x2 R2
  have R4 := heap_setCell_same _ g 3 _ t x3 R3
  refine ⟨⟨cell_of_row _ _ 0 _ t (0, 0) R, frozen_of_row _ _ 0 _ t R⟩, ⟨cell_of_row _ _ 1 _ t (0, 0) R1, frozen_of_row _ _ 1 _ t R1⟩, ⟨cell_of_row _ _ 2 _ t (0, 0) R2, frozen_of_row _ _ 2 _ t R2⟩, ⟨cell_of_row _ _ 3 _ t (0, 0) R3, frozen_of_row _ _ 3 _ t R3⟩, R4, ?_⟩
  exact ((((Turn.refl (fun k => k = g) w).setCell (p := ⟨g, 0, none⟩) (fun _ => rfl) _).setCell (p := ⟨g, 1, none⟩) (fun _ => rfl) _).setCell (p := ⟨g, 2, none⟩) (fun _ => rfl) _).setCell (p := ⟨g, 3, none⟩) (fun _ => rfl) _
set_option maxRecDepth 100000 in
set_option maxHeartbeats 4000000 in
theorem new6 (w : World) (va : Value) (l : List Ac) (ha : As w va l) (hl : l.length * 40 ≤ 140737488355328) : Calls Try.prog 6 #[va] w fun e w' =>
    (soundE 0 l (wholeN 0 l []) = 0 ∧ ∃ v', e = .returned (.tuple #[.agg #[v', .slice none 0 0, .int .u64 0, .int .u64 (wholeN 0 l [])], .int .i64 0]) ∧ OwnN w' 39 5 v' l.length (acC l) ∧ (∀ g, v'.ownBlock = some g → w.heap.size ≤ g) ∧ Turn no w w') ∨
    (soundE 0 l (wholeN 0 l []) ≠ 0 ∧ e = .returned (.tuple #[.agg #[.slice none 0 0, .slice none 0 0, .int .u64 0, .int .u64 0], .int .i64 (soundE 0 l (wholeN 0 l []))]) ∧ Turn no w w') := by
  have hok : ∀ m ∈ l, m.ok := by
    obtain ⟨_, _, _, h⟩ := ha
    exact h.ok
  obtain ⟨w1, hw1⟩ : ∃ w1, w1 = w.alloc (.cells #[.slice none 0 0, .slice none 0 0, .int .u64 0, .int .u64 0] 29) := ⟨_, rfl⟩
  have t1 : Turn no w w1 := by rw [hw1]; exact (Turn.refl no w).alloc _
  have R1 : w1.heap[w.heap.size]? = some (.cells #[.slice none 0 0, .slice none 0 0, .int .u64 0, .int .u64 0] 29 (0, 0)) := by rw [hw1]; exact heap_alloc_new w _
  have c1 := copied20 w1 va l (ha.turn_no t1) hl
  obtain ⟨a, cap, rfl, _⟩ := ha
  go_enter Try.func6, Try.ntmps6
  go_wp2_with fail
  try rw [← hw1]
  refine c1.mono ?_
  rintro e w2 ⟨v2, rfl, O2, f2, t2⟩
  obtain ⟨a2, cap2, e2, _⟩ := id O2.form
  subst e2
  obtain ⟨w3, hw3⟩ : ∃ w3, w3 = w2.alloc (.cells #[.slice a2 l.length cap2, .slice none 0 0, .int .u64 0, .int .u64 0] 29) := ⟨_, rfl⟩
  have t3 : Turn no w2 w3 := by rw [hw3]; exact (Turn.refl no w2).alloc _
  have R3 : w3.heap[w2.heap.size]? = some (.cells #[.slice a2 l.length cap2, .slice none 0 0, .int .u64 0, .int .u64 0] 29 (0, 0)) := by rw [hw3]; exact heap_alloc_new w2 _
  have A3 := (O2.as hok).turn_no t3
  have cW := whole21 w3 _ _ l [] A3 ⟨none, 0, rfl, by simp, by simp [maxLen], (fun m hm => by cases hm), fun j m hj => by simp at hj⟩ 0 0
  have cW : Calls Try.prog 21 #[.agg #[.slice a2 l.length cap2, .slice none 0 0, .int .u64 0, .int .u64 0]] w3 fun e w' => e = .returned (.int .u64 (wholeN 0 l [])) ∧ Turn no w3 w' := cW
  generalize hS : wholeN 0 l [] = S at *
  have HS := shut' hS
  clear hS
  clear c1
  go_wp2_with fail
  try rw [← hw3]
  refine cW.mono ?_
  rintro e w4 ⟨rfl, t4⟩
  have R4 := t4.obj R3 (fun q => q)
  have c3 : w4.cell? ⟨w2.heap.size, 3, none⟩ = some (.int .u64 0) := cell_of_row _ _ 3 _ 29 (0, 0) R4
  have f3 : w4.frozen? ⟨w2.heap.size, 3, none⟩ = false := frozen_of_row _ _ 3 _ 29 R4
  have R5 : (w4.setCell ⟨w2.heap.size, 3, none⟩ (.int .u64 S)).heap[w2.heap.size]? = some (.cells #[.slice a2 l.length cap2, .slice none 0 0, .int .u64 0, .int .u64 S] 29 (0, 0)) := heap_setCell_same w4 w2.heap.size 3 _ 29 _ R4
  obtain ⟨w5, hw5⟩ : ∃ w5, w5 = w4.setCell ⟨w2.heap.size, 3, none⟩ (.int .u64 S) := ⟨_, rfl⟩
  have t5 : Turn (fun k => k = w2.heap.size) w4 w5 := by rw [hw5]; exact (Turn.refl (fun k => k = w2.heap.size) w4).setCell (p := ⟨w2.heap.size, 3, none⟩) (fun _ => rfl) _
  rw [← hw5] at R5
  have s2 := t2.size
  have A5 : As w5 (.slice a2 l.length cap2) l := by
    obtain ⟨x, y, e, h⟩ := A3.turn_no t4
    refine ⟨x, y, e, h.turn t5 (fun q hq z => ?_)⟩
    have : a2 = x := by simp at e; exact e.1
    have hlt := O2.lt (g := q.block) (by rw [this, hq]; rfl)
    have : q.block = w2.heap.size := z
    omega
  have cS := sound11_nil w5 _ l A5 0 S
  have y0 : w5.cell? ⟨w2.heap.size, 0, none⟩ = some (.slice a2 l.length cap2) := cell_of_row _ _ 0 _ 29 (0, 0) R5
  have y1 : w5.cell? ⟨w2.heap.size, 1, none⟩ = some (.slice none 0 0) := cell_of_row _ _ 1 _ 29 (0, 0) R5
  have y2 : w5.cell? ⟨w2.heap.size, 2, none⟩ = some (.int .u64 0) := cell_of_row _ _ 2 _ 29 (0, 0) R5
  have y3 : w5.cell? ⟨w2.heap.size, 3, none⟩ = some (.int .u64 S) := cell_of_row _ _ 3 _ 29 (0, 0) R5
  rw [hw5] at y0 y1 y2 y3
  have cS : Calls Try.prog 11 #[.agg #[.slice a2 l.length cap2, .slice none 0 0, .int .u64 0, .int .u64 S]] w5 fun e w' => e = .returned (.int .i64 (soundE 0 l S)) ∧ Turn no w5 w' := cS
  generalize hEE : soundE 0 l S = E at *
  have HEE := shut' hEE
  clear hEE
  go_wp2_with fail
  try rw [← hw5]
  refine cS.mono ?_
  rintro e w6 ⟨rfl, t6⟩
  have T5 : Turn (fun k => k = w2.heap.size) w1 w5 := ((t2.then_no t3).then_no t4).of_no.trans t5 (fun _ _ q => q)
  have T6 : Turn (fun k => k = w2.heap.size) w1 w6 := T5.then_no t6
  have s1 : w.heap.size < w1.heap.size := by rw [hw1]; simp
  have R6 := T6.obj R1 (fun q => by omega)
  have R7 := t6.obj R5 (fun q => q)
  have TF : Turn no w w6 := t1.trans T6 (fun k hk q => by omega)
  have O6 : OwnN w6 39 5 (.slice a2 l.length cap2) l.length (acC l) := (((O2.turn_no (t3.then_no t4)).turn t5 (fun g hg z => by have := O2.lt hg; omega))).turn_no t6
  have x0 : w6.cell? ⟨w2.heap.size, 0, none⟩ = some (.slice a2 l.length cap2) := cell_of_row _ _ 0 _ 29 (0, 0) R7
  have x1 : w6.cell? ⟨w2.heap.size, 1, none⟩ = some (.slice none 0 0) := cell_of_row _ _ 1 _ 29 (0, 0) R7
  have x2 : w6.cell? ⟨w2.heap.size, 2, none⟩ = some (.int .u64 0) := cell_of_row _ _ 2 _ 29 (0, 0) R7
  have x3 : w6.cell? ⟨w2.heap.size, 3, none⟩ = some (.int .u64 S) := cell_of_row _ _ 3 _ 29 (0, 0) R7
  clear y0 y1 y2 y3 c3 f3 cS cW hw5 hw3
  by_cases hE : E = 0
  · subst hE
    obtain ⟨⟨p0, p1⟩, ⟨p2, p3⟩, ⟨p4, p5⟩, ⟨p6, p7⟩, RF, TS⟩ := store4 R6 (.slice a2 l.length cap2) (.slice none 0 0) (.int .u64 0) (.int .u64 S)
    have HRF := shut' RF
    have OF := shut' (O6.turn TS (fun g hg z => by have := f2 g hg; omega))
    have HTF := shut' (TF.trans TS (fun k hk q => by omega))
    clear RF TS R6 R7 O6 TF T5 T6 R5 R4 R3 A5 A3 O2
    go_wp2_with fail
    refine ⟨rfl, _, results_cell_row_tmp (g := w.heap.size) (cs := #[.slice a2 l.length cap2, .slice none 0 0, .int .u64 0, .int .u64 S]) (t := 29) rfl _ _ _ _ rfl HRF.out Try.underlying29 rfl (by kernel_rfl), Or.inl ⟨by rw [HS.out]; exact HEE.out, _, by rw [HS.out]; rfl, OF.out, fun g hg => by have := f2 g hg; omega, HTF.out⟩⟩
  · have hE' : (E != 0) = true := by simpa using hE
    obtain ⟨⟨p0, p1⟩, ⟨p2, p3⟩, ⟨p4, p5⟩, ⟨p6, p7⟩, RF, TS⟩ := store4 R6 (.slice none 0 0) (.slice none 0 0) (.int .u64 0) (.int .u64 0)
    have HRF := shut' RF
    have HTF := shut' (TF.trans TS (fun k hk q => by omega))
    clear RF TS R6 R7 O6 TF T5 T6 R5 R4 R3 A5 A3 O2
    go_wp2_with fail
    refine ⟨rfl, _, results_cell_row_tmp (g := w.heap.size) (cs := #[.slice none 0 0, .slice none 0 0, .int .u64 0, .int .u64 0]) (t := 29) rfl _ _ _ _ rfl HRF.out Try.underlying29 rfl (by kernel_rfl), Or.inr ⟨by rw [HS.out, HEE.out]; exact hE, by rw [HS.out, HEE.out]; rfl, HTF.out⟩⟩
end Go.Proofs.Ytdbfbdhnjbmmjaa
