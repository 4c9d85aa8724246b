/- A tally that New made; New of one member. -/
import Derived.Test.YtcjijofckjgikaaDoorN1
import Derived.Test.YtcjijofckjgikaaDoorC7
namespace Go.Proofs.YtcjijofckjgikaaDoor
open Go.RowKit
set_option linter.unusedVariables false

def mb1 : Mb := ⟨1, 5, 0⟩
theorem sound1 : soundE [mb1] = 0 := by decide
theorem heap_alloc_at (w : World) (o : Obj) (g : Nat) (h : g = w.heap.size) : (w.alloc o).heap[g]? = some o := by subst h; exact heap_alloc_new w o
/-- A tally's cells. -/
def tlC (p m : Nat) (mv : Value) : Array Value := #[.pointer (some ⟨p, 0, none⟩), .int .u64 1, mv, .int .i64 0, .map (some m)]
/-- A tally of one member that New made, at p; its map lies at m. -/
structure Tl (w : World) (p m g cap : Nat) : Prop where
  row : Row w p (tlC p m (.slice (some ⟨g, 0, none⟩) 1 cap)) 37
  mem : Rw w g cap [mb1]
theorem Tl.turn {S : Nat → Prop} {w w' : World} {p m g cap : Nat} (h : Tl w p m g cap) (t : Turn S w w') (hp : ¬ S p) (hg : ¬ S g) : Tl w' p m g cap :=
  ⟨h.row.turn t hp, h.mem.turn t hg⟩
set_option maxRecDepth 100000 in
set_option maxHeartbeats 1000000 in
theorem new17 (w : World) (v : Value) (h : Ms w v [mb1]) : Calls Tryd.prog 17 #[.int .u64 1, .agg #[v]] w fun e w' =>
    ∃ p m g cap, e = .returned (.tuple #[.pointer (some ⟨p, 0, none⟩), .int .i64 0]) ∧ Tl w' p m g cap ∧ w'.heap[m]? = some (.map #[] 0) ∧ w.heap.size ≤ p ∧ w.heap.size ≤ m ∧ w.heap.size ≤ g ∧ m ≠ g ∧ Turn no w w' := by
  have m1 := fun t W => run_makeMap (P := Tryd.prog) t W
  obtain ⟨va, vc, hv⟩ : ∃ va vc, v = .slice va 1 vc := by
    obtain ⟨va, vc, hv, _⟩ := h
    exact ⟨va, vc, hv⟩
  obtain ⟨w0, hw0⟩ : ∃ w0, w.alloc (.cells #[v] 34) = w0 := ⟨_, rfl⟩
  have T0 : Turn no w w0 := by rw [← hw0]; exact (Turn.refl no w).alloc _
  have B0 : Row w0 w.heap.size #[v] 34 := by rw [← hw0]; exact Row.new w _ 34
  have x0 := B0.cell 0 _ rfl
  have c1 := sound27 w0 v [mb1] (h.turn_no T0)
  rw [sound1] at c1
  have c2 := fun W (t : Turn no w0 W) => clone33 W v [mb1] ((h.turn_no T0).turn_no t) (by decide) (by decide)
  have HT0 := shut T0
  have HB0 := shut B0
  subst hv
  clear T0 B0 h
  go_enter Tryd.func17, Tryd.ntmps17
  go_upto_region 1 with fail
  try rw [hw0]
  clear hw0
  go_wp2_with (go_at_call 37; refine c1.mono ?_; rintro e w1 ⟨rfl, t1⟩; have x1 := t1.keep x0 (fun q => q); have c3 := c2 w1 t1; have HT1 := shut (HT0.out.then_no t1); clear t1 x0 c1 c2 HT0)
  refine c3.mono ?_
  rintro e w2 ⟨g, cap, rfl, R, hg, t2⟩
  have HT2 := shut (HT1.out.then_no t2)
  have HR := shut R
  have hg1 : w.heap.size ≤ g := Nat.le_trans HT1.out.size hg
  have hg2 := R.lt
  clear t2 R HT1 x1 HB0 hg c3
  go_wp2_with fail
  have T3 := HT2.out.size
  refine ⟨rfl, _, results_tmp2 rfl _ _ _, w2.heap.size + 1 + 1, w2.heap.size + 1, g, cap, rfl, ⟨Row.newAt _ _ _ _ (by simp), HR.out.turn_no ((((Turn.refl no w2).alloc _).alloc _).alloc _)⟩, ?_, by omega, by omega, hg1, by omega, ((HT2.out.alloc _).alloc _).alloc _⟩
  rw [Below.heap_alloc _ _ _ (by simp)]
  exact heap_alloc_at _ _ _ (by simp)
end Go.Proofs.YtcjijofckjgikaaDoor
