/- DiskWhole, plain: the call at which the power goes. -/
import Derived.Test.YtcdogciacchigabQ1
namespace Go.Proofs.Ytcdogciacchigab
set_option linter.unusedVariables false

def powT (d : Bool) : Tr := ⟨1, 2, d⟩
theorem arm_pow {s : St} (h : Calm s) (d : Bool) : armS s (powT d) = ({ s with arms := [((s.n : Int) + 1, powT d)], m := s.m + 1 }, 0) := by
  have : okTr (powT d) = true := by cases d <;> decide
  unfold armS
  rw [if_neg (by rw [h.off]; simp), if_pos this, h.arms]
  rfl
theorem pow_do {s : St} (h : Calm s) (o : Opx) (hk : 3 ≤ o.kind ∧ o.kind ≤ 5) (d : Bool) :
    ((planS s o).1 = none ∧ doS (armS s (powT d)).1 o = ((armS s (powT d)).1, (planS s o).2) ∧ doS s o = (s, (planS s o).2)) ∨
    (∃ l, doS (armS s (powT d)).1 o = ({ s with n := s.n + 1, m := s.m + 1, off := true, fs := if d then l else s.fs }, 63) ∧ doS s o = ({ s with n := s.n + 1, fs := l }, 0)) := by
  have hk' : o.kind ≠ 11 := by omega
  rw [arm_pow h]
  have hp : planS { s with arms := [((s.n : Int) + 1, powT d)], m := s.m + 1 } o = planS s o := plan_same rfl rfl rfl o
  rw [do_plan _ o hk', do_plan s o hk', hp]
  cases hq : (planS s o).1 with
  | none => exact Or.inl ⟨rfl, rfl, rfl⟩
  | some l =>
    refine Or.inr ⟨l, ?_, by simp only [numb_calm h]⟩
    simp [numb, armAt, powT]
    exact h.arms
end Go.Proofs.Ytcdogciacchigab
