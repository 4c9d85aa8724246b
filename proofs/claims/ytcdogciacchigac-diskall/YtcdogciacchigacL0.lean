/- tells. -/
import Derived.Test.YtcdogciacchigacS2
import Derived.Test.YtcdogciacchigacI2
namespace Go.Proofs.Ytcdogciacchigac
open Go.RowKit Go.Maps
set_option linter.unusedVariables false

/-- The cells of what a disk tells. -/
def tlC (l : List Pf) (vs : List Value) : List Value := (l.zip vs).flatMap (fun x => [strV x.1.nm, x.2, .int .i64 x.1.sy])
theorem tlC_snoc (l : List Pf) (vs : List Value) (f : Pf) (u : Value) (h : vs.length = l.length) : tlC (l ++ [f]) (vs ++ [u]) = tlC l vs ++ [strV f.nm, u, .int .i64 f.sy] := by
  unfold tlC
  rw [List.zip_append h.symm, List.flatMap_append]
  rfl
theorem tlC_at (l : List Pf) (vs : List Value) (h : vs.length = l.length) (j : Nat) (f : Pf) (u : Value) (hf : l[j]? = some f) (hu : vs[j]? = some u) : (tlC l vs)[j * 3]? = some (strV f.nm) ∧ (tlC l vs)[j * 3 + 1]? = some u ∧ (tlC l vs)[j * 3 + 2]? = some (.int .i64 f.sy) := by
  induction l generalizing vs j with
  | nil => simp at hf
  | cons g r ih =>
    cases vs with
    | nil => simp at h
    | cons x us =>
      cases j with
      | zero =>
        simp at hf hu
        subst hf hu
        simp [tlC]
      | succ j =>
        have := ih us (by simpa using h) j (by simpa using hf) (by simpa using hu)
        have e : tlC (g :: r) (x :: us) = strV g.nm :: x :: .int .i64 g.sy :: tlC r us := by simp [tlC]
        rw [e]
        have e1 : (j + 1) * 3 = ((j * 3 + 1) + 1) + 1 := by omega
        have e2 : (j + 1) * 3 + 1 = (((j * 3 + 1) + 1) + 1) + 1 := by omega
        have e3 : (j + 1) * 3 + 2 = (((j * 3 + 2) + 1) + 1) + 1 := by omega
        rw [e2, e3, e1]
        simp only [List.getElem?_cons_succ]
        exact this
/-- What a disk tells. -/
def tellL (s : St) : List Pf := if s.off then [] else s.fs
section
variable {w : World} {p : Nat} {K : Nat → Prop} {s : St}
end
end Go.Proofs.Ytcdogciacchigac
