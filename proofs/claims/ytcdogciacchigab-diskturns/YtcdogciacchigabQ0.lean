/- What a call plans; two disks of one history. -/
import Derived.Test.YtcdogciacchigabL0
import Derived.Test.YtcdogciacchigabOpen
namespace Go.Proofs.Ytcdogciacchigab
set_option linter.unusedVariables false

/-- What a call (but Arm) would do: new files, or a refusal. -/
def planS (s : St) (o : Opx) : Option (List Pf) × Int :=
  if o.kind = 1 then (if asked s o.nm ≠ 0 then (none, asked s o.nm) else if fitsB s o.nm o.data.length = false then (none, 62) else (some (appL s.fs o.nm o.data), 0))
  else if o.kind = 2 then (if foundE s o.nm ≠ 0 then (none, foundE s o.nm) else (some (putF ⟨o.nm, (fileOf s.fs o.nm).bs, (fileOf s.fs o.nm).bs.length⟩ s.fs), 0))
  else if o.kind = 3 then (if asked s o.nm ≠ 0 then (none, asked s o.nm) else if fitsB s o.nm ((o.data.length : Int) - (lenF o.nm s.fs : Int)) = false then (none, 62) else (some (putF ⟨o.nm, o.data, o.data.length⟩ s.fs), 0))
  else if o.kind = 4 then (if foundE s o.nm ≠ 0 then (none, foundE s o.nm) else if o.n < 0 ∨ (lenF o.nm s.fs : Int) < o.n then (none, 2) else (some (putF ⟨o.nm, (fileOf s.fs o.nm).bs.take o.n.toNat, o.n.toNat⟩ s.fs), 0))
  else if o.kind = 5 then (if foundE s o.nm ≠ 0 then (none, foundE s o.nm) else (some (dropF o.nm s.fs), 0))
  else (none, 0)
theorem do_plan (s : St) (o : Opx) (h : o.kind ≠ 11) : doS s o = match (planS s o).1 with | some l => numb s l | none => (s, (planS s o).2) := by
  unfold doS planS
  by_cases k1 : o.kind = 1
  · simp only [k1, if_true, appS]
    by_cases q : asked s o.nm = 0 <;> by_cases r : fitsB s o.nm (o.data.length : Int) = false <;> simp [q, r]
  by_cases k2 : o.kind = 2
  · simp only [k2, if_true, syncS, show ¬ (2 : Int) = 1 by omega, if_false]
    split <;> rfl
  by_cases k3 : o.kind = 3
  · simp only [k3, if_true, replS, show ¬ (3 : Int) = 1 by omega, show ¬ (3 : Int) = 2 by omega, if_false]
    by_cases q : asked s o.nm = 0 <;> by_cases r : fitsB s o.nm ((o.data.length : Int) - (lenF o.nm s.fs : Int)) = false <;> simp [q, r]
  by_cases k4 : o.kind = 4
  · simp only [k4, if_true, cutS, show ¬ (4 : Int) = 1 by omega, show ¬ (4 : Int) = 2 by omega, show ¬ (4 : Int) = 3 by omega, if_false]
    by_cases q : foundE s o.nm = 0 <;> by_cases r : o.n < 0 ∨ (lenF o.nm s.fs : Int) < o.n <;> simp [q, r]
  by_cases k5 : o.kind = 5
  · simp only [k5, if_true, remS, show ¬ (5 : Int) = 1 by omega, show ¬ (5 : Int) = 2 by omega, show ¬ (5 : Int) = 3 by omega, show ¬ (5 : Int) = 4 by omega, if_false]
    split <;> rfl
  simp only [k1, k2, k3, k4, k5, h, if_false]
theorem plan_same {s s' : St} (h1 : s'.lim = s.lim) (h2 : s'.fs = s.fs) (h3 : s'.off = s.off) (o : Opx) : planS s' o = planS s o := by
  unfold planS foundE asked fitsB
  rw [h1, h2, h3]
theorem asked_cases (s : St) (nm : Nm) (h : asked s nm ≠ 0) : asked s nm = 63 ∨ asked s nm = 60 := by
  unfold asked at *
  split
  · exact Or.inl rfl
  · split
    · rename_i a b
      exact (h (by rw [if_neg a, if_pos b])).elim
    · exact Or.inr rfl
theorem found_cases (s : St) (nm : Nm) (h : foundE s nm ≠ 0) : foundE s nm = 63 ∨ foundE s nm = 60 ∨ foundE s nm = 61 := by
  unfold foundE at *
  split
  · rename_i a
    split
    · rename_i b
      exact (h (by rw [if_pos a, if_pos b])).elim
    · exact Or.inr (Or.inr rfl)
  · rename_i a
    rcases asked_cases s nm a with q | q
    · exact Or.inl q
    · exact Or.inr (Or.inl q)
theorem plan_refused (s : St) (o : Opx) (hk : 1 ≤ o.kind ∧ o.kind ≤ 5) (h : (planS s o).1 = none) : (planS s o).2 ≠ 0 ∧ (planS s o).2 ≠ 64 := by
  have ha := asked_cases s o.nm
  have hf := found_cases s o.nm
  rcases (show o.kind = 1 ∨ o.kind = 2 ∨ o.kind = 3 ∨ o.kind = 4 ∨ o.kind = 5 by omega) with k | k | k | k | k
  · simp only [planS, k, if_true] at *
    split at h
    · rename_i q; rw [if_pos q]; have := ha q; simp only; omega
    · rename_i q; rw [if_neg q]; split at h
      · rename_i r; rw [if_pos r]; simp
      · cases h
  · simp only [planS, k, if_true, show ¬ (2 : Int) = 1 by omega, if_false] at *
    split at h
    · rename_i q; rw [if_pos q]; have := hf q; simp only; omega
    · cases h
  · simp only [planS, k, if_true, show ¬ (3 : Int) = 1 by omega, show ¬ (3 : Int) = 2 by omega, if_false] at *
    split at h
    · rename_i q; rw [if_pos q]; have := ha q; simp only; omega
    · rename_i q; rw [if_neg q]; split at h
      · rename_i r; rw [if_pos r]; simp
      · cases h
  · simp only [planS, k, if_true, show ¬ (4 : Int) = 1 by omega, show ¬ (4 : Int) = 2 by omega, show ¬ (4 : Int) = 3 by omega, if_false] at *
    split at h
    · rename_i q; rw [if_pos q]; have := hf q; simp only; omega
    · rename_i q; rw [if_neg q]; split at h
      · rename_i r; rw [if_pos r]; simp
      · cases h
  · simp only [planS, k, if_true, show ¬ (5 : Int) = 1 by omega, show ¬ (5 : Int) = 2 by omega, show ¬ (5 : Int) = 3 by omega, show ¬ (5 : Int) = 4 by omega, if_false] at *
    split at h
    · rename_i q; rw [if_pos q]; have := hf q; simp only; omega
    · cases h

/-- No trouble is armed, and it is on. -/
structure Calm (s : St) : Prop where
  arms : s.arms = []
  off : s.off = false
  out : s.out = false
/-- Two disks that tell the same. -/
structure Sim (s s' : St) : Prop where
  a : Calm s
  b : Calm s'
  lim : s'.lim = s.lim
  fs : s'.fs = s.fs
theorem Sim.tell {s s' : St} (h : Sim s s') : tellL s' = tellL s := by
  unfold tellL
  rw [h.a.off, h.b.off, h.fs]
theorem numb_calm {s : St} (h : Calm s) (l : List Pf) : numb s l = ({ s with n := s.n + 1, fs := l }, 0) := by
  have : armAt ((s.n : Int) + 1) s.arms = none := by rw [h.arms]; rfl
  unfold numb
  rw [this]
  simp [h.arms]
theorem sim_do {s s' : St} (h : Sim s s') (o : Opx) (hk : o.kind ≠ 11) : (doS s' o).2 = (doS s o).2 ∧ Sim (doS s o).1 (doS s' o).1 ∧ (doS s o).1.n ≤ s.n + 1 ∧ (doS s' o).1.n ≤ s'.n + 1 ∧ (doS s o).1.m = s.m ∧ (doS s' o).1.m = s'.m := by
  rw [do_plan s o hk, do_plan s' o hk, plan_same h.lim h.fs (h.b.off.trans h.a.off.symm)]
  cases (planS s o).1 with
  | none => exact ⟨rfl, h, Nat.le_succ _, Nat.le_succ _, rfl, rfl⟩
  | some l =>
    simp only [numb_calm h.a, numb_calm h.b]
    exact ⟨trivial, ⟨⟨h.a.arms, h.a.off, h.a.out⟩, ⟨h.b.arms, h.b.off, h.b.out⟩, h.lim, rfl⟩, Nat.le_refl _, Nat.le_refl _, trivial, trivial⟩
theorem live_calm (m : Mx) : Calm (liveS m) ∧ (liveS m).n = 0 ∧ (liveS m).m = 0 := by
  unfold liveS
  split <;> split <;> exact ⟨⟨rfl, rfl, rfl⟩, rfl, rfl⟩
def faultT : Tr := ⟨1, 1, false⟩
theorem arm_calm {s : St} (h : Calm s) : armS s faultT = ({ s with arms := [((s.n : Int) + 1, faultT)], m := s.m + 1 }, 0) := by
  have : okTr faultT = true := by decide
  unfold armS
  rw [if_neg (by rw [h.off]; simp), if_pos this, h.arms]
  rfl
/-- The call that a fault befalls. -/
theorem fault_do {s : St} (h : Calm s) (o : Opx) (hk : 1 ≤ o.kind ∧ o.kind ≤ 5) :
    ((planS s o).1 = none ∧ doS (armS s faultT).1 o = ((armS s faultT).1, (planS s o).2) ∧ doS s o = (s, (planS s o).2)) ∨
    ((planS s o).1 ≠ none ∧ doS (armS s faultT).1 o = ({ s with n := s.n + 1, m := s.m + 1 }, 64)) := by
  have hk' : o.kind ≠ 11 := by omega
  rw [arm_calm h]
  have hp : planS { s with arms := [((s.n : Int) + 1, faultT)], m := s.m + 1 } o = planS s o := plan_same rfl rfl rfl o
  rw [do_plan _ o hk', do_plan s o hk', hp]
  cases hq : (planS s o).1 with
  | none => exact Or.inl ⟨rfl, rfl, rfl⟩
  | some l =>
    refine Or.inr ⟨by simp, ?_⟩
    simp [numb, armAt, faultT]
    exact h.arms
end Go.Proofs.Ytcdogciacchigab
