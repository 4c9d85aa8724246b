/- The document's disk, as plain data: where a file stands, put, used, befall. -/
import Derived.Test.YtcdogciacchigabM8
namespace Go.Proofs.Ytcdogciacchigab
open Go.RowKit Go.Maps
set_option linter.unusedVariables false

/-- A file's place; -1: there is none. -/
def atI (nm : Nm) : List Pf → Int
  | [] => -1
  | g :: r => if g.nm = nm then 0 else if atI nm r < 0 then -1 else atI nm r + 1
theorem atI_ge (nm : Nm) (l : List Pf) : -1 ≤ atI nm l := by
  induction l with
  | nil => simp [atI]
  | cons g r ih =>
    unfold atI
    split
    · omega
    · split <;> omega
theorem atI_none {nm : Nm} {l : List Pf} : atI nm l = -1 ↔ getF nm l = none := by
  induction l with
  | nil => simp [atI, getF]
  | cons g r ih =>
    have := atI_ge nm r
    unfold atI
    by_cases h : g.nm = nm
    · simp [h, getF]
    · have e : getF nm (g :: r) = getF nm r := by
        unfold getF
        rw [List.find?_cons_of_neg (by simpa using h)]
      rw [if_neg h, e, ← ih]
      split <;> omega
theorem atI_some {nm : Nm} {l : List Pf} {f : Pf} (h : getF nm l = some f) : ∃ k : Nat, atI nm l = k ∧ l[k]? = some f ∧ ∀ j g, j < k → l[j]? = some g → g.nm ≠ nm := by
  induction l with
  | nil => simp [getF] at h
  | cons g r ih =>
    unfold atI
    by_cases hg : g.nm = nm
    · have e : getF nm (g :: r) = some g := by simp [getF, hg]
      rw [e] at h
      cases h
      exact ⟨0, by simp [hg], rfl, fun j g hj => by omega⟩
    · have e : getF nm (g :: r) = getF nm r := by
        unfold getF
        rw [List.find?_cons_of_neg (by simpa using hg)]
      rw [e] at h
      obtain ⟨k, h1, h2, h3⟩ := ih h
      refine ⟨k + 1, ?_, h2, fun j x hj hx => ?_⟩
      · rw [if_neg hg, h1, if_neg (by omega)]
        omega
      · cases j with
        | zero => simp at hx; subst hx; exact hg
        | succ j => exact h3 j x (by omega) (by simpa using hx)
theorem atI_skip {nm : Nm} {l : List Pf} {k : Nat} {f : Pf} (hf : l[k]? = some f) (hn : f.nm = nm) (h : ∀ j g, j < k → l[j]? = some g → g.nm ≠ nm) : atI nm l = k := by
  induction l generalizing k with
  | nil => simp at hf
  | cons g r ih =>
    cases k with
    | zero => simp at hf; subst hf; simp [atI, hn]
    | succ k =>
      have hg := h 0 g (by omega) rfl
      have := ih (k := k) (by simpa using hf) (fun j x hj hx => h (j + 1) x (by omega) (by simpa using hx))
      unfold atI
      rw [if_neg hg, this, if_neg (by omega)]
      omega
theorem atI_miss {nm : Nm} {l : List Pf} (h : ∀ (j : Nat) g, l[j]? = some g → g.nm ≠ nm) : atI nm l = -1 := by
  rw [atI_none, getF_none]
  intro q
  obtain ⟨x, hx, e⟩ := List.mem_map.1 q
  obtain ⟨j, hj⟩ := List.mem_iff_getElem?.1 hx
  exact h j x hj e

/-- put, file by file. -/
def stepP (f : Pf) (st : List Pf × Bool) (g : Pf) : List Pf × Bool :=
  let a := if !st.2 && decide (f.nm ≤ g.nm) then (st.1 ++ [f], true) else st
  if g.nm = f.nm then a else (a.1 ++ [g], a.2)
def putP (f : Pf) (l : List Pf) : List Pf × Bool := l.foldl (stepP f) ([], false)
def finP (f : Pf) (st : List Pf × Bool) : List Pf := if st.2 then st.1 else st.1 ++ [f]
theorem foldP_true {f : Pf} {l : List Pf} (h : ∀ g ∈ l, g.nm ≠ f.nm) (acc : List Pf) : l.foldl (stepP f) (acc, true) = (acc ++ l, true) := by
  induction l generalizing acc with
  | nil => simp
  | cons g r ih =>
    rw [List.foldl_cons]
    have e : stepP f (acc, true) g = (acc ++ [g], true) := by simp [stepP, h g (by simp)]
    rw [e, ih (fun x hx => h x (by simp [hx]))]
    simp
theorem foldP_false {f : Pf} {l : List Pf} (h : Sorted l) (acc : List Pf) : finP f (l.foldl (stepP f) (acc, false)) = acc ++ putF f l := by
  induction l generalizing acc with
  | nil => simp [finP, putF]
  | cons g r ih =>
    obtain ⟨h1, h2⟩ := List.pairwise_cons.1 h
    rw [List.foldl_cons]
    unfold putF
    rcases nm_tri g.nm f.nm with q | q | q
    · have e : stepP f (acc, false) g = (acc ++ [g], false) := by
        have : ¬ f.nm ≤ g.nm := List.not_le.2 q
        simp [stepP, this, nm_ne q]
      rw [e, ih h2, if_pos q]
      simp
    · have e : stepP f (acc, false) g = (acc ++ [f], true) := by
        have : f.nm ≤ g.nm := by rw [q]; exact List.le_refl _
        simp [stepP, q]
      have hn : ¬ g.nm < f.nm := by rw [q]; exact List.lt_irrefl _
      rw [e, foldP_true (fun x hx => by have := nm_ne (h1 x hx); rw [q] at this; exact this.symm), if_neg hn, if_pos q]
      simp [finP]
    · have e : stepP f (acc, false) g = (acc ++ [f] ++ [g], true) := by
        have : f.nm ≤ g.nm := List.le_of_lt q
        simp [stepP, this, (nm_ne q).symm]
      have hn : ¬ g.nm < f.nm := fun x => List.lt_irrefl _ (List.lt_trans x q)
      rw [e, foldP_true (fun x hx => (nm_ne (List.lt_trans q (h1 x hx))).symm), if_neg hn, if_neg (nm_ne q).symm]
      simp [finP]
theorem putP_eq {f : Pf} {l : List Pf} (h : Sorted l) : finP f (putP f l) = putF f l := by
  have := foldP_false (f := f) h []
  simpa [putP] using this
theorem putP_take {f : Pf} {l : List Pf} {i : Nat} {g : Pf} (hg : l[i]? = some g) : putP f (l.take (i + 1)) = stepP f (putP f (l.take i)) g := by
  unfold putP
  rw [List.take_add_one, hg, List.foldl_append]
  rfl
theorem stepP_len (f : Pf) (st : List Pf × Bool) (g : Pf) : (stepP f st g).1.length ≤ st.1.length + 2 := by
  unfold stepP
  split <;> split <;> simp <;> omega
theorem putP_len (f : Pf) (l : List Pf) : (putP f l).1.length ≤ 2 * l.length := by
  have : ∀ (l : List Pf) (st : List Pf × Bool), (l.foldl (stepP f) st).1.length ≤ st.1.length + 2 * l.length := fun l => by
    induction l with
    | nil => simp
    | cons g r ih =>
      intro st
      have h1 := ih (stepP f st g)
      have h2 := stepP_len f st g
      simp only [List.foldl_cons, List.length_cons] at *
      omega
  have h := this l ([], false)
  simp only [List.length_nil, Nat.zero_add] at h
  exact h

/-- The k-th file, exchanged. -/
theorem set_put {l : List Pf} (hs : Sorted l) {k : Nat} {f f' : Pf} (hk : l[k]? = some f) (he : f'.nm = f.nm) : l.set k f' = putF f' l := by
  induction l generalizing k with
  | nil => simp at hk
  | cons g r ih =>
    obtain ⟨h1, h2⟩ := List.pairwise_cons.1 hs
    unfold putF
    cases k with
    | zero =>
      simp at hk
      subst hk
      rw [if_neg (by rw [he]; exact List.lt_irrefl _), if_pos he.symm]
      rfl
    | succ k =>
      have hk' : r[k]? = some f := by simpa using hk
      have := h1 f (List.mem_of_getElem? hk')
      rw [if_pos (by rw [he]; exact this), List.set_cons_succ, ih h2 hk']
/-- The k-th file, taken out. -/
theorem cut_drop {l : List Pf} (hs : Sorted l) {k : Nat} {f : Pf} (hk : l[k]? = some f) : l.take k ++ l.drop (k + 1) = dropF f.nm l := by
  induction l generalizing k with
  | nil => simp at hk
  | cons g r ih =>
    obtain ⟨h1, h2⟩ := List.pairwise_cons.1 hs
    cases k with
    | zero =>
      simp at hk
      subst hk
      have : dropF g.nm (g :: r) = r := by
        unfold dropF
        rw [List.filter_cons_of_neg (by simp), List.filter_eq_self]
        intro x hx
        simpa using (nm_ne (h1 x hx)).symm
      rw [this]
      simp
    | succ k =>
      have hk' : r[k]? = some f := by simpa using hk
      have hne := nm_ne (h1 f (List.mem_of_getElem? hk'))
      have : dropF f.nm (g :: r) = g :: dropF f.nm r := by
        unfold dropF
        rw [List.filter_cons_of_pos (by simpa using hne)]
      rw [this, ← ih h2 hk']
      simp
theorem used_take {l : List Pf} {i : Nat} {g : Pf} (hg : l[i]? = some g) : usedF (l.take (i + 1)) = usedF (l.take i) + g.bs.length := by
  unfold usedF
  rw [List.take_add_one, hg]
  simp
theorem used_take_le (l : List Pf) (i : Nat) : usedF (l.take i) ≤ usedF l := by
  have h : usedF (l.take i) + usedF (l.drop i) = usedF l := by
    unfold usedF
    rw [← List.sum_append, ← List.map_append, List.take_append_drop]
  omega
/-- befall, trouble by trouble. -/
theorem armAt_take {l : List (Int × Tr)} {i : Nat} {a : Int × Tr} (h : l[i]? = some a) (k : Int) : armAt k (l.take (i + 1)) = match armAt k (l.take i) with | some x => some x | none => if k = a.1 then some a.2 else none := by
  rw [List.take_add_one, h]
  exact armAt_append a.1 k a.2 (l.take i)
theorem filt_take {α : Type} {l : List α} {i : Nat} {f : α} (hf : l[i]? = some f) (q : α → Bool) : (l.take (i + 1)).filter q = (l.take i).filter q ++ (if q f then [f] else []) := by
  rw [List.take_add_one, hf, List.filter_append]
  simp [List.filter_cons]
end Go.Proofs.Ytcdogciacchigab
