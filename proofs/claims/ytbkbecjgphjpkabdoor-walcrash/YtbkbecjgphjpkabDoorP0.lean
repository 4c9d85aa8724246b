/- A disk as plain data: files by rising name, troubles in the order in which they were armed. -/
import Derived.Test.YtbkbecjgphjpkabDoorBase
namespace Go.Proofs.YtbkbecjgphjpkabDoor

/-- A file. -/
structure Pf where
  nm : List UInt8
  bs : List UInt8
  sy : Nat
/-- A trouble. -/
structure Tr where
  when : Int
  kind : Int
  done : Bool
/-- A disk. -/
structure St where
  lim : Nat
  fs : List Pf
  n : Nat
  arms : List (Int × Tr)
  m : Nat
  off : Bool
  out : Bool

abbrev Nm := List UInt8
theorem nm_tri (a b : Nm) : a < b ∨ a = b ∨ b < a := by
  by_cases h : a < b
  · exact Or.inl h
  · by_cases h' : b < a
    · exact Or.inr (Or.inr h')
    · exact Or.inr (Or.inl (List.le_antisymm (List.not_lt.1 h') (List.not_lt.1 h)))
theorem nm_ne {a b : Nm} (h : a < b) : a ≠ b := fun e => List.lt_irrefl b (e ▸ h)

def Sorted (l : List Pf) : Prop := l.Pairwise (fun f g => f.nm < g.nm)
def getF (nm : Nm) (l : List Pf) : Option Pf := l.find? (fun f => decide (f.nm = nm))
def putF (f : Pf) : List Pf → List Pf
  | [] => [f]
  | g :: r => if g.nm < f.nm then g :: putF f r else if g.nm = f.nm then f :: r else f :: g :: r
def dropF (nm : Nm) (l : List Pf) : List Pf := l.filter (fun f => decide (f.nm ≠ nm))
def usedF (l : List Pf) : Nat := (l.map (fun f => f.bs.length)).sum
def lenF (nm : Nm) (l : List Pf) : Nat := match getF nm l with | none => 0 | some f => f.bs.length

theorem mem_putF {f : Pf} {l : List Pf} {x : Pf} (h : x ∈ putF f l) : x = f ∨ x ∈ l := by
  induction l with
  | nil => simp [putF] at h; exact Or.inl h
  | cons g r ih =>
    unfold putF at h
    split at h
    · rcases List.mem_cons.1 h with q | q
      · exact Or.inr (by simp [q])
      · rcases ih q with e | e
        · exact Or.inl e
        · exact Or.inr (by simp [e])
    · split at h
      · rcases List.mem_cons.1 h with q | q
        · exact Or.inl q
        · exact Or.inr (by simp [q])
      · rcases List.mem_cons.1 h with q | q
        · exact Or.inl q
        · exact Or.inr q
theorem sorted_putF {l : List Pf} (h : Sorted l) (f : Pf) : Sorted (putF f l) := by
  induction l with
  | nil => simp [putF, Sorted]
  | cons g r ih =>
    obtain ⟨h1, h2⟩ := List.pairwise_cons.1 h
    unfold putF
    split
    · rename_i hlt
      refine List.pairwise_cons.2 ⟨fun x hx => ?_, ih h2⟩
      rcases mem_putF hx with rfl | q
      · exact hlt
      · exact h1 x q
    · split
      · rename_i he
        refine List.pairwise_cons.2 ⟨fun x hx => ?_, h2⟩
        rw [← he]
        exact h1 x hx
      · rename_i hn he
        have hlt : f.nm < g.nm := by
          rcases nm_tri f.nm g.nm with q | q | q
          · exact q
          · exact (he q.symm).elim
          · exact (hn q).elim
        refine List.pairwise_cons.2 ⟨fun x hx => ?_, h⟩
        rcases List.mem_cons.1 hx with rfl | q
        · exact hlt
        · exact List.lt_trans hlt (h1 x q)
theorem sorted_dropF {l : List Pf} (h : Sorted l) (nm : Nm) : Sorted (dropF nm l) := List.Pairwise.filter _ h

theorem getF_none {nm : Nm} {l : List Pf} : getF nm l = none ↔ nm ∉ l.map Pf.nm := by
  simp only [getF, List.find?_eq_none, decide_eq_true_eq, List.mem_map, not_exists, not_and]
theorem getF_mem {nm : Nm} {l : List Pf} {f : Pf} (h : getF nm l = some f) : f ∈ l ∧ f.nm = nm :=
  ⟨List.mem_of_find?_eq_some h, by simpa using List.find?_some h⟩
theorem getF_some {nm : Nm} {l : List Pf} : (getF nm l).isSome = decide (nm ∈ l.map Pf.nm) := by
  cases h : getF nm l with
  | none => simp [getF_none.1 h]
  | some f =>
    obtain ⟨h1, h2⟩ := getF_mem h
    have : nm ∈ l.map Pf.nm := List.mem_map.2 ⟨f, h1, h2⟩
    simp [this]
theorem sorted_nodup {l : List Pf} (h : Sorted l) : (l.map Pf.nm).Nodup := by
  refine List.pairwise_map.2 (h.imp (fun q => nm_ne q))
theorem getF_of_mem {l : List Pf} (h : Sorted l) {f : Pf} (hf : f ∈ l) : getF f.nm l = some f := by
  induction l with
  | nil => cases hf
  | cons g r ih =>
    obtain ⟨h1, h2⟩ := List.pairwise_cons.1 h
    by_cases hg : g.nm = f.nm
    · rcases List.mem_cons.1 hf with rfl | q
      · simp [getF]
      · exact (nm_ne (h1 f q) hg).elim
    · rcases List.mem_cons.1 hf with rfl | q
      · exact (hg rfl).elim
      · have := ih h2 q
        simp only [getF] at this ⊢
        rw [List.find?_cons_of_neg (by simpa using hg)]
        exact this

theorem getF_put_same (f : Pf) (l : List Pf) (h : Sorted l) : getF f.nm (putF f l) = some f := by
  induction l with
  | nil => simp [putF, getF]
  | cons g r ih =>
    obtain ⟨h1, h2⟩ := List.pairwise_cons.1 h
    unfold putF
    split
    · rename_i hlt
      have := ih h2
      unfold getF at this ⊢
      rw [List.find?_cons_of_neg (by simpa using nm_ne hlt)]
      exact this
    · split <;> simp [getF]
theorem getF_put_other {f : Pf} {l : List Pf} {nm : Nm} (hne : nm ≠ f.nm) : getF nm (putF f l) = getF nm l := by
  induction l with
  | nil => simp [putF, getF, Ne.symm hne]
  | cons g r ih =>
    unfold putF
    split
    · unfold getF at ih ⊢
      by_cases hg : g.nm = nm
      · simp [hg]
      · rw [List.find?_cons_of_neg (by simpa using hg), List.find?_cons_of_neg (by simpa using hg), ih]
    · split
      · rename_i he
        unfold getF
        rw [List.find?_cons_of_neg (by simpa using Ne.symm hne), List.find?_cons_of_neg (by simp [he, Ne.symm hne])]
      · unfold getF
        rw [List.find?_cons_of_neg (by simpa using Ne.symm hne)]
theorem getF_drop_same (nm : Nm) (l : List Pf) : getF nm (dropF nm l) = none := by
  rw [getF_none]
  simp [dropF]
theorem getF_drop_other {nm k : Nm} {l : List Pf} (hne : k ≠ nm) : getF k (dropF nm l) = getF k l := by
  induction l with
  | nil => rfl
  | cons g r ih =>
    unfold dropF getF at *
    by_cases hg : g.nm = nm
    · rw [List.filter_cons_of_neg (by simp [hg]), List.find?_cons_of_neg (by simp [hg, Ne.symm hne]), ih]
    · rw [List.filter_cons_of_pos (by simp [hg])]
      by_cases hk : g.nm = k
      · simp [hk]
      · rw [List.find?_cons_of_neg (by simpa using hk), List.find?_cons_of_neg (by simpa using hk), ih]

theorem length_putF (f : Pf) (l : List Pf) (h : Sorted l) : (putF f l).length = if (getF f.nm l).isSome then l.length else l.length + 1 := by
  induction l with
  | nil => simp [putF, getF]
  | cons g r ih =>
    obtain ⟨h1, h2⟩ := List.pairwise_cons.1 h
    unfold putF
    split
    · rename_i hlt
      have e : getF f.nm (g :: r) = getF f.nm r := by
        unfold getF
        rw [List.find?_cons_of_neg (by simpa using nm_ne hlt)]
      rw [e, List.length_cons, ih h2]
      split <;> rfl
    · split
      · rename_i he
        simp [getF, he]
      · rename_i hn he
        have hlt : f.nm < g.nm := by
          rcases nm_tri f.nm g.nm with q | q | q
          · exact q
          · exact (he q.symm).elim
          · exact (hn q).elim
        have e : getF f.nm (g :: r) = none := by
          rw [getF_none]
          intro q
          obtain ⟨x, hx, e⟩ := List.mem_map.1 q
          rcases List.mem_cons.1 hx with rfl | q
          · exact he e
          · exact nm_ne (List.lt_trans hlt (h1 x q)) e.symm
        simp [e]
theorem used_putF (f : Pf) (l : List Pf) (h : Sorted l) : usedF (putF f l) + lenF f.nm l = usedF l + f.bs.length := by
  induction l with
  | nil => simp [putF, usedF, lenF, getF]
  | cons g r ih =>
    obtain ⟨h1, h2⟩ := List.pairwise_cons.1 h
    unfold putF
    split
    · rename_i hlt
      have e : lenF f.nm (g :: r) = lenF f.nm r := by
        unfold lenF getF
        rw [List.find?_cons_of_neg (by simpa using nm_ne hlt)]
      have := ih h2
      rw [e]
      simp only [usedF, List.map_cons, List.sum_cons] at this ⊢
      omega
    · split
      · rename_i he
        simp [usedF, lenF, getF, he]
        omega
      · rename_i hn he
        have hlt : f.nm < g.nm := by
          rcases nm_tri f.nm g.nm with q | q | q
          · exact q
          · exact (he q.symm).elim
          · exact (hn q).elim
        have e : lenF f.nm (g :: r) = 0 := by
          have : getF f.nm (g :: r) = none := by
            rw [getF_none]
            intro q
            obtain ⟨x, hx, e⟩ := List.mem_map.1 q
            rcases List.mem_cons.1 hx with rfl | q
            · exact he e
            · exact nm_ne (List.lt_trans hlt (h1 x q)) e.symm
          simp [lenF, this]
        rw [e]
        simp [usedF]
        omega
theorem used_dropF (nm : Nm) (l : List Pf) (h : Sorted l) : usedF (dropF nm l) + lenF nm l = usedF l := by
  induction l with
  | nil => rfl
  | cons g r ih =>
    obtain ⟨h1, h2⟩ := List.pairwise_cons.1 h
    by_cases hg : g.nm = nm
    · have e : dropF nm (g :: r) = r := by
        unfold dropF
        rw [List.filter_cons_of_neg (by simp [hg]), List.filter_eq_self]
        intro x hx
        have := nm_ne (h1 x hx)
        rw [hg] at this
        simpa using this.symm
      rw [e]
      simp [usedF, lenF, getF, hg]
      omega
    · have e : dropF nm (g :: r) = g :: dropF nm r := by
        unfold dropF
        rw [List.filter_cons_of_pos (by simp [hg])]
      have e2 : lenF nm (g :: r) = lenF nm r := by
        unfold lenF getF
        rw [List.find?_cons_of_neg (by simpa using hg)]
      have := ih h2
      rw [e, e2]
      simp only [usedF, List.map_cons, List.sum_cons] at this ⊢
      omega
theorem lenF_le (nm : Nm) (l : List Pf) : lenF nm l ≤ usedF l := by
  induction l with
  | nil => exact Nat.le_refl _
  | cons g r ih =>
    by_cases hg : g.nm = nm
    · simp [usedF, lenF, getF, hg]
    · have e2 : lenF nm (g :: r) = lenF nm r := by
        unfold lenF getF
        rw [List.find?_cons_of_neg (by simpa using hg)]
      rw [e2]
      simp only [usedF, List.map_cons, List.sum_cons] at ih ⊢
      omega

/-- Is it a name? -/
def nmByte (c : UInt8) : Bool := (decide (97 ≤ c.toNat) && decide (c.toNat ≤ 122)) || (decide (48 ≤ c.toNat) && decide (c.toNat ≤ 57)) || decide (c.toNat = 45) || decide (c.toNat = 46)
def isNm (s : Nm) : Bool := decide (1 ≤ s.length) && decide (s.length ≤ 32) && s.all nmByte

def armAt (k : Int) (l : List (Int × Tr)) : Option Tr := (l.find? (fun a => decide (a.1 = k))).map (·.2)
def okTr (t : Tr) : Bool := decide (1 ≤ t.when) && decide (t.when ≤ 4294967296) && (decide (t.kind = 2) || (decide (t.kind = 1) && !t.done))

/-- What a numbered call does. -/
def numb (s : St) (l : List Pf) : St × Int :=
  let arms := s.arms.filter (fun a => decide (a.1 ≠ ((s.n : Int) + 1)))
  match armAt ((s.n : Int) + 1) s.arms with
  | none => ({ s with n := s.n + 1, arms := arms, fs := l }, 0)
  | some t => if t.kind = 1 then ({ s with n := s.n + 1, arms := arms }, 64) else ({ s with n := s.n + 1, arms := arms, off := true, fs := if t.done then l else s.fs }, 63)

/-- What every disk keeps. -/
structure Inv (s : St) : Prop where
  sorted : Sorted s.fs
  names : ∀ f ∈ s.fs, isNm f.nm = true
  sy : ∀ f ∈ s.fs, f.sy ≤ f.bs.length
  used : usedF s.fs ≤ s.lim
  lim : 1 ≤ s.lim ∧ s.lim ≤ 1073741824
  count : s.fs.length ≤ 65536
  arms : ∀ a ∈ s.arms, okTr a.2 = true
  out : s.off = false → s.out = false
end Go.Proofs.YtbkbecjgphjpkabDoor
