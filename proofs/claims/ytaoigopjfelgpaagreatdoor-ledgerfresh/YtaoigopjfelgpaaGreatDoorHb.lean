/- Texts in one. -/
import Derived.Test.YtaoigopjfelgpaaGreatDoorLb
/- Who is seated is one list; plain. -/
namespace Go.Proofs.YtaoigopjfelgpaaGreatDoor
open Go.RowKit
set_option linter.unusedVariables false

/-- x is ahead of y. -/
def Better (x y : Ac) : Prop := y.bond < x.bond ∨ (x.bond = y.bond ∧ x.ad < y.ad)
theorem asc_ext : ∀ (L M : List Ac), Asc L → Asc M → (∀ x, x ∈ L ↔ x ∈ M) → L = M
  | [], [], _, _, _ => rfl
  | [], y :: M, _, _, h => by have := (h y).2 (by simp); cases this
  | x :: L, [], _, _, h => by have := (h x).1 (by simp); cases this
  | x :: L, y :: M, hL, hM, h => by
    obtain ⟨l1, l2⟩ := List.pairwise_cons.1 hL
    obtain ⟨m1, m2⟩ := List.pairwise_cons.1 hM
    have e : x = y := by
      have hx := (h x).1 (by simp)
      have hy := (h y).2 (by simp)
      rcases List.mem_cons.1 hx with q | q
      · exact q
      · rcases List.mem_cons.1 hy with r | r
        · exact r.symm
        · have := m1 x q
          have := l1 y r
          omega
    subst e
    rw [asc_ext L M l2 m2 (fun z => ⟨fun hz => ?_, fun hz => ?_⟩)]
    · rcases List.mem_cons.1 ((h z).1 (by simp [hz])) with q | q
      · have := l1 z hz; subst q; omega
      · exact q
    · rcases List.mem_cons.1 ((h z).2 (by simp [hz])) with q | q
      · have := m1 z hz; subst q; omega
      · exact q
theorem len_sub {A B : List Ac} (hA : A.Nodup) (hB : B.Nodup) (h : ∀ x ∈ A, x ∈ B) : A.length ≤ B.length := by
  classical
  have hp : A.Perm (B.filter (fun x => decide (x ∈ A))) := (List.perm_ext_iff_of_nodup hA (List.Nodup.sublist List.filter_sublist hB)).2 (fun x => by
    simp only [List.mem_filter, decide_eq_true_eq]
    exact ⟨fun q => ⟨h x q, q⟩, fun q => q.2⟩)
  rw [hp.length_eq]
  exact List.length_filter_le _ _
theorem Seated.sub {l L M : List Ac} {mb : Nat} {st : Int} (ha : Asc l) (hL : Seated l L mb st) (hM : Seated l M mb st) {x : Ac} (hx : x ∈ L) : x ∈ M := by
  refine Classical.byContradiction fun hn => ?_
  obtain ⟨g1, g2, g3, g4⟩ := hL.good x hx
  have hne : ∀ y ∈ M, y.ad ≠ x.ad := fun y hy e => hn (by
    have := ha.inj y (hM.good y hy).1 x g1 e
    rw [← this]; exact hy)
  obtain ⟨f1, f2⟩ := hM.out x g1 g2 g3 g4 hne
  have hle : L.length ≤ M.length := by
    have h1 := hL.few
    have h2 := hL.some (List.length_pos_of_mem hx)
    rcases f1 with q | q <;> omega
  obtain ⟨y, hyM, hyL⟩ : ∃ y ∈ M, y ∉ L := by
    refine Classical.byContradiction fun hno => ?_
    have h3 := len_sub (A := x :: M) (B := L) (List.nodup_cons.2 ⟨hn, hM.asc.nodup⟩) hL.asc.nodup (fun y hy => by
      rcases List.mem_cons.1 hy with q | q
      · rw [q]; exact hx
      · exact Classical.byContradiction fun r => hno ⟨y, q, r⟩)
    rw [List.length_cons] at h3
    omega
  obtain ⟨k1, k2, k3, k4⟩ := hM.good y hyM
  have hne' : ∀ z ∈ L, z.ad ≠ y.ad := fun z hz e => hyL (by
    have := ha.inj z (hL.good z hz).1 y k1 e
    rw [← this]; exact hz)
  obtain ⟨_, e2⟩ := hL.out y k1 k2 k3 k4 hne'
  have b1 := f2 y hyM
  have b2 := e2 x hx
  have hxy : x.ad ≠ y.ad := fun e => hne y hyM e.symm
  omega
theorem Seated.one {l L M : List Ac} {mb : Nat} {st : Int} (ha : Asc l) (hL : Seated l L mb st) (hM : Seated l M mb st) : L = M :=
  asc_ext L M hL.asc hM.asc (fun x => ⟨hL.sub ha hM, hM.sub ha hL⟩)
end Go.Proofs.YtaoigopjfelgpaaGreatDoor


/- The document's Seats, plain. -/
namespace Go.Proofs.YtaoigopjfelgpaaGreatDoor
open Go.RowKit
set_option linter.unusedVariables false

/-- Those of a list that are marked. -/
def sel : List Ac → List Bool → List Ac
  | m :: l, true :: t => m :: sel l t
  | _ :: l, false :: t => sel l t
  | _, _ => []
theorem mem_sel : ∀ (l : List Ac) (t : List Bool) (x : Ac), x ∈ sel l t ↔ ∃ i : Nat, l[i]? = some x ∧ t[i]? = some true
  | [], t, x => by simp [sel]
  | m :: l, [], x => by simp [sel]
  | m :: l, true :: t, x => by
    rw [sel, List.mem_cons, mem_sel l t x]
    constructor
    · rintro (rfl | ⟨i, h1, h2⟩)
      · exact ⟨0, by simp, by simp⟩
      · exact ⟨i + 1, by simpa using h1, by simpa using h2⟩
    · rintro ⟨i, h1, h2⟩
      cases i with
      | zero => left; simpa using h1.symm
      | succ i => right; exact ⟨i, by simpa using h1, by simpa using h2⟩
  | m :: l, false :: t, x => by
    rw [sel, mem_sel l t x]
    constructor
    · rintro ⟨i, h1, h2⟩
      exact ⟨i + 1, by simpa using h1, by simpa using h2⟩
    · rintro ⟨i, h1, h2⟩
      cases i with
      | zero => simp at h2
      | succ i => exact ⟨i, by simpa using h1, by simpa using h2⟩
theorem sel_sub : ∀ (l : List Ac) (t : List Bool), (sel l t).Sublist l
  | [], t => by simp [sel]
  | m :: l, [] => by simp [sel]
  | m :: l, true :: t => by rw [sel]; exact (sel_sub l t).cons_cons m
  | m :: l, false :: t => by rw [sel]; exact (sel_sub l t).cons m
theorem sel_asc {l : List Ac} (h : Asc l) (t : List Bool) : Asc (sel l t) := List.Pairwise.sublist (sel_sub l t) h
theorem sel_set : ∀ (l : List Ac) (t : List Bool) (i : Nat) (m : Ac), l[i]? = some m → t[i]? = some false → (sel l (t.set i true)).length = (sel l t).length + 1
  | m :: l, false :: t, 0, x, h1, h2 => by simp [sel]
  | m :: l, true :: t, 0, x, h1, h2 => by simp at h2
  | m :: l, true :: t, i + 1, x, h1, h2 => by
    have := sel_set l t i x (by simpa using h1) (by simpa using h2)
    simp only [List.set_cons_succ, sel, List.length_cons]
    omega
  | m :: l, false :: t, i + 1, x, h1, h2 => by
    have := sel_set l t i x (by simpa using h1) (by simpa using h2)
    simp only [List.set_cons_succ, sel]
    omega
theorem sel_take : ∀ (l : List Ac) (t : List Bool) (k : Nat) (m : Ac) (b : Bool), l[k]? = some m → t[k]? = some b → sel (l.take (k + 1)) (t.take (k + 1)) = sel (l.take k) (t.take k) ++ (if b then [m] else [])
  | m :: l, c :: t, 0, x, b, h1, h2 => by
    simp at h1 h2
    subst h1
    subst h2
    cases c <;> simp [sel]
  | m :: l, true :: t, k + 1, x, b, h1, h2 => by
    have := sel_take l t k x b (by simpa using h1) (by simpa using h2)
    simp only [List.take_succ_cons, sel, this, List.cons_append]
  | m :: l, false :: t, k + 1, x, b, h1, h2 => by
    have := sel_take l t k x b (by simpa using h1) (by simpa using h2)
    simp only [List.take_succ_cons, sel, this]
def El (mb : Nat) (m : Ac) : Prop := m.jail = false ∧ mb ≤ m.bond ∧ 0 < m.bond
/-- What is taken, behind so many rounds. -/
structure Tkn (mb : Nat) (l : List Ac) (t : List Bool) (k : Nat) : Prop where
  len : t.length = l.length
  num : (sel l t).length = k
  good : ∀ (i : Nat) m, l[i]? = some m → t[i]? = some true → El mb m
  best : ∀ (i : Nat) x (j : Nat) y, l[i]? = some x → t[i]? = some false → El mb x → l[j]? = some y → t[j]? = some true → ¬ Better x y
theorem sel_none : ∀ (l : List Ac), sel l (List.replicate l.length false) = []
  | [] => rfl
  | m :: l => by simp only [List.length_cons, List.replicate_succ, sel]; exact sel_none l
theorem Tkn.zero (mb : Nat) (l : List Ac) : Tkn mb l (List.replicate l.length false) 0 := by
  refine ⟨by simp, by rw [sel_none]; rfl, fun i m _ h => ?_, fun i x j y _ _ _ _ h => ?_⟩ <;>
  · rw [List.getElem?_replicate] at h
    split at h <;> simp at h
/-- The best one of those that were looked at. -/
def Bst (mb : Nat) (l : List Ac) (t : List Bool) (i : Nat) (b : Int) : Prop :=
  (b = -1 ∧ ∀ (j : Nat) m, j < i → l[j]? = some m → t[j]? = some false → ¬ El mb m) ∨
  (∃ (j : Nat) (m : Ac), b = j ∧ j < i ∧ l[j]? = some m ∧ t[j]? = some false ∧ El mb m ∧ ∀ (j' : Nat) m', j' < i → l[j']? = some m' → t[j']? = some false → El mb m' → (m'.bond < m.bond ∨ (m'.bond = m.bond ∧ j ≤ j')))
theorem Bst.zero (mb : Nat) (l : List Ac) (t : List Bool) : Bst mb l t 0 (-1) := Or.inl ⟨rfl, fun j m h => absurd h (Nat.not_lt_zero _)⟩
theorem Bst.skip {mb : Nat} {l : List Ac} {t : List Bool} {i : Nat} {b : Int} (h : Bst mb l t i b) {x : Ac} (hx : l[i]? = some x) (hq : t[i]? = some true ∨ ¬ El mb x ∨ ∃ (j : Nat) (m : Ac), b = j ∧ l[j]? = some m ∧ x.bond ≤ m.bond) : Bst mb l t (i + 1) b := by
  rcases h with ⟨e, h⟩ | ⟨j, m, e, hj, hm, ht, hE, hb⟩
  · refine Or.inl ⟨e, fun j m hj hm ht hE => ?_⟩
    rcases Nat.lt_or_ge j i with q | q
    · exact h j m q hm ht hE
    · have : j = i := by omega
      subst this
      rw [hx] at hm
      cases hm
      rcases hq with q | q | ⟨j', m', e', _⟩
      · rw [ht] at q; cases q
      · exact q hE
      · omega
  · refine Or.inr ⟨j, m, e, by omega, hm, ht, hE, fun j' m' hj' hm' ht' hE' => ?_⟩
    rcases Nat.lt_or_ge j' i with q | q
    · exact hb j' m' q hm' ht' hE'
    · have : j' = i := by omega
      subst this
      rw [hx] at hm'
      cases hm'
      rcases hq with q | q | ⟨j2, m2, e2, h2, hle⟩
      · rw [ht'] at q; cases q
      · exact absurd hE' q
      · have : j2 = j := by omega
        subst this
        rw [hm] at h2
        cases h2
        rcases Nat.lt_or_ge x.bond m.bond with r | r
        · exact Or.inl r
        · exact Or.inr ⟨by omega, by omega⟩
theorem Bst.take {mb : Nat} {l : List Ac} {t : List Bool} {i : Nat} {b : Int} (h : Bst mb l t i b) {x : Ac} (hx : l[i]? = some x) (ht : t[i]? = some false) (hE : El mb x) (hq : b = -1 ∨ ∃ (j : Nat) (m : Ac), b = j ∧ l[j]? = some m ∧ m.bond < x.bond) : Bst mb l t (i + 1) i := by
  refine Or.inr ⟨i, x, rfl, by omega, hx, ht, hE, fun j' m' hj' hm' ht' hE' => ?_⟩
  rcases Nat.lt_or_ge j' i with q | q
  · rcases h with ⟨e, h⟩ | ⟨j, m, e, hj, hm, _, _, hb⟩
    · exact absurd hE' (h j' m' q hm' ht')
    · rcases hq with r | ⟨j2, m2, e2, h2, hlt⟩
      · omega
      · have : j2 = j := by omega
        subst this
        rw [hm] at h2
        cases h2
        left
        rcases hb j' m' q hm' ht' hE' with s | s <;> omega
  · have : j' = i := by omega
    subst this
    rw [hx] at hm'
    cases hm'
    exact Or.inr ⟨rfl, Nat.le_refl _⟩
theorem Tkn.more {mb : Nat} {l : List Ac} (ha : Asc l) {t : List Bool} {k : Nat} (h : Tkn mb l t k) {j : Nat} {m : Ac} (hm : l[j]? = some m) (ht : t[j]? = some false) (hE : El mb m) (hb : ∀ (j' : Nat) m', j' < l.length → l[j']? = some m' → t[j']? = some false → El mb m' → (m'.bond < m.bond ∨ (m'.bond = m.bond ∧ j ≤ j'))) : Tkn mb l (t.set j true) (k + 1) := by
  have hjl : j < t.length := (List.getElem?_eq_some_iff.1 ht).1
  have hst : ∀ (i : Nat) b, (t.set j true)[i]? = some b → (i = j ∧ b = true) ∨ (i ≠ j ∧ t[i]? = some b) := fun i b hi => by
    rw [List.getElem?_set] at hi
    split at hi
    · rename_i e; subst e; simp at hi; exact Or.inl ⟨rfl, hi⟩
    · rename_i e; exact Or.inr ⟨fun q => e q.symm, hi⟩
  refine ⟨by rw [List.length_set]; exact h.len, by rw [sel_set l t j m hm ht, h.num], fun i x hx hi => ?_, fun i x i2 y hx hi hEx hy hi2 => ?_⟩
  · rcases hst i true hi with ⟨rfl, _⟩ | ⟨_, q⟩
    · rw [hm] at hx; cases hx; exact hE
    · exact h.good i x hx q
  · rcases hst i false hi with ⟨_, q⟩ | ⟨ne, q⟩
    · cases q
    · rcases hst i2 true hi2 with ⟨rfl, _⟩ | ⟨_, q2⟩
      · rw [hm] at hy
        cases hy
        intro hB
        rcases hb i x (List.getElem?_eq_some_iff.1 hx).1 hx q hEx with s | ⟨s1, s2⟩
        · unfold Better at hB; omega
        · have := ha.at (show i2 < i by omega) hm hx
          unfold Better at hB
          omega
      · exact h.best i x i2 y hx q hEx hy q2
theorem Tkn.seated {mb : Nat} {l : List Ac} (ha : Asc l) {t : List Bool} {k : Nat} {st : Int} (h : Tkn mb l t k) (h64 : k ≤ 64) (hst : 0 < k → (k : Int) ≤ st) (hend : (64 ≤ k ∨ st ≤ k) ∨ ∀ (j : Nat) m, l[j]? = some m → t[j]? = some false → ¬ El mb m) : Seated l (sel l t) mb st := by
  refine ⟨sel_asc ha t, fun y hy => ?_, by rw [h.num]; exact h64, by rw [h.num]; exact hst, fun x hx hj hb h0 hno => ?_⟩
  · obtain ⟨i, h1, h2⟩ := (mem_sel l t y).1 hy
    obtain ⟨g1, g2, g3⟩ := h.good i y h1 h2
    exact ⟨List.mem_of_getElem? h1, g1, g2, g3⟩
  · obtain ⟨i, hi, rfl⟩ := List.getElem_of_mem hx
    have hxi := List.getElem?_eq_getElem hi
    have hti : t[i]? = some false := by
      have hlt : i < t.length := by rw [h.len]; exact hi
      rw [List.getElem?_eq_getElem hlt]
      cases q : t[i] with
      | false => rfl
      | true => exact absurd rfl (hno _ ((mem_sel l t _).2 ⟨i, hxi, by rw [List.getElem?_eq_getElem hlt, q]⟩))
    rw [h.num]
    refine ⟨?_, fun y hy => ?_⟩
    · rcases hend with q | q
      · exact q
      · exact absurd ⟨hj, hb, h0⟩ (q i _ hxi hti)
    · obtain ⟨i2, h1, h2⟩ := (mem_sel l t y).1 hy
      exact h.best i _ i2 y hxi hti ⟨hj, hb, h0⟩ h1 h2
end Go.Proofs.YtaoigopjfelgpaaGreatDoor

