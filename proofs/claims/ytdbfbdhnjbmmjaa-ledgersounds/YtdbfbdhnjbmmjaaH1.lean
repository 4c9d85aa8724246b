/- Who is seated is one list; plain. -/
import Derived.Test.YtdbfbdhnjbmmjaaE0
namespace Go.Proofs.Ytdbfbdhnjbmmjaa
open Go.RowKit
set_option linter.unusedVariables false

/-- x is ahead of y. -/
def Better (x y : Ac) : Prop := y.bond < x.bond ∨ (x.bond = y.bond ∧ x.ad < y.ad)
theorem asc_ext : ∀ (L M : List Ac), Asc L → Asc M → (∀ x, x ∈ L ↔ x ∈ M) → L = M
  | [], [], _, _, _ => rfl
  | [], y :: M, _, _, h => by have := (h y).2 (by simp); cases this
  | x :: L, [], _, _, h => by have := (h x).1 (by simp); cases this
  | x :: L, y :: M, hL, hM, h => by
    obtain ⟨l1, l2⟩ := List.pairwise_cons.1 hL
    obtain ⟨m1, m2⟩ := List.pairwise_cons.1 hM
    have e : x = y := by
      have hx := (h x).1 (by simp)
      have hy := (h y).2 (by simp)
      rcases List.mem_cons.1 hx with q | q
      · exact q
      · rcases List.mem_cons.1 hy with r | r
        · exact r.symm
        · have := m1 x q
          have := l1 y r
          omega
    subst e
    rw [asc_ext L M l2 m2 (fun z => ⟨fun hz => ?_, fun hz => ?_⟩)]
    · rcases List.mem_cons.1 ((h z).1 (by simp [hz])) with q | q
      · have := l1 z hz; subst q; omega
      · exact q
    · rcases List.mem_cons.1 ((h z).2 (by simp [hz])) with q | q
      · have := m1 z hz; subst q; omega
      · exact q
theorem len_sub {A B : List Ac} (hA : A.Nodup) (hB : B.Nodup) (h : ∀ x ∈ A, x ∈ B) : A.length ≤ B.length := by
  classical
  have hp : A.Perm (B.filter (fun x => decide (x ∈ A))) := (List.perm_ext_iff_of_nodup hA (List.Nodup.sublist List.filter_sublist hB)).2 (fun x => by
    simp only [List.mem_filter, decide_eq_true_eq]
    exact ⟨fun q => ⟨h x q, q⟩, fun q => q.2⟩)
  rw [hp.length_eq]
  exact List.length_filter_le _ _
theorem Seated.sub {l L M : List Ac} {mb : Nat} {st : Int} (ha : Asc l) (hL : Seated l L mb st) (hM : Seated l M mb st) {x : Ac} (hx : x ∈ L) : x ∈ M := by
  refine Classical.byContradiction fun hn => ?_
  obtain ⟨g1, g2, g3, g4⟩ := hL.good x hx
  have hne : ∀ y ∈ M, y.ad ≠ x.ad := fun y hy e => hn (by
    have := ha.inj y (hM.good y hy).1 x g1 e
    rw [← this]; exact hy)
  obtain ⟨f1, f2⟩ := hM.out x g1 g2 g3 g4 hne
  have hle : L.length ≤ M.length := by
    have h1 := hL.few
    have h2 := hL.some (List.length_pos_of_mem hx)
    rcases f1 with q | q <;> omega
  obtain ⟨y, hyM, hyL⟩ : ∃ y ∈ M, y ∉ L := by
    refine Classical.byContradiction fun hno => ?_
    have h3 := len_sub (A := x :: M) (B := L) (List.nodup_cons.2 ⟨hn, hM.asc.nodup⟩) hL.asc.nodup (fun y hy => by
      rcases List.mem_cons.1 hy with q | q
      · rw [q]; exact hx
      · exact Classical.byContradiction fun r => hno ⟨y, q, r⟩)
    rw [List.length_cons] at h3
    omega
  obtain ⟨k1, k2, k3, k4⟩ := hM.good y hyM
  have hne' : ∀ z ∈ L, z.ad ≠ y.ad := fun z hz e => hyL (by
    have := ha.inj z (hL.good z hz).1 y k1 e
    rw [← this]; exact hz)
  obtain ⟨_, e2⟩ := hL.out y k1 k2 k3 k4 hne'
  have b1 := f2 y hyM
  have b2 := e2 x hx
  have hxy : x.ad ≠ y.ad := fun e => hne y hyM e.symm
  omega
theorem Seated.one {l L M : List Ac} {mb : Nat} {st : Int} (ha : Asc l) (hL : Seated l L mb st) (hM : Seated l M mb st) : L = M :=
  asc_ext L M hL.asc hM.asc (fun x => ⟨hL.sub ha hM, hM.sub ha hL⟩)
end Go.Proofs.Ytdbfbdhnjbmmjaa
