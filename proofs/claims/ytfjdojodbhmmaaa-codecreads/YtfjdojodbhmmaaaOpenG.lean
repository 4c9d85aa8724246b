/- A list of reads, its reading opened. -/
import Derived.Test.YtfjdojodbhmmaaaOpen
import Derived.Test.YtfjdojodbhmmaaaW14
import Derived.Deep.Slices
import Derived.Deep.Strs
namespace Go.Proofs.Ytfjdojodbhmmaaa
open Go.ChangeShapes Go.WideShapes Go.ChangeAt Go.RowKit Go.Joins Go.Deep
set_option linter.unusedVariables false

theorem Try.cells3 : Try.prog.cellsOf 3 = 1 := by kernel_rfl
theorem Try.bytes48 : Try.prog.bytesOf 48 = 24 := by kernel_rfl

theorem add3 (a : Addr) (l j : Nat) : (a.add l).add j = a.add (l + j) := by
  obtain ⟨b, o, s⟩ := a
  unfold Addr.add
  by_cases hl : l = 0
  · subst hl; simp
  · by_cases hj : j = 0
    · subst hj; simp [hl]
    · simp [hl, hj, Nat.add_assoc]

section
variable {H : Type} {enc : TypeId × Value → H} {w : World} {base : Nat} {spare : Nat → Bool} {held : Bool}

theorem three {w : World} {a : Addr} {cs : List Value} (h : w.cells? base a 3 = some cs) : ∃ x y z, cs = [x, y, z] ∧ w.cell? (a.add 0) = some x ∧ w.cell? (a.add 1) = some y ∧ w.cell? (a.add 2) = some z := by
  have h1 := World.cells?_some h
  obtain ⟨_, hl, hc⟩ := h1
  match cs, hl with
  | [x, y, z], _ => exact ⟨x, y, z, rfl, hc 0 (by omega), hc 1 (by omega), hc 2 (by omega)⟩

theorem open_gets {n : Nat} {v : Value} {y : DataW H × List MemPlace} (h : DataW.trod enc Try.prog w base spare held n 39 [v] = some y) : ∃ gs, Gs w v gs := by
  rcases open_slice Try.underlying39 h with ⟨hcs, _⟩ | ⟨a, len, cap, m, n', D, Pl, hcs, _, hl, hm, hmm, _, hel⟩
  · simp at hcs
    exact ⟨[], Or.inl ⟨hcs, rfl⟩⟩
  · simp at hcs
    have hlm : len ≤ m := by rw [hmm]; split <;> omega
    have hex : ∀ i, i < len → ∃ g : Int × Int × Int, w.cell? (a.add (i * 3)) = some (.int .i64 g.1) ∧ w.cell? (a.add (i * 3 + 1)) = some (.int .i64 g.2.1) ∧ w.cell? (a.add (i * 3 + 2)) = some (.int .i64 g.2.2) ∧ g.2.1 < 9223372036854775808 ∧ g.2.2 < 9223372036854775808 := by
      intro i hi
      obtain ⟨cs', h1, h2⟩ := hel i (by omega)
      rw [Try.cells48] at h1
      obtain ⟨x, y, z, rfl, c0, c1, c2⟩ := three h1
      obtain ⟨y0, y1, y2, k, _, _, t0, t1, t2⟩ := trod_struct3 Try.underlying48 h2
      simp [Try.cells3] at t0 t1 t2
      obtain ⟨k0, e0, _, w0⟩ := DataW.trod_int Try.underlying3 t0
      obtain ⟨k1, e1, _, w1⟩ := DataW.trod_int Try.underlying3 t1
      obtain ⟨k2, e2, _, w2⟩ := DataW.trod_int Try.underlying3 t2
      simp at e0 e1 e2
      subst e0 e1 e2
      rw [add3] at c0 c1 c2
      have b1 := bounds_i64 w1
      have b2 := bounds_i64 w2
      exact ⟨(k0, k1, k2), by simpa using c0, c1, c2, by show k1 < _; omega, by show k2 < _; omega⟩
    obtain ⟨f, hf⟩ := choose_lt hex
    refine ⟨(List.range len).map f, Or.inr ⟨a, cap, by rw [hcs]; simp, by simpa using hl, hm, fun j g hg => ?_⟩⟩
    rw [List.getElem?_map] at hg
    by_cases hj : j < len
    · rw [List.getElem?_range hj] at hg
      simp at hg
      rw [← hg]
      exact hf j hj
    · rw [List.getElem?_eq_none (by simpa using hj)] at hg
      cases hg
end
end Go.Proofs.Ytfjdojodbhmmaaa
