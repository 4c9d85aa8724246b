/- CodecReads, the row. -/
import Derived.Test.YtfjdojodbhmmaaaY12
import Derived.Test.YtfjdojodbhmmaaaOpenG
namespace Go.Proofs.Ytfjdojodbhmmaaa
open Go.ChangeShapes Go.WideShapes Go.ChangeAt Go.RowKit Go.Joins Go.Deep
set_option linter.unusedVariables false

section
variable {H : Type} {enc : TypeId × Value → H} {w : World} {base : Nat} {spare : Nat → Bool} {held : Bool}
theorem open_gets2 {n : Nat} {v : Value} {y : DataW H × List MemPlace} (h : DataW.trod enc Try.prog w base spare held n 39 [v] = some y) : ∃ gs, Gs w v gs ∧ ((y.1 = .nil ∧ gs = []) ∨ ∃ es sp, y.1 = .slice es sp ∧ es.length = gs.length) := by
  rcases open_slice Try.underlying39 h with ⟨hcs, hx⟩ | ⟨a, len, cap, m, n', D, Pl, hcs, _, hl, hm, hmm, hx, hel⟩
  · simp at hcs
    exact ⟨[], Or.inl ⟨hcs, rfl⟩, Or.inl ⟨by rw [hx], rfl⟩⟩
  · simp at hcs
    have hlm : len ≤ m := by rw [hmm]; split <;> omega
    have hex : ∀ i, i < len → ∃ g : Int × Int × Int, w.cell? (a.add (i * 3)) = some (.int .i64 g.1) ∧ w.cell? (a.add (i * 3 + 1)) = some (.int .i64 g.2.1) ∧ w.cell? (a.add (i * 3 + 2)) = some (.int .i64 g.2.2) ∧ g.2.1 < 9223372036854775808 ∧ g.2.2 < 9223372036854775808 := by
      intro i hi
      obtain ⟨cs', h1, h2⟩ := hel i (by omega)
      rw [Try.cells48] at h1
      obtain ⟨x, y, z, rfl, c0, c1, c2⟩ := three h1
      obtain ⟨y0, y1, y2, k, _, _, t0, t1, t2⟩ := trod_struct3 Try.underlying48 h2
      simp [Try.cells3] at t0 t1 t2
      obtain ⟨k0, e0, _, w0⟩ := DataW.trod_int Try.underlying3 t0
      obtain ⟨k1, e1, _, w1⟩ := DataW.trod_int Try.underlying3 t1
      obtain ⟨k2, e2, _, w2⟩ := DataW.trod_int Try.underlying3 t2
      simp at e0 e1 e2
      subst e0 e1 e2
      rw [add3] at c0 c1 c2
      have b1 := bounds_i64 w1
      have b2 := bounds_i64 w2
      exact ⟨(k0, k1, k2), by simpa using c0, c1, c2, by show k1 < _; omega, by show k2 < _; omega⟩
    obtain ⟨f, hf⟩ := choose_lt hex
    refine ⟨(List.range len).map f, Or.inr ⟨a, cap, by rw [hcs]; simp, by simpa using hl, hm, fun j g hg => ?_⟩, Or.inr ⟨_, _, by rw [hx], by simp⟩⟩
    rw [List.getElem?_map] at hg
    by_cases hj : j < len
    · rw [List.getElem?_range hj] at hg
      simp at hg
      rw [← hg]
      exact hf j hj
    · rw [List.getElem?_eq_none (by simpa using hj)] at hg
      cases hg
end
set_option maxRecDepth 100000 in
theorem reads_lifted (os : Os) (started : os.Started) (H : Type) (enc : TypeId × Value → H) :
    ReturnsInHanded {} Try.checked os 8 .any (Rows.codecReadsSpec.pre6 enc Try.prog Try.f8 Rows.codecReadsRow.domain false) (Rows.codecReadsSpec.post enc Try.prog Try.f8 false true false false) := by
  refine returnsInHanded_of_change_sized (C := Try.checked) own started (by kernel_rfl) Try.func8
    (ChangeSpec.witness6 (enc := enc) (C := Try.checked) false ⟨#[], #[.slice none 0 0, .slice none 0 0], []⟩ 8 (by kernel_rfl) (by kernel_rfl) (by kernel_rfl) (by kernel_rfl)) ?_
  intro W base args ds gs before hval0 hW hcnd hsz _
  have hval : ∀ (j : Nat) t v, Try.f8.params[j]? = some t → args[j]? = some v → Value.okWide Try.prog W .any base t v := hval0
  have hW' := hW
  obtain ⟨p, q, hA0, hV, rfl, hfz, hnd⟩ := hW
  have hA : DataW.TrodAll enc Try.prog W 0 (fun _ => true) true Try.f8.params.toList args.toList ds p := hA0
  rw [Try.params8] at hA hval hsz
  obtain ⟨v0, v1, d0, d1, p0, p1, rfl, rfl, rfl, h0, h1⟩ := trodAll_two hA
  obtain ⟨rfl, rfl⟩ := trodVars_none hV
  have k0 := h0
  have k1 := h1
  have lt0 : ∀ x ∈ p0, x.block < W.heap.size := by obtain ⟨m, hm⟩ := k0; exact DataW.trod_lt m _ _ _ hm
  have lt1 : ∀ x ∈ p1, x.block < W.heap.size := by obtain ⟨m, hm⟩ := k1; exact DataW.trod_lt m _ _ _ hm
  obtain ⟨a0, l0, c0, rfl⟩ := okWide_slice Try.underlying25 (hval 0 25 v0 rfl rfl)
  obtain ⟨a1, l1, c1, rfl⟩ := okWide_slice Try.underlying39 (hval 1 39 v1 rfl rfl)
  obtain ⟨m0, t0⟩ := h0
  obtain ⟨m1, t1⟩ := h1
  obtain ⟨bs, hb, hw⟩ := open_bytes (v := .slice a0 l0 c0) t0
  obtain ⟨ls, hl, hlw⟩ := open_gets2 (v := .slice a1 l1 c1) t1
  have hle : bs.length ≤ 140737488351232 := by
    rcases hw with ⟨_, rfl⟩ | ⟨es, sp, hy, hl⟩
    · simp
    · have hsz' : (DataW.weightsEach Try.prog [25, 39] [d0, d1]).all (· ≤ reachBytes) = true := hsz
      have := sized_slice hsz' (j := 0) (t := 25) (e := 5) (elems := es) (spare := sp) rfl (by rw [← hy]; rfl) Try.underlying25
      rw [Try.bytes5] at this
      simp [reachBytes] at this
      omega
  have hlL : ls.length ≤ 5864062014634 := by
    rcases hlw with ⟨_, rfl⟩ | ⟨es, sp, hy, hl2⟩
    · simp
    · have hsz' : (DataW.weightsEach Try.prog [25, 39] [d0, d1]).all (· ≤ reachBytes) = true := hsz
      have := sized_slice hsz' (j := 1) (t := 39) (e := 48) (elems := es) (spare := sp) rfl (by rw [← hy]; rfl) Try.underlying39
      rw [Try.bytes48] at this
      simp [reachBytes] at this
      omega
  have hll : l1 = ls.length := by obtain ⟨x, y, e⟩ := hl.slice; cases e; rfl
  subst hll
  clear hA0 hval0
  refine (reads8 W _ bs hb a1 c1 ls hl hle hlL).mono fun e W' ⟨he, tt⟩ => ?_
  subst he
  have bel := tt.below
  exact ⟨_, rfl, _, _, _, [], _, [], hW', trodAll_mk1 (shut_bool Try.underlying4 _), (trodAll_mk2 (Below.trod laidOut (by kernel_rfl) (of_decide_eq_true (by kernel_rfl)) k0 bel lt0) (Below.trod laidOut (by kernel_rfl) (of_decide_eq_true (by kernel_rfl)) k1 bel lt1)), rfl, bel.frame _, fun h => by cases h⟩

theorem reads_holds : Rows.CodecReadsSaid :=
  OpenClaim.holds_of_wide 8 Try.f8 rfl rfl rfl rfl rfl rfl rfl ⟨rfl, rfl, rfl, rfl, rfl⟩ rfl rfl rfl rfl rfl (by kernel_rfl) Try.func8 (by kernel_rfl)
    (of_decide_eq_true (by kernel_rfl)) (by unfold Func.isWrapper; first | (rw [if_pos (by decide +kernel)]; kernel_rfl) | (rw [if_neg (by decide +kernel)]; exact ⟨rfl, rfl⟩))
    (fun os started H enc _ => reads_lifted os started H enc)
#print axioms reads_holds
end Go.Proofs.Ytfjdojodbhmmaaa
