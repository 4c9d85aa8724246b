/- What a law's disk is made of, read. -/
import Derived.Test.YtcdogciacchigabOpen
import Derived.Test.YtcdogciacchigabI2
namespace Go.Proofs.Ytcdogciacchigab
open Go.ChangeShapes Go.WideShapes Go.ChangeAt Go.RowKit Go.Joins Go.Deep
set_option linter.unusedVariables false
section
variable {H : Type} {enc : TypeId × Value → H} {w : World} {base : Nat} {spare : Nat → Bool} {held : Bool}
theorem open_file {n : Nat} {L : List Value} {y : DataW H × List MemPlace} (h : DataW.trod enc Try.prog w base spare held n 66 L = some y) : ∃ f : Fx, L = [strV f.nm, f.vb] ∧ f.nm.length ≤ maxLen ∧ Bs w f.vb f.bs ∧ (f.bs ≠ [] → ∀ g, f.vb.ownBlock = some g → g < w.heap.size) := by
  obtain ⟨xs, m, _, _, hlen, hn, hel⟩ := DataW.trod_struct Try.underlying66 h
  rw [cells41] at hlen
  have hx : ∀ i, i < 2 → ∃ x, xs[i]? = some x := fun i hi => ⟨xs[i]'(by rw [hn]; exact hi), List.getElem?_eq_getElem _⟩
  obtain ⟨x0, e0⟩ := hx 0 (by omega)
  obtain ⟨x1, e1⟩ := hx 1 (by omega)
  have h0 : DataW.trod enc Try.prog w base spare held m 9 ((L.drop 0).take (Try.prog.cellsOf 9)) = some x0 := (hel 0 _ rfl).trans e0
  have h1 : DataW.trod enc Try.prog w base spare held m 28 ((L.drop 1).take (Try.prog.cellsOf 28)) = some x1 := (hel 1 _ rfl).trans e1
  rw [cells9, one_drop (by omega)] at h0
  rw [cells31, one_drop (by omega)] at h1
  obtain ⟨s, es, hs⟩ := open_str h0
  obtain ⟨bs, hb, hbo⟩ := open_bytes h1
  refine ⟨⟨s, L[1], bs⟩, ?_, hs, hb, fun hne g hg => ?_⟩
  · apply List.ext_getElem?
    intro j
    match j with
    | 0 =>
      have : L[0]? = some L[0] := List.getElem?_eq_getElem (by omega)
      rw [this, es]; rfl
    | 1 => simp [show 1 < L.length by omega]
    | j + 2 => rw [List.getElem?_eq_none (by omega), List.getElem?_eq_none (by simp)]
  · rcases hbo with q | q
    · exact (hne q).elim
    · exact q g hg
set_option maxRecDepth 100000 in
theorem open_files {n : Nat} {v : Value} {y : DataW H × List MemPlace} (h : DataW.trod enc Try.prog w base spare held n 22 [v] = some y) : ∃ a cap l, v = .slice a l.length cap ∧ Fs w.heap.size w a cap l := by
  rcases open_slice Try.underlying22 h with ⟨hcs, _⟩ | ⟨a, len, cap, m, n', D, Pl, hcs, _, hl, hm, hmm, hx, hel⟩
  · simp at hcs
    exact ⟨none, 0, [], hcs, by simp, by simp [maxLen], (fun f hf => by cases hf), fun j f hj => by simp at hj⟩
  · simp at hcs
    have hlm : len ≤ m := by rw [hmm]; split <;> omega
    have hspot : 0 < len → ∃ b off, a = ⟨b, off, none⟩ := fun h0 => by
      obtain ⟨cs', h1, h2⟩ := hel 0 (by omega)
      rw [cells41] at h1
      obtain ⟨_, hl', hc⟩ := World.cells?_some h1
      obtain ⟨b, off, spot⟩ := a
      have hc0 := World.cell?_spot ((hc 0 (by omega)).trans (List.getElem?_eq_getElem (by omega)))
      have hs : spot = none := by simpa [Addr.add] using hc0
      subst hs
      exact ⟨b, off, rfl⟩
    have hex : ∀ i, i < len → ∃ f : Fx, (f.nm.length ≤ maxLen ∧ Bs w f.vb f.bs ∧ (f.bs ≠ [] → ∀ g, f.vb.ownBlock = some g → g < w.heap.size)) ∧ ∃ b off, a = ⟨b, off, none⟩ ∧ b < w.heap.size ∧ w.cell? ⟨b, off + i * 2, none⟩ = some (strV f.nm) ∧ w.cell? ⟨b, off + i * 2 + 1, none⟩ = some f.vb := by
      intro i hi
      obtain ⟨cs', h1, h2⟩ := hel i (by omega)
      rw [cells41] at h1
      obtain ⟨f, rfl, hO⟩ := open_file h2
      obtain ⟨_, hl', hc⟩ := World.cells?_some h1
      obtain ⟨b, off, rfl⟩ := hspot (by omega)
      have d0 : w.cell? ⟨b, off + i * 2, none⟩ = some (strV f.nm) := by
        have := hc 0 (by omega)
        rw [add3, Addr.add_lit] at this
        simpa using this
      have d1 : w.cell? ⟨b, off + i * 2 + 1, none⟩ = some f.vb := by
        have := hc 1 (by omega)
        rw [add3, Addr.add_lit] at this
        simpa [Nat.add_assoc] using this
      exact ⟨f, hO, b, off, rfl, World.block_lt_of_cell? w _ d0, d0, d1⟩
    haveI : Inhabited Fx := ⟨⟨[], .slice none 0 0, []⟩⟩
    obtain ⟨f, hf⟩ := choose_ltT hex
    refine ⟨some a, cap, (List.range len).map f, by rw [hcs]; simp, by simpa using hl, hm, fun g hg => ?_, fun j g hg => ?_⟩
    · obtain ⟨i, hi, rfl⟩ := List.mem_map.1 hg
      exact (hf i (by simpa using hi)).1
    · rw [List.getElem?_map] at hg
      by_cases hj : j < len
      · rw [List.getElem?_range hj] at hg
        simp at hg
        rw [← hg]
        obtain ⟨_, b, off, rfl, r⟩ := hf j hj
        exact ⟨b, off, rfl, r⟩
      · rw [List.getElem?_eq_none (by simpa using hj)] at hg
        cases hg
theorem open_made {n : Nat} {L : List Value} {y : DataW H × List MemPlace} (h : DataW.trod enc Try.prog w base spare held n 26 L = some y) : ∃ m a cap, L = (mxC m a cap).toList ∧ Fs w.heap.size w a cap m.l := by
  obtain ⟨xs, k, _, _, hlen, hn, hel⟩ := DataW.trod_struct Try.underlying26 h
  rw [cells52] at hlen
  have hx : ∀ i, i < 3 → ∃ x, xs[i]? = some x := fun i hi => ⟨xs[i]'(by rw [hn]; exact hi), List.getElem?_eq_getElem _⟩
  obtain ⟨x0, e0⟩ := hx 0 (by omega)
  obtain ⟨x1, e1⟩ := hx 1 (by omega)
  obtain ⟨x2, e2⟩ := hx 2 (by omega)
  have h0 : DataW.trod enc Try.prog w base spare held k 3 ((L.drop 0).take (Try.prog.cellsOf 3)) = some x0 := (hel 0 _ rfl).trans e0
  have h1 : DataW.trod enc Try.prog w base spare held k 4 ((L.drop 1).take (Try.prog.cellsOf 4)) = some x1 := (hel 1 _ rfl).trans e1
  have h2 : DataW.trod enc Try.prog w base spare held k 24 ((L.drop 2).take (Try.prog.cellsOf 24)) = some x2 := (hel 2 _ rfl).trans e2
  rw [cells3] at h0
  rw [cells4] at h1
  rw [cells36, one_drop (by omega)] at h2
  obtain ⟨k0, c0, _, w0⟩ := DataW.trod_int Try.underlying3 h0
  obtain ⟨k1, c1, _⟩ := DataW.trod_bool Try.underlying4 h1
  obtain ⟨ys, k', _, _, hlen2, hn2, hel2⟩ := DataW.trod_struct Try.underlying24 h2
  obtain ⟨z0, f0⟩ : ∃ z, ys[0]? = some z := ⟨ys[0]'(by rw [hn2]; decide), List.getElem?_eq_getElem _⟩
  have h3 : DataW.trod enc Try.prog w base spare held k' 22 (([L[2]].drop 0).take (Try.prog.cellsOf 22)) = some z0 := (hel2 0 _ rfl).trans f0
  rw [cells34] at h3
  obtain ⟨a, cap, l, ev, hF⟩ := open_files (v := L[2]) (by simpa using h3)
  refine ⟨⟨k0, k1, l⟩, a, cap, ?_, hF⟩
  have d0 := cut1 c0
  have d1 := cut1 c1
  apply List.ext_getElem?
  intro j
  match j with
  | 0 => simpa [mxC] using d0
  | 1 => simpa [mxC] using d1
  | 2 =>
    have : L[2]? = some L[2] := List.getElem?_eq_getElem (by omega)
    rw [this, ev]; simp [mxC]
  | j + 3 => rw [List.getElem?_eq_none (by omega), List.getElem?_eq_none (by simp [mxC])]
end
end Go.Proofs.Ytcdogciacchigab
