/- DiskSynced: the book of what is safe. -/
import Derived.Test.YtcdogciacchigaaV2
namespace Go.Proofs.Ytcdogciacchigaa
open Go.RowKit Go.Maps
set_option linter.unusedVariables false

/-- A row of the book. -/
structure Sf where
  nm : Nm
  bs : List UInt8
  op : Bool

def slC (l : List Sf) (vs : List Value) : List Value := (l.zip vs).flatMap (fun x => [strV x.1.nm, x.2, .bool x.1.op])
theorem slC_snoc (l : List Sf) (vs : List Value) (f : Sf) (u : Value) (h : vs.length = l.length) : slC (l ++ [f]) (vs ++ [u]) = slC l vs ++ [strV f.nm, u, .bool f.op] := by
  unfold slC
  rw [List.zip_append h.symm, List.flatMap_append]
  rfl
theorem slC_at (l : List Sf) (vs : List Value) (h : vs.length = l.length) (j : Nat) (f : Sf) (u : Value) (hf : l[j]? = some f) (hu : vs[j]? = some u) : (slC l vs)[j * 3]? = some (strV f.nm) ∧ (slC l vs)[j * 3 + 1]? = some u ∧ (slC l vs)[j * 3 + 2]? = some (.bool f.op) := by
  induction l generalizing vs j with
  | nil => simp at hf
  | cons g r ih =>
    cases vs with
    | nil => simp at h
    | cons x us =>
      cases j with
      | zero =>
        simp at hf hu
        subst hf hu
        simp [slC]
      | succ j =>
        have := ih us (by simpa using h) j (by simpa using hf) (by simpa using hu)
        have e : slC (g :: r) (x :: us) = strV g.nm :: x :: .bool g.op :: slC r us := by simp [slC]
        rw [e]
        have e1 : (j + 1) * 3 = ((j * 3 + 1) + 1) + 1 := by omega
        have e2 : (j + 1) * 3 + 1 = (((j * 3 + 1) + 1) + 1) + 1 := by omega
        have e3 : (j + 1) * 3 + 2 = (((j * 3 + 2) + 1) + 1) + 1 := by omega
        rw [e2, e3, e1]
        simp only [List.getElem?_cons_succ]
        exact this
/-- The book, in blocks that R says. -/
def Sl (R : Nat → Prop) (w : World) (v : Value) (l : List Sf) : Prop :=
  ∃ vs, vs.length = l.length ∧ OwnN w 63 3 v l.length (slC l vs) ∧ (∀ g, v.ownBlock = some g → R g) ∧ ∀ (j : Nat) (f : Sf) (u : Value), l[j]? = some f → vs[j]? = some u → Own w 5 u (f.bs.map bv) ∧ ∀ g, u.ownBlock = some g → R g
theorem Sl.nil (R : Nat → Prop) (w : World) : Sl R w (.slice none 0 0) [] := ⟨[], rfl, OwnN.nil w 63 3, (fun g hg => by cases hg), fun j f u hf => by simp at hf⟩
theorem Sl.mono {R R' : Nat → Prop} {w : World} {v : Value} {l : List Sf} (h : Sl R w v l) (hR : ∀ k, R k → R' k) : Sl R' w v l := by
  obtain ⟨vs, h1, h2, h3, h4⟩ := h
  exact ⟨vs, h1, h2, fun g hg => hR g (h3 g hg), fun j f u hf hu => ⟨(h4 j f u hf hu).1, fun g hg => hR g ((h4 j f u hf hu).2 g hg)⟩⟩
theorem Sl.turn {R S : Nat → Prop} {w w' : World} {v : Value} {l : List Sf} (h : Sl R w v l) (t : Turn S w w') (hS : ∀ k, R k → ¬ S k) : Sl R w' v l := by
  obtain ⟨vs, h1, h2, h3, h4⟩ := h
  refine ⟨vs, h1, h2.turn t (fun g hg q => hS g (h3 g hg) q), h3, fun j f u hf hu => ?_⟩
  obtain ⟨a, b⟩ := h4 j f u hf hu
  exact ⟨a.turn t (fun g hg q => hS g (b g hg) q), b⟩
theorem Sl.turn_no {R : Nat → Prop} {w w' : World} {v : Value} {l : List Sf} (h : Sl R w v l) (t : Turn no w w') : Sl R w' v l := h.turn t (fun _ _ q => q)
theorem Sl.slice {R : Nat → Prop} {w : World} {v : Value} {l : List Sf} (h : Sl R w v l) : ∃ a c, v = .slice a l.length c := by
  obtain ⟨vs, _, h2, _⟩ := h
  rcases h2.2 with ⟨e, q⟩ | ⟨g, cap, cur, e, _⟩
  · exact ⟨none, 0, by rw [e, q]⟩
  · exact ⟨_, _, e⟩
theorem Sl.at {R : Nat → Prop} {w : World} {v : Value} {l : List Sf} (h : Sl R w v l) (i : Nat) (f : Sf) (hf : l[i]? = some f) : ∃ g c a c', v = .slice (some ⟨g, 0, none⟩) l.length c ∧ w.cell? ⟨g, i * 3, none⟩ = some (strV f.nm) ∧ w.cell? ⟨g, i * 3 + 1, none⟩ = some (.slice a f.bs.length c') ∧ w.cell? ⟨g, i * 3 + 2, none⟩ = some (.bool f.op) ∧ Own w 5 (.slice a f.bs.length c') (f.bs.map bv) ∧ ∀ g, (Value.slice a f.bs.length c').ownBlock = some g → R g := by
  obtain ⟨vs, h1, h2, h3, h4⟩ := h
  have hil := (List.getElem?_eq_some_iff.1 hf).1
  obtain ⟨u, hu⟩ : ∃ u, vs[i]? = some u := ⟨vs[i]'(by omega), List.getElem?_eq_getElem _⟩
  obtain ⟨hO, hR⟩ := h4 i f u hf hu
  obtain ⟨a, c', rfl⟩ := hO.bs.slice
  obtain ⟨e0, e1, e2⟩ := slC_at l vs h1 i f _ hf hu
  rcases h2.2 with ⟨_, q⟩ | ⟨g, cap, cur, rfl, _⟩
  · omega
  · have hc : ∀ j x, (slC l vs)[j]? = some x → w.cell? ⟨g, j, none⟩ = some x := fun j x hx => by
      have := World.ownsRow.cells h2 (g := g) rfl j x hx
      simpa [Addr.add_lit] using this
    exact ⟨g, cap, a, c', rfl, hc _ _ e0, hc _ _ e1, hc _ _ e2, hO, hR⟩
theorem info63 : (Try.prog.info? 63).map (fun i => (i.zero, i.size, i.bytes)) = some (some (.agg #[.string ⟨#[]⟩, .slice none 0 0, .bool false]), 3, 48) := by kernel_rfl
theorem Sl.push {R : Nat → Prop} {W : World} {iw : Value} {l : List Sf} (h : Sl R W iw l) (hl : (l.length + 1) * 48 ≤ 140737488355328) (f : Sf) (u : Value) (hu : Own W 5 u (f.bs.map bv)) (hub : ∀ g, u.ownBlock = some g → R g) (x : Value) (hx : Src Try.prog 3 56 x 1 [strV f.nm, u, .bool f.op] W) :
    ∃ iw' w', (∀ ty, (Builtin.append_ #[56, 56] ty #[iw, x]).run Try.prog W = .ok iw' w') ∧ Sl (fun k => R k ∨ (W.heap.size ≤ k ∧ k < w'.heap.size)) w' iw' (l ++ [f]) ∧ Grew W w' iw iw' := by
  obtain ⟨vs, h1, h2, h3, h4⟩ := h
  obtain ⟨iw', w', hr, ho, hg⟩ := run_append_srcN (P := Try.prog) (t := 56) (tx := 56) Try.underlying56 info63 rfl (by omega) 56 W iw l.length (slC l vs) h2 x 1 [strV f.nm, u, .bool f.op] hx (by omega) (by simp only [maxLen]; omega)
  have hT := hg.turn
  have hne : ∀ {y xs}, Own W 5 y xs → ∀ g, y.ownBlock = some g → iw.ownBlock ≠ some g := fun hy g hg' q => by
    obtain ⟨c1, e1⟩ := hy.obj hg'
    obtain ⟨c2, e2⟩ := h2.obj q
    exact absurd (tag_ne e1 e2) (by decide)
  refine ⟨iw', w', fun ty => hr, ⟨vs ++ [u], by simp [h1], ?_, fun g q => ?_, fun j f' y hf hy => ?_⟩, hg⟩
  · rw [slC_snoc l vs f u h1]
    simpa using ho
  · rcases hg.blk with e | ⟨g', e, e1, e2⟩
    · exact Or.inl (h3 g (by rw [← e]; exact q))
    · rw [e] at q; cases q; exact Or.inr ⟨e1, e2⟩
  · by_cases hj : j < l.length
    · rw [List.getElem?_append_left hj] at hf
      rw [List.getElem?_append_left (by omega)] at hy
      obtain ⟨a, b⟩ := h4 j f' y hf hy
      exact ⟨a.turn hT (fun g hg' q => hne a g hg' q), fun g hg' => Or.inl (b g hg')⟩
    · have hj2 : j = l.length := by
        have := (List.getElem?_eq_some_iff.1 hf).1
        simp at this
        omega
      subst hj2
      rw [List.getElem?_append_right (Nat.le_refl _)] at hf
      rw [List.getElem?_append_right (by omega), h1] at hy
      simp at hf hy
      subst hf hy
      exact ⟨hu.turn hT (fun g hg' q => hne hu g hg' q), fun g hg' => Or.inl (hub g hg')⟩
theorem src_sl (w : World) (nm : Nm) (u : Value) (op : Bool) (hu : u.oneCell' = true) : Src Try.prog 3 56 (.slice (some ⟨w.heap.size, 0, none⟩) 1 1) 1 [strV nm, u, .bool op] (w.alloc (.cells #[strV nm, u, .bool op] 63)) :=
  Src.ofSlice _ Try.underlying56 _ _ _ _ rfl (fun j x hx => by
    have := (Row.new w #[strV nm, u, .bool op] 63).cell j x (by simpa using hx)
    simpa [Addr.add_lit] using this) (fun x hx => by
    simp at hx
    rcases hx with rfl | rfl | rfl
    · rfl
    · exact hu
    · rfl)
end Go.Proofs.Ytcdogciacchigaa
