/- A log, its disk and the law's lists, all at once. -/
import Derived.Test.YtbkbecjgphjpkabDoorG6
namespace Go.Proofs.YtbkbecjgphjpkabDoor
open Go.RowKit Go.Maps
set_option linter.unusedVariables false

abbrev It := Value × List UInt8
theorem own_ne {w : World} {e e' : TypeId} {v v' : Value} {xs xs' : List Value} (h : Own w e v xs) (h' : Own w e' v' xs') (he : e ≠ e') : ∀ g, v.ownBlock = some g → ¬ (v'.ownBlock = some g) := by
  intro g hg hg'
  rcases h.shape with ⟨rfl, _⟩ | ⟨g1, cap, cur, rfl, q, _⟩
  · cases hg
  · rcases h'.shape with ⟨rfl, _⟩ | ⟨g2, cap', cur', rfl, q', _⟩
    · cases hg'
    · cases hg
      cases hg'
      rw [q] at q'
      cases q'
      exact he rfl
/-- A list of byte lists of the law's own. -/
structure Hr (w : World) (v : Value) (ts : List It) : Prop where
  own : Own w 55 v (ts.map (·.1))
  els : ∀ t ∈ ts, Own w 5 t.1 (t.2.map bv)
def hfoot (v : Value) (ts : List It) : Nat → Prop := fun k => v.ownBlock = some k ∨ ∃ t ∈ ts, t.1.ownBlock = some k
theorem Hr.nil (w : World) : Hr w (.slice none 0 0) [] := ⟨Own.nil w 55, fun t h => by cases h⟩
theorem Hr.turn {S : Nat → Prop} {w w' : World} {v : Value} {ts : List It} (h : Hr w v ts) (t : Turn S w w') (hn : ∀ k, hfoot v ts k → ¬ S k) : Hr w' v ts :=
  ⟨h.own.turn t (fun k q => hn k (Or.inl q)), fun x hx => (h.els x hx).turn t (fun k q => hn k (Or.inr ⟨x, hx, q⟩))⟩
theorem Hr.turn_no {w w' : World} {v : Value} {ts : List It} (h : Hr w v ts) (t : Turn no w w') : Hr w' v ts := h.turn t (fun _ _ q => q)
theorem Hr.lt {w : World} {v : Value} {ts : List It} (h : Hr w v ts) : ∀ k, hfoot v ts k → k < w.heap.size := by
  rintro k (q | ⟨t, ht, q⟩)
  · exact h.own.lt q
  · exact (h.els t ht).lt q
theorem Hr.bl {w : World} {v : Value} {ts : List It} (h : Hr w v ts) : Bl w v ts := Own.bl h.own (fun t ht => (h.els t ht).bs)
theorem Hr.push {w w1 w2 : World} {v v' u : Value} {ts : List It} {r : List UInt8} (h : Hr w v ts) (t : Turn no w w1) (hu : Own w1 5 u (r.map bv)) (hown : Own w2 55 v' (ts.map (·.1) ++ [u])) (g : Grew w1 w2 v v') : Hr w2 v' (ts ++ [(u, r)]) := by
  refine ⟨by rw [List.map_append]; exact hown, fun x hx => ?_⟩
  have h1 := h.turn_no t
  rcases List.mem_append.1 hx with q | q
  · exact (h1.els x q).turn g.turn (fun k z z' => own_ne (h1.els x q) h1.own (by decide) k z z')
  · simp at q
    subst q
    exact hu.turn g.turn (fun k z z' => own_ne hu h1.own (by decide) k z z')
theorem Hr.push_foot {w w1 w2 : World} {v v' u : Value} {ts : List It} {r : List UInt8} (t : Turn no w w1) (fu : ∀ k, u.ownBlock = some k → w.heap.size ≤ k) (g : Grew w1 w2 v v') : ∀ k, hfoot v' (ts ++ [(u, r)]) k → hfoot v ts k ∨ w.heap.size ≤ k := by
  have s := t.size
  rintro k (q | ⟨x, hx, q⟩)
  · rcases g.blk with b | ⟨g', b, b1, _⟩
    · rw [b] at q; exact Or.inl (Or.inl q)
    · rw [b] at q; cases q; exact Or.inr (by omega)
  · rcases List.mem_append.1 hx with z | z
    · exact Or.inl (Or.inr ⟨x, z, q⟩)
    · simp at z
      subst z
      exact Or.inr (fu k q)

/-- The log at q over the disk at p, the law's two lists beside them; the blocks of P are as they were at Wb. -/
def Lw (Wb : World) (P : Nat → Prop) (w : World) (q p : Nat) (vh vm : Value) (ts ms : List It) (here may : List (List UInt8)) (safe c y : Nat) (d : Bool) (n : Nat) : Prop :=
  ∃ M s, Dk w p M s ∧ (∀ k, M k → ¬ P k) ∧ ¬ M q ∧ ¬ P q ∧ Lg w q p nm0 c y d ∧ Hr w vh ts ∧ Hr w vm ms ∧ (∀ k, hfoot vh ts k ∨ hfoot vm ms k → ¬ P k ∧ ¬ M k ∧ k ≠ q) ∧ Ld s here may safe c y d ∧ s.n = n ∧ Turn (fun k => ¬ P k) Wb w

section
variable {Wb w : World} {P : Nat → Prop} {q p : Nat} {vh vm : Value} {ts ms : List It} {here may : List (List UInt8)} {safe c y n : Nat} {d : Bool}
theorem Lw.rest (h : Lw Wb P w q p vh vm ts ms here may safe c y d n) {w' : World} (t : Turn no w w') : Lw Wb P w' q p vh vm ts ms here may safe c y d n := by
  obtain ⟨M, s, h1, h2, h3, h4, h5, h6, h7, h8, h9, h10, h11⟩ := h
  exact ⟨M, s, h1.turn_no t, h2, h3, h4, h5.turn_no t, h6.turn_no t, h7.turn_no t, h8, h9, h10, h11.then_no t⟩
theorem Lw.T (h : Lw Wb P w q p vh vm ts ms here may safe c y d n) : Turn (fun k => ¬ P k) Wb w := by
  obtain ⟨M, s, h1, h2, h3, h4, h5, h6, h7, h8, h9, h10, h11⟩ := h
  exact h11
theorem Lw.h (h : Lw Wb P w q p vh vm ts ms here may safe c y d n) : Hr w vh ts ∧ Hr w vm ms := by
  obtain ⟨M, s, h1, h2, h3, h4, h5, h6, h7, h8, h9, h10, h11⟩ := h
  exact ⟨h6, h7⟩
theorem Lw.step {M : Nat → Prop} {s : St} (hP : ∀ k, P k → k < Wb.heap.size) (h1 : Dk w p M s) (h2 : ∀ k, M k → ¬ P k) (h4 : ¬ P q) (h6 : Hr w vh ts) (h7 : Hr w vm ms) (h8 : ∀ k, hfoot vh ts k ∨ hfoot vm ms k → ¬ P k ∧ ¬ M k ∧ k ≠ q) (h11 : Turn (fun k => ¬ P k) Wb w)
    {w' : World} {s' : St} {c' y' : Nat} {d' : Bool} (a : La w q p M nm0 s' c' y' d' w') {here' may' : List (List UInt8)} {safe' : Nat} (L : Ld s' here' may' safe' c' y' d') : Lw Wb P w' q p vh vm ts ms here' may' safe' c' y' d' s'.n := by
  obtain ⟨M', a1, a2, a3, a4, a5⟩ := a
  have hs := h11.size
  have hh : ∀ k, hfoot vh ts k ∨ hfoot vm ms k → k < w.heap.size := fun k z => by
    rcases z with z | z
    · exact h6.lt k z
    · exact h7.lt k z
  refine ⟨M', s', a1, fun k z z' => ?_, a4, h4, a3, h6.turn a5 (fun k z z' => ?_), h7.turn a5 (fun k z z' => ?_), fun k z => ⟨(h8 k z).1, fun z' => ?_, (h8 k z).2.2⟩, L, rfl, h11.trans a5 (fun i hi z => ?_)⟩
  · rcases a2 k z with z | z
    · exact h2 k z z'
    · have := hP k z'; omega
  · have := h8 k (Or.inl z)
    rcases z' with z' | z'
    · exact this.2.1 z'
    · exact this.2.2 z'
  · have := h8 k (Or.inr z)
    rcases z' with z' | z'
    · exact this.2.1 z'
    · exact this.2.2 z'
  · rcases a2 k z' with z' | z'
    · exact (h8 k z).2.1 z'
    · have := hh k z; omega
  · rcases z with z | z
    · exact h2 i z
    · subst z; exact h4
/-- The lists exchanged. -/
theorem Lw.lists (hP : ∀ k, P k → k < Wb.heap.size) (h : Lw Wb P w q p vh vm ts ms here may safe c y d n) {S : Nat → Prop} {w' : World} {vh' vm' : Value} {ts' ms' : List It} (t : Turn S w w') (hS : ∀ k, S k → hfoot vh ts k ∨ hfoot vm ms k) (a : Hr w' vh' ts') (b : Hr w' vm' ms') (f : ∀ k, hfoot vh' ts' k ∨ hfoot vm' ms' k → (hfoot vh ts k ∨ hfoot vm ms k) ∨ w.heap.size ≤ k) : Lw Wb P w' q p vh' vm' ts' ms' here may safe c y d n := by
  obtain ⟨M, s, h1, h2, h3, h4, h5, h6, h7, h8, h9, h10, h11⟩ := h
  have hk := h1.klt
  have hq := h5.lt
  have hs := h11.size
  refine ⟨M, s, h1.turn t (fun k z z' => (h8 k (hS k z')).2.1 z), h2, h3, h4, h5.turn t (fun z => (h8 q (hS q z)).2.2 rfl), a, b, fun k z => ?_, h9, h10, h11.trans t (fun i hi z => (h8 i (hS i z)).1)⟩
  rcases f k z with z | z
  · exact h8 k z
  · exact ⟨fun z' => by have := hP k z'; omega, fun z' => by have := hk k z'; omega, by omega⟩
theorem numb_n (s : St) (l : List Pf) : (numb s l).1.n = s.n + 1 := by
  unfold numb
  simp only
  split
  · rfl
  · split <;> rfl
theorem apdS_n (s : St) (rec : List UInt8) : (apdS s nm0 rec).1.n ≤ s.n + 1 := by
  unfold apdS appS
  split
  · simp
  · split
    · simp
    · split
      · simp
      · rw [numb_n]; exact Nat.le_refl _
theorem lsyS_n (s : St) (c y : Nat) : (lsyS s nm0 c y).1.n ≤ s.n + 1 := by
  unfold lsyS syncS
  split
  · simp
  · split
    · simp
    · rw [numb_n]; exact Nat.le_refl _
theorem nm0_len : nm0.length ≤ maxLen := by simp [nm0, maxLen]

theorem Lw.app (h : Lw Wb P w q p vh vm ts ms here [] safe c y false n) (hn : n < 4611686018427387904) (hc : c < 4611686018427387904) (hP : ∀ k, P k → k < Wb.heap.size) (hL : LaidT Wb) (h0 : P 0) (v : Value) (rec : List UInt8) (hb : Bs Wb v rec) (hv : rec ≠ [] → ∀ g, v.ownBlock = some g → P g) :
    Calls Tryd.prog 24 #[ptr q, v] w fun e w' => ∃ E n', e = .returned (.int .i64 E) ∧ n' ≤ n + 1 ∧ ((E = 0 ∧ Lw Wb P w' q p vh vm ts ms (here ++ [rec]) [] safe (c + 1) y false n') ∨ (E = 4 ∧ Lw Wb P w' q p vh vm ts ms here [] safe c y false n') ∨ (E = 63 ∧ Lw Wb P w' q p vh vm ts ms here [rec] safe c y true n') ∨ ((E = 62 ∨ E = 64) ∧ Lw Wb P w' q p vh vm ts ms here [] safe c y true n')) := by
  obtain ⟨M, s, h1, h2, h3, h4, h5, h6, h7, h8, h9, h10, h11⟩ := h
  refine (append24 h1 (by omega) h5 h3 nm0_len hc v rec (hb.late h11 (fun z g z1 z2 => z2 (hv z g z1))) (hL.turn h11 (fun z => z h0))).mono ?_
  rintro e w' ⟨rfl, a⟩
  refine ⟨_, (apdS s nm0 rec).1.n, rfl, (by have := apdS_n s rec; omega), ?_⟩
  rcases h9.app rec with ⟨e0, L⟩ | ⟨e0, L⟩ | ⟨e0, L⟩ | ⟨e0, L⟩
  · rw [e0] at a ⊢
    exact Or.inl ⟨rfl, Lw.step hP h1 h2 h4 h6 h7 h8 h11 a L⟩
  · rw [e0] at a ⊢
    exact Or.inr (Or.inl ⟨rfl, Lw.step hP h1 h2 h4 h6 h7 h8 h11 a L⟩)
  · rw [e0] at a ⊢
    exact Or.inr (Or.inr (Or.inl ⟨rfl, Lw.step hP h1 h2 h4 h6 h7 h8 h11 a L⟩))
  · refine Or.inr (Or.inr (Or.inr ⟨e0, ?_⟩))
    rcases e0 with e0 | e0
    · rw [e0] at a; exact Lw.step hP h1 h2 h4 h6 h7 h8 h11 a L
    · rw [e0] at a; exact Lw.step hP h1 h2 h4 h6 h7 h8 h11 a L
theorem Lw.app_dead (h : Lw Wb P w q p vh vm ts ms here may safe c y true n) (a : Option Addr) (k m : Nat) :
    Calls Tryd.prog 24 #[ptr q, .slice a k m] w fun e w' => e = .returned (.int .i64 70) ∧ Lw Wb P w' q p vh vm ts ms here may safe c y true n := by
  obtain ⟨M, s, h1, h2, h3, h4, h5, h6, h7, h8, h9, h10, h11⟩ := id h
  refine (append24_dead h5 a k m).mono ?_
  rintro e w' ⟨rfl, t⟩
  exact ⟨rfl, h.rest t⟩
theorem Lw.syn (h : Lw Wb P w q p vh vm ts ms here [] safe c y false n) (hP : ∀ k, P k → k < Wb.heap.size) (hn : n < 4611686018427387904) :
    Calls Tryd.prog 26 #[ptr q] w fun e w' => ∃ E n', e = .returned (.int .i64 E) ∧ n' ≤ n + 1 ∧ ((E = 0 ∧ Lw Wb P w' q p vh vm ts ms here [] c c c false n') ∨ (E ≠ 0 ∧ Lw Wb P w' q p vh vm ts ms here [] safe c y true n')) := by
  obtain ⟨M, s, h1, h2, h3, h4, h5, h6, h7, h8, h9, h10, h11⟩ := h
  refine (sync26 h1 (by omega) h5 h3 nm0_len).mono ?_
  rintro e w' ⟨rfl, a⟩
  refine ⟨_, (lsyS s nm0 c y).1.n, rfl, (by have := lsyS_n s c y; omega), ?_⟩
  rcases h9.syn with ⟨e0, L⟩ | ⟨e0, e4, L⟩
  · rw [e0] at a ⊢
    exact Or.inl ⟨rfl, Lw.step hP h1 h2 h4 h6 h7 h8 h11 a L⟩
  · refine Or.inr ⟨e0, ?_⟩
    rw [if_neg e0, show ((lsyS s nm0 c y).2 != 0 && (lsyS s nm0 c y).2 != 4) = true by simp [e0, e4]] at a
    exact Lw.step hP h1 h2 h4 h6 h7 h8 h11 a L
theorem Lw.syn_dead (h : Lw Wb P w q p vh vm ts ms here may safe c y true n) :
    Calls Tryd.prog 26 #[ptr q] w fun e w' => e = .returned (.int .i64 70) ∧ Lw Wb P w' q p vh vm ts ms here may safe c y true n := by
  obtain ⟨M, s, h1, h2, h3, h4, h5, h6, h7, h8, h9, h10, h11⟩ := id h
  refine (sync26_dead h5).mono ?_
  rintro e w' ⟨rfl, t⟩
  exact ⟨rfl, h.rest t⟩
theorem Lw.calls (h : Lw Wb P w q p vh vm ts ms here may safe c y d n) : Calls Tryd.prog 23 #[ptr p] w fun e w' => e = .returned (.int .i64 n) ∧ w' = w := by
  obtain ⟨M, s, h1, h2, h3, h4, h5, h6, h7, h8, h9, h10, h11⟩ := h
  have := calls14 h1
  rw [h10] at this
  exact this
theorem Lw.count (h : Lw Wb P w q p vh vm ts ms here may safe c y d n) : Calls Tryd.prog 9 #[ptr q] w fun e w' => e = .returned (.tuple #[.int .i64 c, .int .i64 y]) ∧ Lw Wb P w' q p vh vm ts ms here may safe c y d n := by
  obtain ⟨M, s, h1, h2, h3, h4, h5, h6, h7, h8, h9, h10, h11⟩ := id h
  refine (count9 h5).mono ?_
  rintro e w' ⟨rfl, k, rfl⟩
  exact ⟨rfl, h.rest ((Turn.refl no w).drewN k)⟩
end
end Go.Proofs.YtbkbecjgphjpkabDoor
