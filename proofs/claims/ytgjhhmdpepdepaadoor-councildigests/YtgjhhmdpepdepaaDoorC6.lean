/- Lists of members that are the call's own; roomy, kept. -/
import Derived.Test.YtgjhhmdpepdepaaDoorC5
namespace Go.Proofs.YtgjhhmdpepdepaaDoor
open Go.RowKit
set_option linter.unusedVariables false

def flat (l : List Mb) : List Value := l.flatMap mbC
theorem flat_len (l : List Mb) : (flat l).length = l.length * 3 := by
  induction l with
  | nil => rfl
  | cons m r ih => simp [flat, mbC] at ih ⊢; omega
theorem flat_one (l : List Mb) : ∀ u ∈ flat l, u.oneCell' = true := by
  intro u hu
  obtain ⟨m, _, hu⟩ := List.mem_flatMap.1 hu
  simp [mbC] at hu
  rcases hu with rfl | rfl | rfl <;> rfl
theorem flat_get (l : List Mb) (j : Nat) (m : Mb) (h : l[j]? = some m) : (flat l)[j * 3]? = some (.int .u64 m.ad) ∧ (flat l)[j * 3 + 1]? = some (.int .u64 m.pw) ∧ (flat l)[j * 3 + 2]? = some (.int .i64 m.pr) := by
  induction l generalizing j with
  | nil => simp at h
  | cons x r ih =>
    cases j with
    | zero =>
      simp at h
      subst h
      simp [flat, mbC]
    | succ j =>
      have := ih j (by simpa using h)
      rw [show (j + 1) * 3 = j * 3 + 1 + 1 + 1 by omega]
      simpa [flat, mbC] using this
theorem flat_inv (l : List Mb) (j : Nat) (u : Value) (h : (flat l)[j]? = some u) : ∃ i m, l[i]? = some m ∧ ((j = i * 3 ∧ u = .int .u64 m.ad) ∨ (j = i * 3 + 1 ∧ u = .int .u64 m.pw) ∨ (j = i * 3 + 2 ∧ u = .int .i64 m.pr)) := by
  induction l generalizing j with
  | nil => simp [flat] at h
  | cons x r ih =>
    match j with
    | 0 => exact ⟨0, x, rfl, .inl ⟨rfl, by simpa [flat, mbC] using h.symm⟩⟩
    | 1 => exact ⟨0, x, rfl, .inr (.inl ⟨rfl, by simpa [flat, mbC] using h.symm⟩)⟩
    | 2 => exact ⟨0, x, rfl, .inr (.inr ⟨rfl, by simpa [flat, mbC] using h.symm⟩)⟩
    | j + 3 =>
      obtain ⟨i, m, h1, h2⟩ := ih j (by simpa [flat, mbC] using h)
      refine ⟨i + 1, m, by simpa using h1, ?_⟩
      rcases h2 with ⟨q, r⟩ | ⟨q, r⟩ | ⟨q, r⟩
      · exact .inl ⟨by omega, r⟩
      · exact .inr (.inl ⟨by omega, r⟩)
      · exact .inr (.inr ⟨by omega, r⟩)
theorem flat_append (a b : List Mb) : flat (a ++ b) = flat a ++ flat b := by simp [flat]

theorem MsAt.src {w : World} {a : Option Addr} {cap : Nat} {l : List Mb} (h : MsAt w a cap l) : Src Tryd.prog 3 22 (.slice a l.length cap) l.length (flat l) w := by
  cases a with
  | none =>
    have : l = [] := by
      cases l with
      | nil => rfl
      | cons m r =>
        obtain ⟨b, off, e, _⟩ := h.cells 0 m rfl
        cases e
    subst this
    exact Src.ofNil w Tryd.underlying22 cap
  | some a =>
    refine Src.ofSlice w Tryd.underlying22 a l.length cap (flat l) (flat_len l) (fun j u hu => ?_) (flat_one l)
    obtain ⟨i, m, hm, q⟩ := flat_inv l j u hu
    obtain ⟨b, off, e, c0, c1, c2⟩ := h.cells i m hm
    cases e
    rw [Addr.add_lit]
    rcases q with ⟨rfl, rfl⟩ | ⟨rfl, rfl⟩ | ⟨rfl, rfl⟩
    · exact c0
    · rw [← Nat.add_assoc]; exact c1
    · rw [← Nat.add_assoc]; exact c2

/-- A list of members that fills a block from its head on, and may be written. -/
structure Rw (w : World) (g cap : Nat) (l : List Mb) : Prop where
  le : l.length ≤ cap
  most : cap ≤ maxLen
  ok : ∀ m ∈ l, m.ok
  obj : ∃ cur, w.heap[g]? = some (.cells cur 37 (0, 0)) ∧ cur.size = cap * 3 ∧ ∀ j m, l[j]? = some m → cur[j * 3]? = some (.int .u64 m.ad) ∧ cur[j * 3 + 1]? = some (.int .u64 m.pw) ∧ cur[j * 3 + 2]? = some (.int .i64 m.pr)

theorem Rw.lt {w : World} {g cap : Nat} {l : List Mb} (h : Rw w g cap l) : g < w.heap.size := by
  obtain ⟨cur, ho, _⟩ := h.obj
  exact lt_of_obj ho
theorem Rw.at {w : World} {g cap : Nat} {l : List Mb} (h : Rw w g cap l) : MsAt w (some ⟨g, 0, none⟩) cap l :=
  ⟨h.le, h.most, h.ok, fun j m hm => by
    obtain ⟨cur, ho, _, hc⟩ := h.obj
    obtain ⟨c0, c1, c2⟩ := hc j m hm
    refine ⟨g, 0, rfl, ?_, ?_, ?_⟩
    · rw [cell_of_row _ g (0 + j * 3) cur 37 (0, 0) ho, Nat.zero_add]; exact c0
    · rw [cell_of_row _ g (0 + j * 3 + 1) cur 37 (0, 0) ho, Nat.zero_add]; exact c1
    · rw [cell_of_row _ g (0 + j * 3 + 2) cur 37 (0, 0) ho, Nat.zero_add]; exact c2⟩
theorem Rw.cells {w : World} {g cap : Nat} {l : List Mb} (h : Rw w g cap l) (j : Nat) (m : Mb) (hm : l[j]? = some m) : w.cell? ⟨g, j * 3, none⟩ = some (.int .u64 m.ad) ∧ w.cell? ⟨g, j * 3 + 1, none⟩ = some (.int .u64 m.pw) ∧ w.cell? ⟨g, j * 3 + 2, none⟩ = some (.int .i64 m.pr) := by
  obtain ⟨b, off, e, c0, c1, c2⟩ := h.at.cells j m hm
  cases e
  simp only [Nat.zero_add] at c0 c1 c2
  exact ⟨c0, c1, c2⟩
theorem Rw.frozen {w : World} {g cap : Nat} {l : List Mb} (h : Rw w g cap l) (o : Nat) : w.frozen? ⟨g, o, none⟩ = false := by
  obtain ⟨cur, ho, _⟩ := h.obj
  exact frozen_of_row w g o _ 37 ho
theorem Rw.turn {S : Nat → Prop} {w w' : World} {g cap : Nat} {l : List Mb} (h : Rw w g cap l) (t : Turn S w w') (hn : ¬ S g) : Rw w' g cap l :=
  ⟨h.le, h.most, h.ok, by
    obtain ⟨cur, ho, r⟩ := h.obj
    exact ⟨cur, t.obj ho hn, r⟩⟩
theorem Rw.turn_no {w w' : World} {g cap : Nat} {l : List Mb} (h : Rw w g cap l) (t : Turn no w w') : Rw w' g cap l := h.turn t (fun q => q)
theorem Rw.set {w : World} {g cap : Nat} {l : List Mb} (h : Rw w g cap l) (k : Nat) (m : Mb) (hm : l[k]? = some m) (x : Int) (hx : -9223372036854775808 ≤ x ∧ x < 9223372036854775808) :
    Rw (w.setCell ⟨g, k * 3 + 2, none⟩ (.int .i64 x)) g cap (l.set k { m with pr := x }) := by
  have hk : k < l.length := (List.getElem?_eq_some_iff.1 hm).1
  refine ⟨by simpa using h.le, h.most, fun y hy => ?_, ?_⟩
  · rcases List.mem_or_eq_of_mem_set hy with hy | rfl
    · exact h.ok y hy
    · have := h.ok m (List.mem_of_getElem? hm)
      exact ⟨this.1, this.2.1, hx.1, hx.2⟩
  · obtain ⟨cur, ho, hs, hc⟩ := h.obj
    refine ⟨_, heap_setCell_same w g (k * 3 + 2) cur 37 _ ho, by simpa using hs, fun j y hy => ?_⟩
    rw [List.getElem?_set] at hy
    by_cases hkj : k = j
    · subst hkj
      rw [if_pos rfl, if_pos hk] at hy
      simp at hy
      subst hy
      obtain ⟨c0, c1, c2⟩ := hc k m hm
      have hb : k * 3 + 2 < cur.size := by
        rcases Nat.lt_or_ge (k * 3 + 2) cur.size with q | q
        · exact q
        · rw [Array.getElem?_eq_none q] at c2; cases c2
      refine ⟨?_, ?_, ?_⟩
      · rw [Array.getElem?_setIfInBounds_ne (by omega)]; exact c0
      · rw [Array.getElem?_setIfInBounds_ne (by omega)]; exact c1
      · rw [Array.getElem?_setIfInBounds_self_of_lt hb]
    · rw [if_neg hkj] at hy
      obtain ⟨c0, c1, c2⟩ := hc j y hy
      refine ⟨?_, ?_, ?_⟩
      · rw [Array.getElem?_setIfInBounds_ne (by omega)]; exact c0
      · rw [Array.getElem?_setIfInBounds_ne (by omega)]; exact c1
      · rw [Array.getElem?_setIfInBounds_ne (by omega)]; exact c2
theorem OwnN.rw {w : World} {v : Value} {l : List Mb} {n : Nat} (h : OwnN w 37 3 v n (flat l)) (hn : n = l.length) (h0 : 0 < n) (hok : ∀ m ∈ l, m.ok) : ∃ g cap, v = .slice (some ⟨g, 0, none⟩) n cap ∧ Rw w g cap l := by
  subst hn
  rcases h.2 with ⟨rfl, h1⟩ | ⟨g, cap, cur, rfl, _, hg, h1, h2, h3, h4⟩
  · omega
  · refine ⟨g, cap, rfl, h1, h2, hok, cur, hg, h3, fun j m hm => ?_⟩
    have hj : j < l.length := (List.getElem?_eq_some_iff.1 hm).1
    obtain ⟨c0, c1, c2⟩ := flat_get l j m hm
    have key : ∀ i u, (flat l)[i]? = some u → i < l.length * 3 → cur[i]? = some u := fun i u hu hi => by
      rw [← h4, List.getElem?_take, if_pos hi] at hu
      simpa using hu
    exact ⟨key _ _ c0 (by omega), key _ _ c1 (by omega), key _ _ c2 (by omega)⟩
theorem info44 : (Tryd.prog.info? 37).map (fun i => (i.zero, i.size, i.bytes)) = some (some (.agg #[.int .u64 0, .int .u64 0, .int .i64 0]), 3, 24) := by kernel_rfl
end Go.Proofs.YtgjhhmdpepdepaaDoor

