/- num, ownCouncil, sameCouncil, markedCouncil. -/
import Derived.Test.YtmfphlagpifkaaaQ0
namespace Go.Proofs.Ytmfphlagpifkaaa
open Go.RowKit
set_option linter.unusedVariables false

def flat (l : List Mb) : List Value := l.flatMap mbC
theorem flat_len (l : List Mb) : (flat l).length = l.length * 3 := by
  induction l with
  | nil => rfl
  | cons m r ih => simp [flat, mbC] at ih ⊢; omega
theorem flat_one (l : List Mb) : ∀ u ∈ flat l, u.oneCell' = true := by
  intro u hu
  obtain ⟨m, _, hu⟩ := List.mem_flatMap.1 hu
  simp [mbC] at hu
  rcases hu with rfl | rfl | rfl <;> rfl
theorem flat_get (l : List Mb) (j : Nat) (m : Mb) (h : l[j]? = some m) : (flat l)[j * 3]? = some (.int .u64 m.ad) ∧ (flat l)[j * 3 + 1]? = some (.int .u64 m.pw) ∧ (flat l)[j * 3 + 2]? = some (.int .i64 m.pr) := by
  induction l generalizing j with
  | nil => simp at h
  | cons x r ih =>
    cases j with
    | zero =>
      simp at h
      subst h
      simp [flat, mbC]
    | succ j =>
      have := ih j (by simpa using h)
      rw [show (j + 1) * 3 = j * 3 + 1 + 1 + 1 by omega]
      simpa [flat, mbC] using this
theorem flat_inv (l : List Mb) (j : Nat) (u : Value) (h : (flat l)[j]? = some u) : ∃ i m, l[i]? = some m ∧ ((j = i * 3 ∧ u = .int .u64 m.ad) ∨ (j = i * 3 + 1 ∧ u = .int .u64 m.pw) ∨ (j = i * 3 + 2 ∧ u = .int .i64 m.pr)) := by
  induction l generalizing j with
  | nil => simp [flat] at h
  | cons x r ih =>
    match j with
    | 0 => exact ⟨0, x, rfl, .inl ⟨rfl, by simpa [flat, mbC] using h.symm⟩⟩
    | 1 => exact ⟨0, x, rfl, .inr (.inl ⟨rfl, by simpa [flat, mbC] using h.symm⟩)⟩
    | 2 => exact ⟨0, x, rfl, .inr (.inr ⟨rfl, by simpa [flat, mbC] using h.symm⟩)⟩
    | j + 3 =>
      obtain ⟨i, m, h1, h2⟩ := ih j (by simpa [flat, mbC] using h)
      refine ⟨i + 1, m, by simpa using h1, ?_⟩
      rcases h2 with ⟨q, r⟩ | ⟨q, r⟩ | ⟨q, r⟩
      · exact .inl ⟨by omega, r⟩
      · exact .inr (.inl ⟨by omega, r⟩)
      · exact .inr (.inr ⟨by omega, r⟩)
theorem flat_append (a b : List Mb) : flat (a ++ b) = flat a ++ flat b := by simp [flat]
theorem MsAt.src {w : World} {a : Option Addr} {cap : Nat} {l : List Mb} (h : MsAt w a cap l) : Src Try.prog 3 22 (.slice a l.length cap) l.length (flat l) w := by
  cases a with
  | none =>
    have : l = [] := by
      cases l with
      | nil => rfl
      | cons m r =>
        obtain ⟨b, off, e, _⟩ := h.cells 0 m rfl
        cases e
    subst this
    exact Src.ofNil w Try.underlying22 cap
  | some a =>
    refine Src.ofSlice w Try.underlying22 a l.length cap (flat l) (flat_len l) (fun j u hu => ?_) (flat_one l)
    obtain ⟨i, m, hm, q⟩ := flat_inv l j u hu
    obtain ⟨b, off, e, c0, c1, c2⟩ := h.cells i m hm
    cases e
    rw [Addr.add_lit]
    rcases q with ⟨rfl, rfl⟩ | ⟨rfl, rfl⟩ | ⟨rfl, rfl⟩
    · exact c0
    · rw [← Nat.add_assoc]; exact c1
    · rw [← Nat.add_assoc]; exact c2
theorem info49 : (Try.prog.info? 49).map (fun i => (i.zero, i.size, i.bytes)) = some (some (.agg #[.int .u64 0, .int .u64 0, .int .i64 0]), 3, 24) := by kernel_rfl
/-- An owned row of members, as a list of members. -/
theorem OwnN.msAt {w : World} {v : Value} {n : Nat} {l : List Mb} (h : OwnN w 49 3 v n (flat l)) (hn : n = l.length) (h0 : 0 < n) (hok : ∀ m ∈ l, m.ok) : ∃ g cap, v = .slice (some ⟨g, 0, none⟩) n cap ∧ MsAt w (some ⟨g, 0, none⟩) cap l := by
  obtain ⟨a, cap, rfl, ha, h1, h2, h3⟩ := h.form
  rcases h.2 with ⟨_, q⟩ | ⟨g, cap', cur, e, _⟩
  · omega
  · cases e
    refine ⟨g, cap, rfl, by omega, h3, hok, fun j m hj => ⟨g, 0, rfl, ?_⟩⟩
    obtain ⟨f0, f1, f2⟩ := flat_get l j m hj
    have r := fun i v hi => World.ownsRow.cells h (g := g) rfl i v hi
    have r0 := r _ _ f0
    have r1 := r _ _ f1
    have r2 := r _ _ f2
    rw [Addr.add_lit] at r0 r1 r2
    exact ⟨r0, by rw [Nat.add_assoc]; exact r1, by rw [Nat.add_assoc]; exact r2⟩

end Go.Proofs.Ytmfphlagpifkaaa
