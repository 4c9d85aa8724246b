/- A disk between two lives of a log, plain: opened, and opened again. -/
import Derived.Test.YtbkbecjgphjpkabDoorQ2
import Derived.Test.YtbkbecjgphjpkabDoorG5
namespace Go.Proofs.YtbkbecjgphjpkabDoor
open Go.RowKit Go.Maps
set_option linter.unusedVariables false

/-- A disk on which nothing is armed, whose log's file is synced whole and tells x. -/
structure Bt (s : St) (x : List (List UInt8)) : Prop where
  fil : ∃ bs, Fil s bs bs.length ∧ scan bs = (x, (cat x).length)
  n1 : s.n ≤ 1
  arms : s.arms = []
  on : s.off = false
  in_ : s.out = false
  lim : s.lim = 1048576
  m0 : s.m = 0
section
variable {s : St} {x : List (List UInt8)}
theorem Bt.small (h : Bt s x) : ∀ r ∈ x, r.length ≤ 262400 := by
  obtain ⟨bs, hF, hs⟩ := h.fil
  have := (scan_stands _ bs (Nat.lt_succ_self _)).1
  rw [hs] at this
  exact this
theorem Fil.found {bs : List UInt8} {sy : Nat} (h : Fil s bs sy) (ho : s.off = false) : foundE s nm0 = if s.fs = [] then 61 else 0 := by
  have ha : asked s nm0 = 0 := by unfold asked; rw [ho, nm0_ok]; rfl
  unfold foundE
  rw [if_pos ha]
  rcases h with ⟨e, _, _⟩ | e
  · rw [e]; rfl
  · rw [e]; simp [getF]
theorem Fil.read {bs : List UInt8} {sy : Nat} (h : Fil s bs sy) (ho : s.off = false) : readS s nm0 = bs ∧ (sizeS s nm0).2 = sy ∧ (foundE s nm0 = 0 ∨ foundE s nm0 = 61) := by
  have hf := h.found ho
  have o := h.old
  unfold readS sizeS
  rcases h with ⟨e, rfl, rfl⟩ | e
  · rw [if_pos e] at hf
    rw [hf]
    exact ⟨rfl, rfl, Or.inr rfl⟩
  · rw [if_neg (by rw [e]; simp)] at hf
    rw [hf]
    exact ⟨o.1, o.2, Or.inl rfl⟩
/-- What Open finds. -/
theorem Bt.reads (h : Bt s x) : scan (readS s nm0) = (x, (cat x).length) ∧ (foundE s nm0 = 0 ∨ foundE s nm0 = 61) := by
  obtain ⟨bs, hF, hs⟩ := h.fil
  obtain ⟨r1, r2, r3⟩ := hF.read h.on
  rw [r1]
  exact ⟨hs, r3⟩
theorem Bt.cut (h : Bt s x) (hl : (scan (readS s nm0)).2 < (readS s nm0).length) : (cutS s nm0 ((scan (readS s nm0)).2 : Nat)).2 = 0 ∧ (cutS s nm0 ((scan (readS s nm0)).2 : Nat)).1 = { s with n := s.n + 1, fs := [⟨nm0, cat x, (cat x).length⟩] } := by
  obtain ⟨bs, hF, hs⟩ := h.fil
  obtain ⟨r1, r2, r3⟩ := hF.read h.on
  have st := (scan_stands _ bs (Nat.lt_succ_self _)).2.2
  rw [r1, hs] at hl ⊢
  rw [hs] at st
  simp only at hl st ⊢
  have hne : s.fs ≠ [] := fun e => by
    rcases hF with ⟨_, e, _⟩ | e'
    · subst e; simp at hl
    · rw [e] at e'; cases e'
  have hf := hF.found h.on
  rw [if_neg hne] at hf
  have hlen : lenF nm0 s.fs = bs.length := by rw [← fileOf_len, hF.old.1]
  unfold cutS
  rw [if_neg (by rw [hf]; simp), if_neg (by rw [hlen]; omega), hF.put]
  have ht : ((((cat x).length : Nat) : Int)).toNat = (cat x).length := by simp
  rw [ht, hF.old.1, ← st]
  have ha := h.arms
  clear hlen hf hne hF r1 r2 r3 h
  cases s
  simp only at ha
  subst ha
  exact ⟨rfl, rfl⟩
theorem Bt.opn (h : Bt s x) (hn : s.n = 0) : Bt (opnS s nm0) x ∧ readS (opnS s nm0) nm0 = cat x ∧ (sizeS (opnS s nm0) nm0).2 = (cat x).length ∧ Fil (opnS s nm0) (cat x) (cat x).length := by
  obtain ⟨bs, hF, hs⟩ := h.fil
  obtain ⟨r1, r2, r3⟩ := hF.read h.on
  have st := scan_stands _ bs (Nat.lt_succ_self _)
  have hsc := scan_cat x h.small
  unfold opnS
  by_cases hl : (scan (readS s nm0)).2 < (readS s nm0).length
  · rw [if_pos hl, (h.cut hl).2]
    have F : Fil { s with n := s.n + 1, fs := [⟨nm0, cat x, (cat x).length⟩] } (cat x) (cat x).length := Or.inr rfl
    obtain ⟨q1, q2, q3⟩ := F.read h.on
    exact ⟨⟨⟨_, F, hsc⟩, by simp [hn], h.arms, h.on, h.in_, h.lim, h.m0⟩, q1, q2, F⟩
  · rw [if_neg hl]
    rw [r1] at hl
    have e : bs = cat x := by
      have := st.2.2
      rw [hs] at this hl
      simp only at this hl
      rw [this, List.take_of_length_le (by omega)]
    subst e
    exact ⟨h, r1, r2, hF⟩
/-- Opened again: nothing turns. -/
theorem Bt.again (h : Bt s x) (hn : s.n = 0) : opnS (opnS s nm0) nm0 = opnS s nm0 ∧ scan (readS (opnS s nm0) nm0) = (x, (cat x).length) := by
  obtain ⟨h1, h2, h3, h4⟩ := h.opn hn
  have hsc := scan_cat x h.small
  refine ⟨?_, by rw [h2]; exact hsc⟩
  clear h1 h3 h4
  generalize opnS s nm0 = t at h2 ⊢
  unfold opnS
  rw [if_neg (by rw [h2, hsc]; simp)]
/-- The log's life begins. -/
theorem Bt.ld (h : Bt s x) (hn : s.n = 0) : Ld (opnS s nm0) x [] x.length x.length (cwN x (sizeS (opnS s nm0) nm0).2) false := by
  obtain ⟨h1, h2, h3, h4⟩ := h.opn hn
  rw [h3, cwN_all x _ (Nat.le_refl _)]
  have hc : ce x x.length = (cat x).length := by simp [ce]
  exact ⟨h.small, (fun r hr => by cases hr), rfl, Nat.le_refl _, Nat.le_refl _, ⟨x, _, Or.inl rfl, (fun _ => rfl), h4, Nat.le_refl _, by rw [hc]; exact Nat.le_refl _, by rw [hc]; exact Nat.le_refl _⟩, fun _ => h1.on, h1.in_, h1.lim⟩
theorem Bt.new : Bt (newSt 1048576) [] := ⟨⟨[], Or.inl ⟨rfl, rfl, rfl⟩, rfl⟩, Nat.zero_le _, rfl, rfl, rfl, rfl, rfl⟩
end
end Go.Proofs.YtbkbecjgphjpkabDoor
