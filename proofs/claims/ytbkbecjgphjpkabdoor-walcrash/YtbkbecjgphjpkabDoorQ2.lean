/- P7.5, P7.6, plain: the life of a log. -/
import Derived.Test.YtbkbecjgphjpkabDoorQ1
import Derived.Test.YtbkbecjgphjpkabDoorG5
namespace Go.Proofs.YtbkbecjgphjpkabDoor
open Go.RowKit
set_option linter.unusedVariables false

def nm0 : Nm := [108, 111, 103]
theorem nm0_ok : isNm nm0 = true := by decide

/-- The disk's files: none, or the log's alone. -/
def Fil (s : St) (bs : List UInt8) (sy : Nat) : Prop := (s.fs = [] ∧ bs = [] ∧ sy = 0) ∨ s.fs = [⟨nm0, bs, sy⟩]
theorem Fil.old {s : St} {bs : List UInt8} {sy : Nat} (h : Fil s bs sy) : (fileOf s.fs nm0).bs = bs ∧ (fileOf s.fs nm0).sy = sy := by
  rcases h with ⟨h, rfl, rfl⟩ | h
  · rw [h]; exact ⟨rfl, rfl⟩
  · rw [h]
    have : getF nm0 [⟨nm0, bs, sy⟩] = some ⟨nm0, bs, sy⟩ := by simp [getF]
    simp [fileOf, this]
theorem Fil.put {s : St} {bs : List UInt8} {sy : Nat} (h : Fil s bs sy) (b' : List UInt8) (y' : Nat) : putF ⟨nm0, b', y'⟩ s.fs = [⟨nm0, b', y'⟩] := by
  rcases h with ⟨h, _, _⟩ | h
  · rw [h]; rfl
  · rw [h]
    unfold putF
    rw [if_neg (by simp [Std.lt_irrefl]), if_pos rfl]

/-- A log under way: what was taken, what was refused by the power's going, how many are told as synced; the log's numbers. -/
structure Ld (s : St) (here may : List (List UInt8)) (safe c y : Nat) (d : Bool) : Prop where
  small : ∀ r ∈ here, r.length ≤ 262400
  maysm : ∀ r ∈ may, r.length ≤ 262400
  cnt : c = here.length
  hs : safe ≤ here.length
  hy : y ≤ here.length
  file : ∃ l sy, (l = here ∨ l = here ++ may) ∧ (d = false → l = here) ∧ Fil s (cat l) sy ∧ sy ≤ (cat l).length ∧ ce here safe ≤ sy ∧ ce here y ≤ sy
  on : d = false → s.off = false
  in_ : s.out = false
  lim : s.lim = 1048576

theorem ce_app (l m : List (List UInt8)) {k : Nat} (h : k ≤ l.length) : ce (l ++ m) k = ce l k := by
  unfold ce
  rw [List.take_append_of_le_length h]
theorem numb_cases (s : St) (l : List Pf) : ((numb s l).2 = 0 ∧ (numb s l).1.fs = l ∧ (numb s l).1.off = s.off ∧ (numb s l).1.out = s.out) ∨ ((numb s l).2 = 64 ∧ (numb s l).1.fs = s.fs ∧ (numb s l).1.off = s.off ∧ (numb s l).1.out = s.out) ∨ ((numb s l).2 = 63 ∧ ((numb s l).1.fs = l ∨ (numb s l).1.fs = s.fs) ∧ (numb s l).1.out = s.out) := by
  unfold numb
  simp only
  split
  · exact Or.inl ⟨rfl, rfl, rfl, rfl⟩
  · split
    · exact Or.inr (Or.inl ⟨rfl, rfl, rfl, rfl⟩)
    · refine Or.inr (Or.inr ⟨rfl, ?_, rfl⟩)
      split
      · exact Or.inl rfl
      · exact Or.inr rfl

theorem numb_lim (s : St) (l : List Pf) : (numb s l).1.lim = s.lim := by
  unfold numb
  simp only
  split
  · rfl
  · split <;> rfl
theorem Ld.app {s : St} {here : List (List UInt8)} {safe c y : Nat} (h : Ld s here [] safe c y false) (rec : List UInt8) :
    ((apdS s nm0 rec).2 = 0 ∧ Ld (apdS s nm0 rec).1 (here ++ [rec]) [] safe (c + 1) y false) ∨ ((apdS s nm0 rec).2 = 4 ∧ Ld (apdS s nm0 rec).1 here [] safe c y false) ∨
      ((apdS s nm0 rec).2 = 63 ∧ Ld (apdS s nm0 rec).1 here [rec] safe c y true) ∨ (((apdS s nm0 rec).2 = 62 ∨ (apdS s nm0 rec).2 = 64) ∧ Ld (apdS s nm0 rec).1 here [] safe c y true) := by
  obtain ⟨l, sy, _, hl, hF, h1, h2, h3⟩ := h.file
  obtain rfl := hl rfl
  have hoff := h.on rfl
  unfold apdS
  by_cases hb : 262400 < rec.length
  · rw [if_pos hb]
    exact Or.inr (Or.inl ⟨rfl, h⟩)
  rw [if_neg hb]
  have ha : asked s nm0 = 0 := by simp [asked, hoff, nm0_ok]
  unfold appS
  rw [if_neg (by simp [ha])]
  by_cases hf : fitsB s nm0 (frameB rec).length = false
  · rw [if_pos hf]
    exact Or.inr (Or.inr (Or.inr ⟨Or.inl rfl, ⟨h.small, h.maysm, h.cnt, h.hs, h.hy, ⟨l, sy, Or.inl rfl, fun _ => rfl, hF, h1, h2, h3⟩, fun q => (by cases q), h.in_, h.lim⟩⟩))
  rw [if_neg hf]
  have eL : appL s.fs nm0 (frameB rec) = [⟨nm0, cat l ++ frameB rec, sy⟩] := by
    unfold appL
    rw [hF.old.1, hF.old.2, hF.put]
  rw [eL]
  have hsm : ∀ r ∈ l ++ [rec], r.length ≤ 262400 := fun r hr => by
    rcases List.mem_append.1 hr with q | q
    · exact h.small r q
    · simp at q; subst q; omega
  have hsm1 : ∀ r ∈ [rec], r.length ≤ 262400 := fun r hr => hsm r (List.mem_append_right _ hr)
  have hcl : sy ≤ (cat (l ++ [rec])).length := by rw [cat_snoc, List.length_append]; omega
  rcases numb_cases s [⟨nm0, cat l ++ frameB rec, sy⟩] with ⟨q1, q2, q3, q4⟩ | ⟨q1, q2, q3, q4⟩ | ⟨q1, q2, q4⟩
  · refine Or.inl ⟨q1, ⟨hsm, (fun r hr => by cases hr), (by rw [h.cnt]; simp), (by have := h.hs; simp; omega), (by have := h.hy; simp; omega), ⟨l ++ [rec], sy, Or.inl rfl, fun _ => rfl, Or.inr (by rw [q2, cat_snoc]), hcl, by rw [ce_app _ _ h.hs]; exact h2, by rw [ce_app _ _ h.hy]; exact h3⟩, fun _ => by rw [q3]; exact hoff, by rw [q4]; exact h.in_, (numb_lim _ _).trans h.lim⟩⟩
  · refine Or.inr (Or.inr (Or.inr ⟨Or.inr q1, ⟨h.small, h.maysm, h.cnt, h.hs, h.hy, ⟨l, sy, Or.inl rfl, fun _ => rfl, ?_, h1, h2, h3⟩, fun q => (by cases q), by rw [q4]; exact h.in_, (numb_lim _ _).trans h.lim⟩⟩))
    unfold Fil at hF ⊢
    rw [q2]
    exact hF
  · refine Or.inr (Or.inr (Or.inl ⟨q1, ⟨h.small, hsm1, h.cnt, h.hs, h.hy, ?_, fun q => (by cases q), by rw [q4]; exact h.in_, (numb_lim _ _).trans h.lim⟩⟩))
    rcases q2 with q2 | q2
    · exact ⟨l ++ [rec], sy, Or.inr rfl, fun q => (by cases q), Or.inr (by rw [q2, cat_snoc]), hcl, h2, h3⟩
    · refine ⟨l, sy, Or.inl rfl, fun _ => rfl, ?_, h1, h2, h3⟩
      unfold Fil at hF ⊢
      rw [q2]
      exact hF
theorem Ld.syn {s : St} {here : List (List UInt8)} {safe c y : Nat} (h : Ld s here [] safe c y false) :
    ((lsyS s nm0 c y).2 = 0 ∧ Ld (lsyS s nm0 c y).1 here [] c c c false) ∨ ((lsyS s nm0 c y).2 ≠ 0 ∧ (lsyS s nm0 c y).2 ≠ 4 ∧ Ld (lsyS s nm0 c y).1 here [] safe c y true) := by
  obtain ⟨l, sy, _, hl, hF, h1, h2, h3⟩ := h.file
  obtain rfl := hl rfl
  have hoff := h.on rfl
  have hc := h.cnt
  unfold lsyS
  by_cases hyc : y = c
  · rw [if_pos hyc]
    refine Or.inl ⟨rfl, ⟨h.small, h.maysm, hc, by omega, by omega, ⟨l, sy, Or.inl rfl, fun _ => rfl, hF, h1, ?_, ?_⟩, h.on, h.in_, h.lim⟩⟩
    · rw [← hyc]; exact h3
    · rw [← hyc]; exact h3
  rw [if_neg hyc]
  unfold syncS
  by_cases hfe : foundE s nm0 ≠ 0
  · rw [if_pos hfe]
    refine Or.inr ⟨hfe, ?_, ⟨h.small, h.maysm, hc, h.hs, h.hy, ⟨l, sy, Or.inl rfl, fun _ => rfl, hF, h1, h2, h3⟩, fun q => (by cases q), h.in_, h.lim⟩⟩
    have ha : asked s nm0 = 0 := by simp [asked, hoff, nm0_ok]
    unfold foundE
    rw [if_pos ha]
    split
    · show (0 : Int) ≠ 4; decide
    · show (61 : Int) ≠ 4; decide
  rw [if_neg hfe]
  have eL : putF ⟨nm0, (fileOf s.fs nm0).bs, (fileOf s.fs nm0).bs.length⟩ s.fs = [⟨nm0, cat l, (cat l).length⟩] := by rw [hF.old.1, hF.put]
  rw [eL]
  have hall : ce l c = (cat l).length := by unfold ce; rw [List.take_of_length_le (by omega)]
  rcases numb_cases s [⟨nm0, cat l, (cat l).length⟩] with ⟨q1, q2, q3, q4⟩ | ⟨q1, q2, q3, q4⟩ | ⟨q1, q2, q4⟩
  · refine Or.inl ⟨q1, ⟨h.small, h.maysm, hc, by omega, by omega, ⟨l, (cat l).length, Or.inl rfl, fun _ => rfl, Or.inr q2, Nat.le_refl _, by omega, by omega⟩, fun _ => by rw [q3]; exact hoff, by rw [q4]; exact h.in_, (numb_lim _ _).trans h.lim⟩⟩
  · refine Or.inr ⟨by rw [q1]; decide, by rw [q1]; decide, ⟨h.small, h.maysm, hc, h.hs, h.hy, ⟨l, sy, Or.inl rfl, fun _ => rfl, ?_, h1, h2, h3⟩, fun q => (by cases q), by rw [q4]; exact h.in_, (numb_lim _ _).trans h.lim⟩⟩
    unfold Fil at hF ⊢
    rw [q2]
    exact hF
  · refine Or.inr ⟨by rw [q1]; decide, by rw [q1]; decide, ⟨h.small, h.maysm, hc, h.hs, h.hy, ?_, fun q => (by cases q), by rw [q4]; exact h.in_, (numb_lim _ _).trans h.lim⟩⟩
    rcases q2 with q2 | q2
    · have m1 := ce_le l safe
      have m2 := ce_le l y
      exact ⟨l, (cat l).length, Or.inl rfl, fun _ => rfl, Or.inr q2, Nat.le_refl _, m1, m2⟩
    · refine ⟨l, sy, Or.inl rfl, fun _ => rfl, ?_, h1, h2, h3⟩
      unfold Fil at hF ⊢
      rw [q2]
      exact hF
/-- P7.5: behind the crash. -/
theorem Ld.crash {s : St} {here may : List (List UInt8)} {safe c y : Nat} {d : Bool} (h : Ld s here may safe c y d) (hm : may.length ≤ 1) (keep : Int) (junk : UInt8) :
    ∃ bs sy x, Fil s bs sy ∧ sy ≤ bs.length ∧ scan (leftB bs sy keep junk) = (x, (cat x).length) ∧ safe ≤ x.length ∧ (∀ r ∈ x, r.length ≤ 262400) ∧ ((x.length ≤ here.length ∧ x = here.take x.length) ∨ x = here ++ may) := by
  obtain ⟨l, sy, hl, _, hF, h1, h2, _⟩ := h.file
  have hsm : ∀ r ∈ l, r.length ≤ 262400 := fun r hr => by
    rcases hl with rfl | rfl
    · exact h.small r hr
    · rcases List.mem_append.1 hr with q | q
      · exact h.small r q
      · exact h.maysm r q
  have hll : here.length ≤ l.length := by rcases hl with rfl | rfl <;> simp
  have hc2 : ce l safe ≤ sy := by
    rcases hl with rfl | rfl
    · exact h2
    · rw [ce_app _ _ h.hs]; exact h2
  obtain ⟨k, k1, k2, k3⟩ := crash_scan l hsm sy h1 keep junk safe (by have := h.hs; omega) hc2
  refine ⟨cat l, sy, l.take k, hF, h1, k3, by simp; omega, fun r hr => hsm r (List.mem_of_mem_take hr), ?_⟩
  rcases hl with rfl | rfl
  · exact Or.inl ⟨by simp; omega, by simp [Nat.min_eq_left k2]⟩
  · by_cases hk : k ≤ here.length
    · refine Or.inl ⟨by simp; omega, ?_⟩
      rw [List.take_append_of_le_length hk]
      simp [Nat.min_eq_left hk]
    · refine Or.inr (List.take_of_length_le ?_)
      simp at k2 ⊢
      omega
end Go.Proofs.YtbkbecjgphjpkabDoor
