/- What a crash leaves of a log's disk, mounted again: plain. -/
import Derived.Test.YtbkbecjgphjpkabDoorQ3
import Derived.Test.YtbkbecjgphjpkabDoorS2
import Derived.Test.YtbkbecjgphjpkabDoorI1
namespace Go.Proofs.YtbkbecjgphjpkabDoor
open Go.RowKit Go.Maps
set_option linter.unusedVariables false

theorem left_le (bs : List UInt8) (sy : Nat) (k : Int) (junk : UInt8) : (leftB bs sy k junk).length ≤ bs.length := by
  unfold leftB
  split
  · rw [List.length_take]; omega
  · rw [List.length_set, List.length_take]; omega
theorem Ld.mount {s : St} {here may : List (List UInt8)} {safe c y : Nat} {d : Bool} (h : Ld s here may safe c y d) (hm : may.length ≤ 1) (hI : Inv s) (keep : Int) (junk : UInt8) (l : List Fx) (hl : l.map (fun f => (f.nm, f.bs)) = crashL s.fs [keep] junk) :
    mOk 1048576 l = true ∧ ∃ x, Bt (mSt 1048576 l) x ∧ (mSt 1048576 l).n = 0 ∧ safe ≤ x.length ∧ ((x.length ≤ here.length ∧ x = here.take x.length) ∨ x = here ++ may) := by
  obtain ⟨bs, sy, x, hF, hsy, hsc, h1, h2, h3⟩ := h.crash hm keep junk
  have hlim := h.lim
  have hu := hI.used
  rcases hF with ⟨e, rfl, rfl⟩ | e
  · rw [e] at hl
    have : l = [] := by simpa [crashL] using hl
    subst this
    have e0 : leftB [] 0 keep junk = [] := by
      have := left_le [] 0 keep junk
      exact List.length_eq_zero_iff.1 (by simpa using this)
    rw [e0] at hsc
    exact ⟨by decide, x, ⟨⟨[], Or.inl ⟨rfl, rfl, rfl⟩, hsc⟩, Nat.zero_le _, rfl, rfl, rfl, rfl, rfl⟩, rfl, h1, h3⟩
  · rw [e] at hl hu
    have hc : crashL [⟨nm0, bs, sy⟩] [keep] junk = [(nm0, leftB bs sy keep junk)] := by simp [crashL]
    rw [hc] at hl
    obtain ⟨f, rfl⟩ : ∃ f, l = [f] := by
      rcases l with _ | ⟨f, _ | ⟨g, t⟩⟩
      · simp at hl
      · exact ⟨f, rfl⟩
      · simp at hl
    obtain ⟨fn, fv, fb⟩ := f
    simp only [List.map_cons, List.map_nil, List.cons.injEq, Prod.mk.injEq, and_true] at hl
    obtain ⟨rfl, rfl⟩ := hl
    have hlen : (leftB bs sy keep junk).length ≤ 1048576 := by
      have := left_le bs sy keep junk
      simp [usedF] at hu
      omega
    refine ⟨?_, x, ⟨⟨_, Or.inr rfl, hsc⟩, Nat.zero_le _, rfl, rfl, rfl, rfl, rfl⟩, rfl, h1, h3⟩
    have o : ordB [nm0] = true := by decide
    have hf : fitAt 1048576 [⟨nm0, fv, leftB bs sy keep junk⟩] 0 = true := by
      show fitsB (mSt 1048576 []) nm0 (leftB bs sy keep junk).length = true
      unfold fitsB
      simp only [mSt, mF, List.foldl_nil, usedF, List.map_nil, List.sum_nil, List.length_nil, Bool.and_eq_true, decide_eq_true_eq, Bool.or_eq_true]
      exact ⟨by omega, Or.inr (by decide)⟩
    unfold mOk
    rw [show ([⟨nm0, fv, leftB bs sy keep junk⟩] : List Fx).map Fx.nm = [nm0] from rfl, o]
    show (true && (decide ((1 : Int) ≤ 1048576) && decide ((1048576 : Int) ≤ 1073741824)) && ([0].all (fitAt 1048576 [⟨nm0, fv, leftB bs sy keep junk⟩]))) = true
    rw [List.all_cons, hf, List.all_nil]
    decide
end Go.Proofs.YtbkbecjgphjpkabDoor
