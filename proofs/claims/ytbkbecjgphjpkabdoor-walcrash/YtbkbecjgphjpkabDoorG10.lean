/- The end of a log's life: Crash beside the law's lists. -/
import Derived.Test.YtbkbecjgphjpkabDoorG8
import Derived.Test.YtbkbecjgphjpkabDoorQ4
namespace Go.Proofs.YtbkbecjgphjpkabDoor
open Go.RowKit Go.Maps
set_option linter.unusedVariables false

/-- An image that tells a log of which all that was told as synced is left. -/
def Left (fl : List Fi) (here may : List (List UInt8)) (safe : Nat) : Prop :=
  ∀ l : List Fx, l.map (fun f => (f.nm, f.bs)) = fl → mOk 1048576 l = true ∧ ∃ x, Bt (mSt 1048576 l) x ∧ (mSt 1048576 l).n = 0 ∧ safe ≤ x.length ∧ ((x.length ≤ here.length ∧ x = here.take x.length) ∨ x = here ++ may)
section
variable {Wb w : World} {P : Nat → Prop} {q p : Nat} {vh vm : Value} {ts ms : List It} {here may : List (List UInt8)} {safe c y n : Nat} {d : Bool}
theorem Lw.crash (h : Lw Wb P w q p vh vm ts ms here may safe c y d n) (hm : may.length ≤ 1) (vk : Value) (keep : Int) (hkeep : Vs w vk ([keep].map iv)) (junk : UInt8) :
    Calls Tryd.prog 12 #[ptr p, vk, .int .u8 junk.toNat] w fun e w' => ∃ v fl, e = .returned (.tuple #[.agg #[v], .int .i64 0]) ∧ Im w.heap.size w' v fl ∧ (∀ f ∈ fl, f.1.length ≤ maxLen) ∧ Left fl here may safe ∧ Hr w' vh ts ∧ Hr w' vm ms ∧ (∀ k, hfoot vh ts k ∨ hfoot vm ms k → ¬ P k) ∧ Turn (fun k => ¬ P k) Wb w' := by
  obtain ⟨M, s, h1, h2, h3, h4, h5, h6, h7, h8, h9, h10, h11⟩ := h
  have hI : Inv s := by
    obtain ⟨bf, bt, V, k⟩ := h1
    exact k.inv
  have hnm : ∀ f ∈ crashL s.fs [keep] junk, f.1.length ≤ maxLen := by
    obtain ⟨l, sy, _, _, hF, _⟩ := h9.file
    intro f hf
    rcases hF with ⟨e, _⟩ | e
    · rw [e] at hf; simp [crashL] at hf
    · rw [e] at hf
      simp [crashL] at hf
      rw [hf]
      exact nm0_len
  refine (crash15 h1 h9.in_ vk [keep] hkeep junk).mono ?_
  rintro e w' ⟨v, rfl, im, _, t⟩
  refine ⟨v, _, rfl, im, hnm, fun l hl => h9.mount hm hI keep junk l hl, h6.turn t (fun k z z' => (h8 k (Or.inl z)).2.1 z'), h7.turn t (fun k z z' => (h8 k (Or.inr z)).2.1 z'), fun k z => (h8 k z).1, h11.trans t (fun i _ z => h2 i z)⟩
end
end Go.Proofs.YtbkbecjgphjpkabDoor
