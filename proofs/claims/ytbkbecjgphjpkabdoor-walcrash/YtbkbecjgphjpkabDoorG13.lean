/- Arm, beside the law's lists. -/
import Derived.Test.YtbkbecjgphjpkabDoorG12
namespace Go.Proofs.YtbkbecjgphjpkabDoor
open Go.RowKit Go.Maps
set_option linter.unusedVariables false

theorem Ld.arm {s : St} {here may : List (List UInt8)} {safe c y : Nat} {d : Bool} (h : Ld s here may safe c y d) (t : Tr) : Ld (armS s t).1 here may safe c y d ∧ (armS s t).1.n = s.n ∧ (armS s t).1.m ≤ s.m + 1 := by
  unfold armS
  split
  · exact ⟨h, rfl, by simp⟩
  · split
    · exact ⟨⟨h.small, h.maysm, h.cnt, h.hs, h.hy, h.file, h.on, h.in_, h.lim⟩, rfl, Nat.le_refl _⟩
    · exact ⟨h, rfl, by simp⟩
/-- As Lw, with a bound on what was armed. -/
def Lm (Wb : World) (P : Nat → Prop) (w : World) (q p : Nat) (vh vm : Value) (ts ms : List It) (here may : List (List UInt8)) (safe c y : Nat) (d : Bool) (n m : Nat) : Prop :=
  ∃ M s, Dk w p M s ∧ (∀ k, M k → ¬ P k) ∧ ¬ M q ∧ ¬ P q ∧ Lg w q p nm0 c y d ∧ Hr w vh ts ∧ Hr w vm ms ∧ (∀ k, hfoot vh ts k ∨ hfoot vm ms k → ¬ P k ∧ ¬ M k ∧ k ≠ q) ∧ Ld s here may safe c y d ∧ s.n = n ∧ Turn (fun k => ¬ P k) Wb w ∧ s.m ≤ m
section
variable {Wb w : World} {P : Nat → Prop} {q p : Nat} {vh vm : Value} {ts ms : List It} {here may : List (List UInt8)} {safe c y n m : Nat} {d : Bool}
theorem Lm.lw (h : Lm Wb P w q p vh vm ts ms here may safe c y d n m) : Lw Wb P w q p vh vm ts ms here may safe c y d n := by
  obtain ⟨M, s, h1, h2, h3, h4, h5, h6, h7, h8, h9, h10, h11, h12⟩ := h
  exact ⟨M, s, h1, h2, h3, h4, h5, h6, h7, h8, h9, h10, h11⟩
theorem Lm.rest (h : Lm Wb P w q p vh vm ts ms here may safe c y d n m) {w' : World} (t : Turn no w w') : Lm Wb P w' q p vh vm ts ms here may safe c y d n m := by
  obtain ⟨M, s, h1, h2, h3, h4, h5, h6, h7, h8, h9, h10, h11, h12⟩ := h
  exact ⟨M, s, h1.turn_no t, h2, h3, h4, h5.turn_no t, h6.turn_no t, h7.turn_no t, h8, h9, h10, h11.then_no t, h12⟩
theorem Lm.arm (h : Lm Wb P w q p vh vm ts ms here may safe c y d n m) (hn : n < 4611686018427387904) (hm : m < 4611686018427387904) (t : Tr) :
    Calls Tryd.prog 10 #[ptr p, trV t] w fun e w' => (∃ E : Int, e = .returned (.int .i64 E)) ∧ Lm Wb P w' q p vh vm ts ms here may safe c y d n (m + 1) := by
  obtain ⟨M, s, h1, h2, h3, h4, h5, h6, h7, h8, h9, h10, h11, h12⟩ := h
  obtain ⟨l1, l2, l3⟩ := h9.arm t
  refine (arm11 h1 (by omega) (by omega) t).mono ?_
  rintro e w' ⟨rfl, k, tt⟩
  exact ⟨⟨_, rfl⟩, M, _, k, h2, h3, h4, h5.turn tt h3, h6.turn tt (fun k z z' => (h8 k (Or.inl z)).2.1 z'), h7.turn tt (fun k z z' => (h8 k (Or.inr z)).2.1 z'), h8, l1, by omega, h11.trans tt (fun i _ z => h2 i z), by omega⟩
end
end Go.Proofs.YtbkbecjgphjpkabDoor
