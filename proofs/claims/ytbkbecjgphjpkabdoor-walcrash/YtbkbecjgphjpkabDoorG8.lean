/- The life of a log: the law's live. -/
import Derived.Test.YtbkbecjgphjpkabDoorG7
import Derived.Test.YtbkbecjgphjpkabDoorS2
namespace Go.Proofs.YtbkbecjgphjpkabDoor
open Go.RowKit Go.Maps
set_option linter.unusedVariables false

section
variable {Wb w : World} {P : Nat → Prop} {q p : Nat} {vh vm : Value} {ts ms : List It} {here may : List (List UInt8)} {safe c y n : Nat} {d : Bool}
theorem Lw.len (h : Lw Wb P w q p vh vm ts ms here may safe c y d n) : c = here.length := by
  obtain ⟨M, s, h1, h2, h3, h4, h5, h6, h7, h8, h9, h10, h11⟩ := h
  exact h9.cnt
theorem Lw.rebase (h : Lw Wb P w q p vh vm ts ms here may safe c y d n) (a : Nat) (o : Obj) (ha : a = w.heap.size) : Lw (w.alloc o) (fun k => P k ∨ k = a) (w.alloc o) q p vh vm ts ms here may safe c y d n := by
  obtain ⟨M, s, h1, h2, h3, h4, h5, h6, h7, h8, h9, h10, h11⟩ := h
  have t : Turn no w (w.alloc o) := (Turn.refl no w).alloc o
  refine ⟨M, s, h1.turn_no t, fun k z z' => ?_, h3, fun z => ?_, h5.turn_no t, h6.turn_no t, h7.turn_no t, fun k z => ⟨fun z' => ?_, (h8 k z).2⟩, h9, h10, Turn.refl _ _⟩
  · rcases z' with z' | z'
    · exact h2 k z z'
    · have := h1.klt k z; omega
  · rcases z with z | z
    · exact h4 z
    · have := h5.lt; omega
  · have hl : k < w.heap.size := by
      rcases z with z | z
      · exact h6.lt k z
      · exact h7.lt k z
    rcases z' with z' | z'
    · exact (h8 k z).1 z'
    · omega
theorem Lw.unbase {W0 W1 : World} {P0 : Nat → Prop} {a : Nat} (t : Turn (fun k => ¬ P0 k) W0 W1) (h : Lw W1 (fun k => P0 k ∨ k = a) w q p vh vm ts ms here may safe c y d n) : Lw W0 P0 w q p vh vm ts ms here may safe c y d n := by
  obtain ⟨M, s, h1, h2, h3, h4, h5, h6, h7, h8, h9, h10, h11⟩ := h
  exact ⟨M, s, h1, fun k z z' => h2 k z (Or.inl z'), h3, fun z => h4 (Or.inl z), h5, h6, h7, fun k z => ⟨fun z' => (h8 k z).1 (Or.inl z'), (h8 k z).2⟩, h9, h10, t.trans h11 (fun i _ z z' => z (Or.inl z'))⟩
end
/-- What was taken lies in the file, and is short. -/
theorem Lw.short {Wb w : World} {P : Nat → Prop} {q p : Nat} {vh vm : Value} {ts ms : List It} {here may : List (List UInt8)} {safe c y n : Nat} {d : Bool} (h : Lw Wb P w q p vh vm ts ms here may safe c y d n) : here.length ≤ 1073741824 := by
  obtain ⟨M, s, h1, h2, h3, h4, h5, h6, h7, h8, h9, h10, h11⟩ := h
  obtain ⟨l, sy, hl, _, hF, _⟩ := h9.file
  have h2 : here.length ≤ l.length := by
    rcases hl with e | e
    · rw [e]; exact Nat.le_refl _
    · rw [e]; simp
  have h3 := cat_count l
  rcases hF with ⟨_, e, _⟩ | e
  · rw [e] at h3; simp at h3; omega
  · obtain ⟨bf, bt, V, k⟩ := h1
    have := k.len (f := ⟨nm0, cat l, sy⟩) (by rw [e]; simp)
    simp at this
    omega
end Go.Proofs.YtbkbecjgphjpkabDoor
