/- What holds at the head of each life. -/
import Derived.Test.YtbkbecjgphjpkabDoorG14
namespace Go.Proofs.YtbkbecjgphjpkabDoor
open Go.RowKit Go.Maps
set_option linter.unusedVariables false

/-- The disk between two lives, and the law's lists of the life before. -/
def Rnd (W0 w : World) (p : Nat) (vh vm : Value) (safe : Nat) : Prop :=
  ∃ K s x ts ms, Dk w p K s ∧ Bt s x ∧ s.n = 0 ∧ (∀ k, K k → W0.heap.size ≤ k) ∧ Hr w vh ts ∧ Hr w vm ms ∧ (∀ k, hfoot vh ts k ∨ hfoot vm ms k → W0.heap.size ≤ k ∧ ¬ K k) ∧ safe ≤ x.length ∧
    ((x.length ≤ ts.length ∧ x = (ts.map (·.2)).take x.length) ∨ x = ts.map (·.2) ++ ms.map (·.2)) ∧ Turn no W0 w ∧ ts.length ≤ 1073741824 ∧ ms.length ≤ 1
theorem Bt.short {w : World} {p : Nat} {M : Nat → Prop} {s : St} {x : List (List UInt8)} (hk : Dk w p M s) (b : Bt s x) : x.length ≤ 1073741824 := by
  obtain ⟨bs, hF, hsc⟩ := b.fil
  have hbl : bs.length ≤ 1073741824 := by
    rcases hF with ⟨_, rfl, _⟩ | e'
    · simp
    · obtain ⟨bf, bt, V, k⟩ := id hk
      exact k.len (f := ⟨nm0, bs, bs.length⟩) (by rw [e']; simp)
  have hcl : (cat x).length ≤ bs.length := by
    have := (scan_stands _ bs (Nat.lt_succ_self _)).2.1
    rw [hsc] at this
    exact this
  have := cat_count x
  omega
section
variable {W0 w w' : World} {p : Nat} {vh vm : Value} {safe : Nat}
theorem Rnd.rest (h : Rnd W0 w p vh vm safe) (t : Turn no w w') : Rnd W0 w' p vh vm safe := by
  obtain ⟨K, s, x, ts, ms, h1, h2, h3, h4, h5, h6, h7, h8, h9, h10, h11⟩ := h
  exact ⟨K, s, x, ts, ms, h1.turn_no t, h2, h3, h4, h5.turn_no t, h6.turn_no t, h7, h8, h9, h10.then_no t, h11⟩
/-- The next one. -/
theorem Rnd.next {ts ms : List It} {w1 : World} {e : Ending} (T : Turn no W0 w1) (hb1 : ts.length ≤ 1073741824) (hb2 : ms.length ≤ 1) (hh : Hr w1 vh ts) (hm : Hr w1 vm ms) (hf : ∀ k, hfoot vh ts k ∨ hfoot vm ms k → W0.heap.size ≤ k) (t : Turn no w1 w) (n : Next w (ts.map (·.2)) (ms.map (·.2)) safe e w') :
    ∃ p', e = .returned (.tuple #[ptr p', .int .i64 0]) ∧ Rnd W0 w' p' vh vm safe := by
  obtain ⟨p', K, s, x, rfl, n1, n2, n3, n4, n5, n6, n7, n8⟩ := n
  have s1 := T.size
  have s2 := t.size
  have hK : ∀ k, K k → w.heap.size ≤ k := fun k z => by
    rcases n3 k z with z | z
    · exact z.elim
    · exact z
  refine ⟨p', rfl, K, s, x, ts, ms, n2, n4, n5, fun k z => by have := hK k z; omega, hh.turn_no (t.then_no n8), hm.turn_no (t.then_no n8), fun k z => ⟨hf k z, fun z' => ?_⟩, n6, ?_, (T.then_no t).then_no n8, hb1, hb2⟩
  · have := hK k z'
    rcases z with z | z
    · have := hh.lt k z; omega
    · have := hm.lt k z; omega
  · rw [List.length_map] at n7
    exact n7
theorem Rnd.start {e : Ending} (n : Next W0 [] [] 0 e w') : ∃ p', e = .returned (.tuple #[ptr p', .int .i64 0]) ∧ Rnd W0 w' p' (.slice none 0 0) (.slice none 0 0) 0 :=
  Rnd.next (ts := []) (ms := []) (Turn.refl no W0) (by simp) (by simp) (Hr.nil _) (Hr.nil _) (fun k z => by
    rcases z with (z | ⟨u, hu, _⟩) | (z | ⟨u, hu, _⟩)
    · cases z
    · cases hu
    · cases z
    · cases hu) (Turn.refl no W0) n
end
end Go.Proofs.YtbkbecjgphjpkabDoor
