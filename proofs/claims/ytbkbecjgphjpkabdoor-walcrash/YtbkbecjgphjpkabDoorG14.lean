/- A life begins: the law's list out of what was opened. -/
import Derived.Test.YtbkbecjgphjpkabDoorG13
namespace Go.Proofs.YtbkbecjgphjpkabDoor
open Go.RowKit Go.Maps
set_option linter.unusedVariables false

theorem LsK.its {B C : Nat} {w : World} {vl : Value} {x : List (List UInt8)} (h : LsK B C w vl x) :
    ∃ ts : List It, ts.map (·.2) = x ∧ Own w 55 vl (ts.map (·.1)) ∧ (∀ g, vl.ownBlock = some g → B ≤ g ∧ g < C) ∧ ∀ t ∈ ts, Own w 5 t.1 (t.2.map bv) ∧ ∀ g, t.1.ownBlock = some g → B ≤ g ∧ g < C := by
  have hl := h.ls
  obtain ⟨w2, ⟨vs, a1, a2, a3, a4, a5⟩, hC, tt⟩ := h
  have e1 : (vs.zip x).map (·.1) = vs := List.map_fst_zip (by omega)
  have e2 : (vs.zip x).map (·.2) = x := List.map_snd_zip (by omega)
  have hlt : ∀ g, vl.ownBlock = some g → B ≤ g ∧ g < C := fun g hg => ⟨a3 g hg, by have := a2.lt hg; omega⟩
  have tk : ∀ g, B ≤ g ∧ g < C → ¬ (g < B ∨ C ≤ g) := fun g z => by omega
  refine ⟨vs.zip x, e2, by rw [e1]; exact a2.turn tt (fun g hg => tk g (hlt g hg)), hlt, fun t ht => ?_⟩
  obtain ⟨j, hj⟩ := List.getElem?_of_mem ht
  rw [List.getElem?_zip_eq_some] at hj
  obtain ⟨o, f⟩ := a5 j _ _ hj.2 hj.1
  have f2 : ∀ g, t.1.ownBlock = some g → B ≤ g ∧ g < C := fun g hg => ⟨f g hg, by have := o.lt hg; omega⟩
  exact ⟨o.turn tt (fun g hg => tk g (f2 g hg)), f2⟩
theorem Lm.begin {Wb w : World} {P : Nat → Prop} {p q B C : Nat} {M : Nat → Prop} {t : St} {vl : Value} {x : List (List UInt8)} (hP : ∀ k, P k → k < Wb.heap.size) (hBW : Wb.heap.size ≤ B) (K : LsK B C w vl x) (hk : Dk w p M t) (hM : ∀ k, M k → (k < B ∨ C ≤ k) ∧ ¬ P k) (hMq : ¬ M q) (hCq : C ≤ q) (hBC : B ≤ C)
    (g : Lg w q p nm0 x.length x.length false) (L : Ld t x [] x.length x.length x.length false) (T : Turn (fun k => ¬ P k) Wb w) :
    ∃ ts : List It, ts.map (·.2) = x ∧ Own w 55 vl (ts.map (·.1)) ∧ (∀ g, vl.ownBlock = some g → B ≤ g ∧ g < C) ∧ Bl w vl ts ∧ ∀ v' w', Turn no w w' → Own w' 55 v' (ts.map (·.1)) → (∀ g, v'.ownBlock = some g → w.heap.size ≤ g) →
      Lm Wb P w' q p v' (.slice none 0 0) ts [] (ts.map (·.2)) [] x.length x.length x.length false t.n t.m := by
  obtain ⟨ts, e, o, f, els⟩ := K.its
  refine ⟨ts, e, o, f, Own.bl o (fun t ht => (els t ht).1.bs), fun v' w' tt o' f' => ?_⟩
  have hq := g.lt
  have hs := T.size
  rw [e]
  refine ⟨M, t, hk.turn_no tt, fun k z => (hM k z).2, hMq, fun z => by have := hP q z; omega, g.turn_no tt, ⟨o', fun t ht => (els t ht).1.turn_no tt⟩, Hr.nil _, fun k z => ?_, L, rfl, T.then_no tt, Nat.le_refl _⟩
  rcases z with (z | ⟨u, hu, z⟩) | (z | ⟨u, hu, z⟩)
  · have h1 := f' k z
    exact ⟨fun z' => by have := hP k z'; omega, fun z' => by have := hk.klt k z'; omega, by omega⟩
  · have h1 := (els u hu).2 k z
    exact ⟨fun z' => by have := hP k z'; omega, fun z' => by have := (hM k z').1; omega, by omega⟩
  · cases z
  · cases hu
end Go.Proofs.YtbkbecjgphjpkabDoor
