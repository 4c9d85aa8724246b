/- An image of Crash, as Mount takes it. -/
import Derived.Test.YtbkbecjgphjpkabDoorG10
namespace Go.Proofs.YtbkbecjgphjpkabDoor
open Go.RowKit Go.Maps
set_option linter.unusedVariables false

def fxs (fl : List Fi) (vs : List Value) : List Fx := (fl.zip vs).map (fun x => ⟨x.1.1, x.2, x.1.2⟩)
theorem fxs_at {fl : List Fi} {vs : List Value} {j : Nat} {f : Fx} (h : (fxs fl vs)[j]? = some f) : fl[j]? = some (f.nm, f.bs) ∧ vs[j]? = some f.vb := by
  unfold fxs at h
  rw [List.getElem?_map, Option.map_eq_some_iff] at h
  obtain ⟨⟨⟨a, b⟩, u⟩, h1, rfl⟩ := h
  rw [List.getElem?_zip_eq_some] at h1
  exact h1
theorem Im.fs {B : Nat} {w : World} {v : Value} {fl : List Fi} (h : Im B w v fl) (hn : ∀ f ∈ fl, f.1.length ≤ maxLen) :
    ∃ a cap l, v = .slice a l.length cap ∧ l.map (fun f => (f.nm, f.bs)) = fl ∧ Fs w.heap.size w a cap l := by
  obtain ⟨vs, h1, h2, h3, h4⟩ := h
  obtain ⟨a, cap, rfl, _, q1, q2, q3⟩ := h2.form
  have hl : (fxs fl vs).length = fl.length := by simp [fxs, h1]
  refine ⟨a, cap, fxs fl vs, by rw [hl], ?_, ⟨by omega, q3, fun f hf => ?_, fun j f hj => ?_⟩⟩
  · unfold fxs
    rw [List.map_map]
    have : ((fun f : Fx => (f.nm, f.bs)) ∘ fun x : Fi × Value => (⟨x.1.1, x.2, x.1.2⟩ : Fx)) = Prod.fst := by funext x; rfl
    rw [this, List.map_fst_zip (by omega)]
  · obtain ⟨j, hj⟩ := List.getElem?_of_mem hf
    obtain ⟨e1, e2⟩ := fxs_at hj
    have o := (h4 j _ _ e1 e2).1
    exact ⟨hn _ (List.mem_of_getElem? e1), o.bs, fun _ g hg => o.lt hg⟩
  · obtain ⟨e1, e2⟩ := fxs_at hj
    obtain ⟨i1, i2⟩ := imC_at fl vs h1 j _ _ e1 e2
    have hjl : j < fl.length := by
      rw [List.getElem?_eq_some_iff] at e1
      exact e1.1
    rcases h2.2 with ⟨e, z⟩ | ⟨g, cap', cur, e, _⟩
    · omega
    · cases e
      refine ⟨g, 0, rfl, h2.lt rfl, ?_, ?_⟩
      · rw [Nat.zero_add, World.ownsRow.cellAt h2 _ (by omega)]; exact i1
      · rw [Nat.zero_add, World.ownsRow.cellAt h2 _ (by omega)]; exact i2
/-- The next life's disk. -/
def Next (w : World) (here may : List (List UInt8)) (safe : Nat) (e : Ending) (w' : World) : Prop :=
  ∃ p' K s x, e = .returned (.tuple #[ptr p', .int .i64 0]) ∧ w.heap.size ≤ p' ∧ Dk w' p' K s ∧ From w no K ∧ Bt s x ∧ s.n = 0 ∧ safe ≤ x.length ∧ ((x.length ≤ here.length ∧ x = here.take x.length) ∨ x = here ++ may) ∧ Turn no w w'
theorem mount_left {B : Nat} {w : World} {v : Value} {fl : List Fi} (h : Im B w v fl) (hn : ∀ f ∈ fl, f.1.length ≤ maxLen) {here may : List (List UInt8)} {safe : Nat} (L : Left fl here may safe) :
    Calls Tryd.prog 13 #[.agg #[v], .int .i64 1048576] w (Next w here may safe) := by
  obtain ⟨a, cap, l, rfl, hl, F⟩ := h.fs hn
  obtain ⟨ok, x, b1, b2, b3, b4⟩ := L l hl
  refine (mount25 w.heap.size w (Nat.le_refl _) a cap l F 1048576).mono ?_
  rintro e w' (⟨no', _⟩ | ⟨_, q, K, rfl, q1, q2, q3, q4⟩)
  · rw [ok] at no'; cases no'
  · exact ⟨q, K, _, x, rfl, q1, q2, q3, b1, b2, b3, b4, q4⟩
theorem new_next (w : World) : Calls Tryd.prog 4 #[.int .i64 1048576] w (Next w [] [] 0) := by
  refine (new9 w 1048576 (by decide) (by decide)).mono ?_
  rintro e w' ⟨q, K, rfl, q1, q2, q3, q4⟩
  exact ⟨q, K, _, [], rfl, q1, q2, q3, Bt.new, rfl, Nat.zero_le _, Or.inr rfl, q4⟩
end Go.Proofs.YtbkbecjgphjpkabDoor
