/- PlainTx of the document; named; its parts. -/
import Derived.Test.YtgimecdmleofeaaDoorT1
import Derived.Test.YtgimecdmleofeaaDoorXx
namespace Go.Proofs.YtgimecdmleofeaaDoor
open Go.RowKit
set_option linter.unusedVariables false

set_option maxRecDepth 100000 in
set_option maxHeartbeats 4000000 in
theorem plain36 (w : World) (x : Tx) : Calls Tryd.prog 30 #[.agg x.cs.toArray] w fun e w' => e = .returned (.int .i64 (plainT x)) ∧ Turn no w w' := by
  obtain ⟨c0, c1, c2, c3, c4, c5, _⟩ := (Row.new w x.cs.toArray 27).tx
  simp only [Nat.zero_add] at c1 c2 c3 c4 c5
  unfold plainT
  generalize x.cs.toArray = C at *
  generalize x.k = k at *
  generalize x.fr = fr at *
  generalize x.to = to at *
  generalize x.am = am at *
  generalize x.fe = fe at *
  clear c5
  have A := fun w n => amount76 w n
  by_cases h1 : k < 1
  · rw [if_pos (.inl h1)]
    go_enter Tryd.func30, Tryd.ntmps30
    go_wp2_with fail
    go_ret
    exact ⟨rfl, (Turn.refl no w).alloc _⟩
  · by_cases h2 : 4 < k
    · rw [if_pos (.inr h2)]
      go_enter Tryd.func30, Tryd.ntmps30
      go_wp2_with fail
      go_ret
      exact ⟨rfl, (Turn.refl no w).alloc _⟩
    · rw [if_neg (fun q => q.elim h1 h2)]
      have hT : ((to : Int) == 0) = true ∨ ((to : Int) == 0) = false := by cases ((to : Int) == 0) <;> simp
      have hK : (k == 1) = true ∨ (k == 1) = false := by cases (k == 1) <;> simp
      have hk4 : (k == 4) = true ∨ (k == 4) = false := by cases (k == 4) <;> simp
      have hz : ((am : Int) == 0) = true ∨ ((am : Int) == 0) = false := by cases ((am : Int) == 0) <;> simp
      have hf : ((fr : Int) == 0) = true ∨ ((fr : Int) == 0) = false := by cases ((fr : Int) == 0) <;> simp
      have ha : aB am = true ∨ aB am = false := by cases aB am <;> simp
      have hb : aB fe = true ∨ aB fe = false := by cases aB fe <;> simp
      have nT : ((to : Int) != 0) = !((to : Int) == 0) := rfl
      have n4 : (k != 4) = !(k == 4) := rfl
      have nz : ((am : Int) != 0) = !((am : Int) == 0) := rfl
      have nf : ((fr : Int) != 0) = !((fr : Int) == 0) := rfl
      rw [nT, n4, nf]
      rcases hf with hf | hf
      · rw [hf]
        have : fieldE (!true && ((k == 1) == !((to : Int) == 0)) && (aB am && (!(k == 4) || (am : Int) == 0)) && aB fe) = 41 := by simp [fieldE]
        rw [this]
        go_enter Tryd.func30, Tryd.ntmps30
        go_wp2_with fail
        go_ret
        exact ⟨rfl, (Turn.refl no w).alloc _⟩
      · rcases hT with hT | hT <;> rcases hK with hK | hK <;> rcases ha with ha | ha <;> rcases hk4 with hk4 | hk4 <;> rcases hz with hz | hz <;> rcases hb with hb | hb
        all_goals (
          have nz' := nz
          rw [hz] at nz'
          go_enter Tryd.func30, Tryd.ntmps30
          go_wp2_with (go_at_call 70; refine (A _ _).mono ?_; rintro e w' ⟨rfl, rfl⟩)
          go_ret
          exact ⟨by simp [*, fieldE], (Turn.refl no w).alloc _⟩)
end Go.Proofs.YtgimecdmleofeaaDoor

