/- PlainVote of the document. -/
import Derived.Test.YtpfjllkmaogafaaU1
namespace Go.Proofs.Ytpfjllkmaogafaa
open Go.RowKit
set_option linter.unusedVariables false

theorem bne_of {a b : Int} {x : Bool} (h : (a == b) = x) : (a != b) = !x := by simp [bne, h]
set_option maxRecDepth 100000 in
set_option maxHeartbeats 4000000 in
theorem plain12_0 (w : World) (v : Vt) (ho : v.ok) (h1 : ¬ v.k = 1) (h2 : ¬ v.k = 2) : Calls Try.prog 39 #[.agg v.cs.toArray] w fun e w' => e = .returned (.int .i64 (plainE v)) ∧ Turn no w w' := by
  rw [plainE_0 h1 h2]
  have g1 : (v.k != 1) = true := by simpa using h1
  have g2 : (v.k != 2) = true := by simpa using h2
  obtain ⟨c0, _, _, _, _, _⟩ := (Row.new w v.cs.toArray 31).vt ho
  generalize v.cs.toArray = C at *
  go_enter Try.func39, Try.ntmps39
  go_wp2_with fail
  go_ret
  exact ⟨rfl, (Turn.refl no w).alloc _⟩
set_option maxRecDepth 100000 in
set_option maxHeartbeats 4000000 in
theorem plain12_1 (w : World) (v : Vt) (ho : v.ok) (h1 : v.k = 1) : Calls Try.prog 39 #[.agg v.cs.toArray] w fun e w' => e = .returned (.int .i64 (plainE v)) ∧ Turn no w w' := by
  rw [plainE_1 h1]
  obtain ⟨c0, c1, c2, c35, c36, cid⟩ := (Row.new w v.cs.toArray 31).vt ho
  generalize v.cs.toArray = C at *
  rw [h1] at c0
  clear h1 cid
  generalize v.h = vh at *
  generalize v.r = vr at *
  generalize v.t = vt at *
  generalize v.f = vf at *
  clear ho
  refine cut4 (hB vh) (rB vr) (tB vt) ?_ ?_ ?_ ?_ <;> intros
  · go_enter Try.func39, Try.ntmps39
    go_wp2_with (first | (go_at_call 81; refine (height21 _ _).mono ?_; rintro e w' ⟨rfl, rfl⟩) | (go_at_call 82; refine (round22 _ _).mono ?_; rintro e w' ⟨rfl, rfl⟩) | (go_at_call 83; refine (time23 _ _).mono ?_; rintro e w' ⟨rfl, rfl⟩))
    go_ret
    exact ⟨by simp [fieldE, *], (Turn.refl no w).alloc _⟩
  · go_enter Try.func39, Try.ntmps39
    go_wp2_with (first | (go_at_call 81; refine (height21 _ _).mono ?_; rintro e w' ⟨rfl, rfl⟩) | (go_at_call 82; refine (round22 _ _).mono ?_; rintro e w' ⟨rfl, rfl⟩) | (go_at_call 83; refine (time23 _ _).mono ?_; rintro e w' ⟨rfl, rfl⟩))
    go_ret
    exact ⟨by simp [fieldE, *], (Turn.refl no w).alloc _⟩
  · go_enter Try.func39, Try.ntmps39
    go_wp2_with (first | (go_at_call 81; refine (height21 _ _).mono ?_; rintro e w' ⟨rfl, rfl⟩) | (go_at_call 82; refine (round22 _ _).mono ?_; rintro e w' ⟨rfl, rfl⟩) | (go_at_call 83; refine (time23 _ _).mono ?_; rintro e w' ⟨rfl, rfl⟩))
    go_ret
    exact ⟨by simp [fieldE, *], (Turn.refl no w).alloc _⟩
  · cases q1 : (vt == 0) <;> cases q2 : (vf == 0)
    all_goals (
      have q3 := bne_of q1
      have q4 := bne_of q2
      go_enter Try.func39, Try.ntmps39
      go_wp2_with (first | (go_at_call 81; refine (height21 _ _).mono ?_; rintro e w' ⟨rfl, rfl⟩) | (go_at_call 82; refine (round22 _ _).mono ?_; rintro e w' ⟨rfl, rfl⟩) | (go_at_call 83; refine (time23 _ _).mono ?_; rintro e w' ⟨rfl, rfl⟩))
      go_ret
      exact ⟨by simp [fieldE, *], (Turn.refl no w).alloc _⟩)
set_option maxRecDepth 100000 in
set_option maxHeartbeats 4000000 in
theorem plain12_2 (w : World) (v : Vt) (ho : v.ok) (h1 : v.k = 2) : Calls Try.prog 39 #[.agg v.cs.toArray] w fun e w' => e = .returned (.int .i64 (plainE v)) ∧ Turn no w w' := by
  rw [plainE_2 h1]
  obtain ⟨c0, c1, c2, c35, c36, cid⟩ := (Row.new w v.cs.toArray 31).vt ho
  have hi : (Try.prog.info? 29).map (·.size) = some (v.id.map bv).length := by rw [List.length_map, ho.1]; exact size24
  have he := fun W => eqz W v.id ho.1
  generalize v.cs.toArray = C at *
  rw [h1] at c0
  clear h1
  generalize v.id.map bv = D at *
  generalize (v.id == zid) = B at *
  generalize v.h = vh at *
  generalize v.r = vr at *
  generalize v.t = vt at *
  generalize v.f = vf at *
  clear ho
  refine cut4 (hB vh) (rB vr) (tB vt) ?_ ?_ ?_ ?_ <;> intros
  · go_enter Try.func39, Try.ntmps39
    go_wp2_with (first | (go_at_call 81; refine (height21 _ _).mono ?_; rintro e w' ⟨rfl, rfl⟩) | (go_at_call 82; refine (round22 _ _).mono ?_; rintro e w' ⟨rfl, rfl⟩) | (go_at_call 83; refine (time23 _ _).mono ?_; rintro e w' ⟨rfl, rfl⟩))
    go_ret
    exact ⟨by simp [fieldE, *], (Turn.refl no w).alloc _⟩
  · go_enter Try.func39, Try.ntmps39
    go_wp2_with (first | (go_at_call 81; refine (height21 _ _).mono ?_; rintro e w' ⟨rfl, rfl⟩) | (go_at_call 82; refine (round22 _ _).mono ?_; rintro e w' ⟨rfl, rfl⟩) | (go_at_call 83; refine (time23 _ _).mono ?_; rintro e w' ⟨rfl, rfl⟩))
    go_ret
    exact ⟨by simp [fieldE, *], (Turn.refl no w).alloc _⟩
  · go_enter Try.func39, Try.ntmps39
    go_wp2_with (first | (go_at_call 81; refine (height21 _ _).mono ?_; rintro e w' ⟨rfl, rfl⟩) | (go_at_call 82; refine (round22 _ _).mono ?_; rintro e w' ⟨rfl, rfl⟩) | (go_at_call 83; refine (time23 _ _).mono ?_; rintro e w' ⟨rfl, rfl⟩))
    go_ret
    exact ⟨by simp [fieldE, *], (Turn.refl no w).alloc _⟩
  · cases q1 : (vt == 0)
    · cases q2 : (vf == 0) <;> cases q5 : B
      all_goals (
        have q3 := bne_of q1
        have q4 := bne_of q2
        go_enter Try.func39, Try.ntmps39
        go_wp2_with (first | (go_at_call 81; refine (height21 _ _).mono ?_; rintro e w' ⟨rfl, rfl⟩) | (go_at_call 82; refine (round22 _ _).mono ?_; rintro e w' ⟨rfl, rfl⟩))
        refine (time23 _ _).mono ?_
        rintro e w' ⟨rfl, rfl⟩
        go_wp2_with (refine wpList_load_midG (by rfl) 29 (.tmp 35) rfl w.heap.size 3 rfl D _ cid Try.underlying29 rfl hi ?_)
        go_ret
        exact ⟨by simp [fieldE, *], (Turn.refl no w).alloc _⟩)
    · clear cid hi he
      cases q2 : (vf == 0) <;> cases q5 : B
      all_goals (
        have q3 := bne_of q1
        have q4 := bne_of q2
        go_enter Try.func39, Try.ntmps39
        go_wp2_with (first | (go_at_call 81; refine (height21 _ _).mono ?_; rintro e w' ⟨rfl, rfl⟩) | (go_at_call 82; refine (round22 _ _).mono ?_; rintro e w' ⟨rfl, rfl⟩))
        refine (time23 _ _).mono ?_
        rintro e w' ⟨rfl, rfl⟩
        go_wp2_with fail
        go_ret
        exact ⟨by simp [fieldE, *], (Turn.refl no w).alloc _⟩)
theorem plain12 (w : World) (v : Vt) (ho : v.ok) : Calls Try.prog 39 #[.agg v.cs.toArray] w fun e w' => e = .returned (.int .i64 (plainE v)) ∧ Turn no w w' := by
  by_cases h1 : v.k = 1
  · exact plain12_1 w v ho h1
  · by_cases h2 : v.k = 2
    · exact plain12_2 w v ho h2
    · exact plain12_0 w v ho h1 h2
end Go.Proofs.Ytpfjllkmaogafaa
