/- The walk of DigestNone. -/
import Derived.Test.YtnibmkenbidnfaaDoorD8
namespace Go.Proofs.YtnibmkenbidnfaaDoor
open Go.RowKit
set_option linter.unusedVariables false

set_option maxRecDepth 100000 in
set_option maxHeartbeats 4000000 in
theorem none_walk (w : World) (a : Option Addr) (n c : Nat) (hl : Laid1 w) (h2 : 2 ≤ w.heap.size) :
    Calls Tryd.prog 3 #[.slice a n c] w fun e w' => e = .returned (.bool true) ∧ Turn no w w' := by
  have hzz : ∀ W, (binOp .eql 35 (.agg zeroH) (.agg zeroH)).run Tryd.prog W = .ok (.bool true) W := fun W => by
    have := eql35 W (List.replicate 32 0) (List.replicate 32 0) (by simp) (by simp)
    rw [beq_self_eq_true] at this
    exact this
  have hb35 : ∀ W, (zeroValue 35).run Tryd.prog W = .ok (.agg zeroH) W := fun W => by rw [Tryd.zeroValue35]; rfl
  go_enter Tryd.func3, Tryd.ntmps3
  go_wp2_with fail
  refine (write_no _ _ _ (Or.inl rfl) _ _ _ rfl).mono ?_
  rintro e w1 ⟨rfl, rfl⟩
  go_wp2_with fail
  have hz : (w.alloc (.cells Tryd.zeroCells31 31)).cell? ⟨w.heap.size, 0, none⟩ = some (.pointer none) := (Row.new w _ 31).cell 0 _ (by kernel_rfl)
  have T1 : Turn no w (w.alloc (.cells Tryd.zeroCells31 31)) := (Turn.refl no w).alloc _
  generalize w.alloc (.cells Tryd.zeroCells31 31) = w1 at *
  have h2' : 2 ≤ w1.heap.size := by have := T1.size; omega
  generalize w.heap.size = p at *
  refine (write_no _ _ _ (Or.inr ⟨p, rfl, hz⟩) _ _ _ rfl).mono ?_
  rintro e w2 ⟨rfl, rfl⟩
  go_wp2_with fail
  refine (alive_any _ (hl.turn T1 (fun q => q)) h2').mono ?_
  rintro e w3 ⟨rfl, t3⟩
  have hz3 := t3.keep hz (fun q => q)
  have T3 := T1.then_no t3
  clear hz T1 t3
  go_wp2_with fail
  refine (sum_no _ _ (Or.inl rfl)).mono ?_
  rintro e w4 ⟨rfl, t4⟩
  have hz4 := t4.keep hz3 (fun q => q)
  have T4 := T3.then_no t4
  clear hz3 T3 t4
  go_wp2_with fail
  refine (sum_no _ _ (Or.inr ⟨p, rfl, hz4⟩)).mono ?_
  rintro e w5 ⟨rfl, t5⟩
  have hz5 := t5.keep hz4 (fun q => q)
  have T5 := T4.then_no t5
  clear hz4 T4 t5
  go_wp2_with fail
  refine (copy_no _ _ (Or.inl rfl)).mono ?_
  rintro e w6 ⟨rfl, rfl⟩
  go_wp2_with fail
  refine (copy_no _ _ (Or.inr ⟨p, rfl, hz5⟩)).mono ?_
  rintro e w6 ⟨rfl, rfl⟩
  go_wp2_with fail
  go_ret
  exact ⟨rfl, T5⟩
end Go.Proofs.YtnibmkenbidnfaaDoor
