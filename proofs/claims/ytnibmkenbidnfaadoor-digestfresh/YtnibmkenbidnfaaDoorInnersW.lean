/- The walk of DigestInners, out of the two callees' contracts. -/
import Derived.Test.YtnibmkenbidnfaaDoorD8
import Derived.Deep.RegionHeld3
namespace Go.Proofs.YtnibmkenbidnfaaDoor
open Go.RowKit
set_option linter.unusedVariables false

theorem Row.range {w : World} {g : Nat} {l : List Value} {e : TypeId} (h : Row w g l.toArray e) : w.rangeAt g 0 l := fun j v hv => by
  rw [Nat.zero_add]
  exact h.cell j v (by simpa using hv)
theorem range_turn {w w' : World} {g o : Nat} {l : List Value} (h : w.rangeAt g o l) (t : Turn no w w') : w'.rangeAt g o l := fun j v hv => t.keep (h j v hv) (fun q => q)

set_option maxRecDepth 100000 in
set_option maxHeartbeats 4000000 in
theorem inners_lit (w : World) (A B H : List Value) (hA : A.length = 32) (hB : B.length = 32)
    (H13 : ∀ W, Turn no w W → Calls Tryd.prog 13 #[.agg A.toArray, .agg B.toArray] W fun e w' => e = .returned (.agg H.toArray) ∧ Turn no W w')
    (H14 : ∀ W, Turn no w W → Calls Tryd.prog 14 #[.agg A.toArray, .agg B.toArray] W fun e w' => e = .returned (.agg H.toArray) ∧ Turn no W w')
    (heq : ∀ W, (binOp .eql 35 (.agg H.toArray) (.agg H.toArray)).run Tryd.prog W = .ok (.bool true) W) :
    Calls Tryd.prog 4 #[.agg A.toArray, .agg B.toArray] w fun e w' => e = .returned (.bool true) ∧ Turn no w w' := by
  go_enter Tryd.func4, Tryd.ntmps4
  go_wp2_with fail
  have RA := ((Row.new w A.toArray 35).alloc (.cells B.toArray 35)).range
  have RB := Row.new (w.alloc (.cells A.toArray 35)) B.toArray 35
  rw [show (w.alloc (.cells A.toArray 35)).heap.size = w.heap.size + 1 by simp] at RB
  have RB' := RB.range
  have T0 : Turn no w ((w.alloc (.cells A.toArray 35)).alloc (.cells B.toArray 35)) := ((Turn.refl no w).alloc _).alloc _
  clear RB
  generalize (w.alloc (.cells A.toArray 35)).alloc (.cells B.toArray 35) = w0 at *
  have T1 : Turn no w w0.drew := T0.drew
  have hu := Tryd.underlying35
  have hiA : (Tryd.prog.info? 35).map (·.size) = some A.length := by rw [hA]; exact size35
  have hiB : (Tryd.prog.info? 35).map (·.size) = some B.length := by rw [hB]; exact size35
  clear T0
  refine wp_region_held_drew (S := fun w' => w'.rangeAt w.heap.size 0 A ∧ w'.rangeAt (w.heap.size + 1) 0 B) (by kernel_rfl) ⟨by simpa using RA, by simpa using RB'⟩ (fun hHeld => ?_)
  refine' wpAnyH_take (i := 0) (v := _) rfl (by kernel_rfl) (by kernel_rfl) (by kernel_rfl) (fun _ _ _ h => h) (yieldsIf_load_mid (by rfl) _ _ rfl _ _ rfl _ _ (fun W h => h.1) hu rfl hiA) hHeld ?r0
  refine' wpAnyH_take (i := 1) (v := _) rfl (by kernel_rfl) (by kernel_rfl) (by kernel_rfl) (fun _ _ _ h => h) (yieldsIf_load_mid (by rfl) _ _ rfl _ _ rfl _ _ (fun W h => h.2) hu rfl hiB) hHeld ?r1
  refine' wpAnyH_take (i := 3) (v := _) rfl (by kernel_rfl) (by kernel_rfl) (by kernel_rfl) (fun _ _ _ h => h) (yieldsIf_load_mid (by rfl) _ _ rfl _ _ rfl _ _ (fun W h => h.1) hu rfl hiA) hHeld ?r3
  refine' wpAnyH_take (i := 4) (v := _) rfl (by kernel_rfl) (by kernel_rfl) (by kernel_rfl) (fun _ _ _ h => h) (yieldsIf_load_mid (by rfl) _ _ rfl _ _ rfl _ _ (fun W h => h.2) hu rfl hiB) hHeld ?r4
  refine wpAnyH_ready (rs := [2]) (by kernel_rfl) (by simp) ?_
  refine AllReadyH.cons rfl (fun K hK => ?_) AllReadyH.nil
  go_simp
  refine (H13 _ T1).mono ?_
  rintro e w5 ⟨rfl, t5⟩
  have R5 := range_turn hHeld.1 t5
  have S5 := range_turn hHeld.2 t5
  have T5 : Turn no w w5 := T1.then_no t5
  go_wp2_with fail
  refine hK.out _ _ ⟨R5, S5⟩ (fun hHeld => ?_)
  clear hK
  refine wpAnyH_ready (rs := [5]) (by kernel_rfl) (by simp) ?_
  refine AllReadyH.cons rfl (fun K hK => ?_) AllReadyH.nil
  go_simp
  refine (H14 _ T5).mono ?_
  rintro e w6 ⟨rfl, t6⟩
  have R6 := range_turn hHeld.1 t6
  have S6 := range_turn hHeld.2 t6
  have T6 : Turn no w w6 := T5.then_no t6
  go_wp2_with fail
  refine hK.out _ _ ⟨R6, S6⟩ (fun hHeld => ?_)
  clear hK
  refine wpAnyH_ready (rs := [6]) (by kernel_rfl) (by simp) ?_
  refine AllReadyH.cons rfl (fun K hK => ?_) AllReadyH.nil
  go_simp
  refine hK.out _ _ hHeld (fun hHeld => ?_)
  clear hK
  refine wpAnyH_ready (rs := [7]) (by kernel_rfl) (by simp) ?_
  refine AllReadyH.cons rfl (fun K hK => ?_) AllReadyH.nil
  go_simp
  refine hK.out _ _ hHeld (fun hHeld => ?_)
  clear hK
  refine wpAnyH_done (by kernel_rfl) ?_ _
  go_wp2_with fail
  go_ret
  exact ⟨rfl, T6⟩
end Go.Proofs.YtnibmkenbidnfaaDoor
