/- crashed. -/
import Derived.Test.YtcdogciacchigabWh0
import Derived.Test.YtcdogciacchigabB1
namespace Go.Proofs.Ytcdogciacchigab
open Go.RowKit Go.Maps
set_option linter.unusedVariables false

section
variable {w : World} {p : Nat} {K : Nat → Prop} {s : St}
set_option maxRecDepth 100000 in
set_option maxHeartbeats 8000000 in
theorem crashed16 (hk : Dk w p K s) (hout : s.out = false) : Calls Try.prog 16 #[ptr p] w fun e w' => ∃ v, e = .returned (.tuple #[.agg #[v], .bool true]) ∧ Im w.heap.size w' v (crashL s.fs [] 0) ∧ Turn K w w' := by
  have T1 : Turn no w (w.alloc (.cells #[.slice none 0 0] 24)) := (Turn.refl no w).alloc _
  have R1 : Row (w.alloc (.cells #[.slice none 0 0] 24)) w.heap.size #[.slice none 0 0] 24 := Row.new w _ 24
  have hklt : ∀ k, K k → k < w.heap.size := by
    obtain ⟨_, _, _, hd⟩ := hk
    exact hd.klt
  have c1 := crash15 (hk.turn_no T1) hout (.slice none 0 0) [] (Or.inl ⟨rfl, rfl⟩) 0
  have hz := shut num10
  unfold ptr at *
  go_enter Try.func16, Try.ntmps16
  go_wp2_with fail
  refine c1.mono ?_
  rintro e w2 ⟨v, rfl, I2, _, t2⟩
  obtain ⟨a, c, rfl, _⟩ := I2.form
  generalize hfl : crashL s.fs [] 0 = fl at *
  have HFL := shut hfl
  clear hfl
  have R2 := R1.turn t2 (fun q => by have := hklt _ q; omega)
  have I2' : Im w.heap.size w2 (.slice a fl.length c) fl := by
    obtain ⟨vs, i1, i2, i3, i4⟩ := I2
    have hs1 : (w.alloc (.cells #[.slice none 0 0] 24)).heap.size = w.heap.size + 1 := by simp
    exact ⟨vs, i1, i2, fun g hg => by have := i3 g hg; omega, fun j f u hf hu => ⟨(i4 j f u hf hu).1, fun g hg => by have := (i4 j f u hf hu).2 g hg; omega⟩⟩
  obtain ⟨w3, hw3⟩ : ∃ w3, w3 = w2.alloc (.cells #[.slice a fl.length c] 24) := ⟨_, rfl⟩
  have T3 : Turn no w2 w3 := by rw [hw3]; exact (Turn.refl no w2).alloc _
  have R3 : Row w3 w2.heap.size #[.slice a fl.length c] 24 := by rw [hw3]; exact Row.new _ _ _
  have R23 := R2.turn T3 (fun q => q)
  have I3 := I2'.turn_no T3
  have TT : Turn K w w3 := ((T1.of_no).trans t2 (fun _ _ q => q)).then_no T3
  have hsz : w.heap.size < w2.heap.size := R2.lt
  clear c1 I2 I2' R1 R2 T1 t2
  go_wp2_with fail
  try rw [← hw3]
  clear hw3
  have hlt2 : w.heap.size ≠ w2.heap.size := by have := R23.lt; have := R3.lt; have := TT.size; have := hsz; omega
  have d1 : ∀ W, Turn (fun k => k = w.heap.size) w3 W → W.cell? ⟨w2.heap.size, 0, none⟩ = some (.slice a fl.length c) := fun W t => (R3.turn t (fun q => hlt2 q.symm)).cell 0 _ rfl
  have RF := (R23.drew).set 0 (.slice a fl.length c)
  have b1 : w3.drew.cell? ⟨w.heap.size, 0, none⟩ = some (.slice none 0 0) := R23.drew.cell 0 _ rfl
  have b2 : w3.drew.frozen? ⟨w.heap.size, 0, none⟩ = false := R23.drew.frozen 0
  have IF : Im w.heap.size (w3.drew.setCell ⟨w.heap.size, 0, none⟩ (.slice a fl.length c)) (.slice a fl.length c) fl := (I3.turn_no ((Turn.refl no w3).drew)).other R23.drew 0 _
  have TS : Turn (fun k => k = w.heap.size) w3 (w3.drew.setCell ⟨w.heap.size, 0, none⟩ (.slice a fl.length c)) := ((Turn.refl (fun k => k = w.heap.size) w3).drew).setCell (p := ⟨w.heap.size, 0, none⟩) (fun _ => rfl) _
  have TF : Turn K w (w3.drew.setCell ⟨w.heap.size, 0, none⟩ (.slice a fl.length c)) := TT.trans TS (fun k hk q => by have : k = w.heap.size := q; omega)
  have HRF := shut RF
  have HIF := shut IF
  have HTF := shut TF
  have hz3 := hz.out w3.drew 0
  clear RF IF TF I3 TT R3 R23
  refine wp_region_held_drew (S := fun W => Turn (fun k => k = w.heap.size) w3 W) (by kernel_rfl) (Turn.refl _ w3).drew (fun hHeld => ?_)
  refine' wpAnyH_take (i := 0) (v := .agg #[.slice a fl.length c]) rfl (by kernel_rfl) (by kernel_rfl) (by kernel_rfl) (fun _ _ _ h => h) (Or.inl ⟨by kernel_rfl, fun W hW => ?y1⟩) hHeld ?r1
  · have z := d1 W hW
    go_simp
  refine' wpAnyH_take (i := 1) (v := .int .i64 0) rfl (by kernel_rfl) (by kernel_rfl) (by kernel_rfl) (fun _ _ _ h => h) (Or.inl ⟨by kernel_rfl, fun W hW => ?y2⟩) hHeld ?r2
  · go_simp
  refine wpAnyH_ready (rs := [2]) (by kernel_rfl) (by simp) ?_
  refine AllReadyH.cons rfl (fun K hK => ?_) AllReadyH.nil
  go_simp
  refine hz3.mono ?_
  rintro e w4 ⟨rfl, rfl⟩
  refine hK.out _ _ hHeld (fun hHeld => ?_)
  clear hK
  refine' wpAnyH_take (i := 3) (v := .bool true) rfl (by kernel_rfl) (by kernel_rfl) (by kernel_rfl) (fun _ _ _ h => h) (Or.inl ⟨by kernel_rfl, fun W hW => ?y3⟩) hHeld ?r3
  · go_simp
  refine wpAnyH_ready (rs := [4]) (by kernel_rfl) (by simp) ?_
  refine AllReadyH.cons rfl (fun K hK => ?_) AllReadyH.nil
  go_simp
  refine hK.out _ _ TS (fun hHeld => ?_)
  clear hK
  refine wpAnyH_ready (rs := [5]) (by kernel_rfl) (by simp) ?_
  refine AllReadyH.cons rfl (fun K hK => ?_) AllReadyH.nil
  go_simp
  refine hK.out _ _ TS (fun hHeld => ?_)
  clear hK
  refine wpAnyH_done (by kernel_rfl) ?_ _
  go_wp2_with fail
  refine ⟨rfl, _, results_cell_row_tmp (g := w.heap.size) (cs := #[.slice a fl.length c]) (t := 24) rfl _ _ _ _ rfl HRF.out Try.underlying24 rfl (by kernel_rfl), _, rfl, by rw [HFL.out]; exact HIF.out, HTF.out⟩
end
end Go.Proofs.Ytcdogciacchigab
