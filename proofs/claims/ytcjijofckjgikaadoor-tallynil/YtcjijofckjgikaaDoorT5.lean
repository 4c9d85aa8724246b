/- Add of a first vote. -/
import Derived.Test.YtcjijofckjgikaaDoorT4
namespace Go.Proofs.YtcjijofckjgikaaDoor
open Go.RowKit
open Go.ChangeMaps (setBlock)
set_option linter.unusedVariables false

theorem idx1 : idxE [mb1] 1 = 0 := by decide
set_option maxRecDepth 100000 in
set_option maxHeartbeats 4000000 in
theorem add5 (w : World) (p m g cap : Nat) (h : Tl w p m g cap) (hm : w.heap[m]? = some (.map #[] 0)) (hl : LaidK w) (V : Array Value) (hV : V.size = 53) (hV1 : V.all (·.oneCell') = true)
    (v0 : V[(0 : Nat)]? = some (.int .i64 1)) (v1 : V[(1 : Nat)]? = some (.int .u64 1)) (v2 : V[(2 : Nat)]? = some (.int .i64 0)) (v36 : V[(36 : Nat)]? = some (.int .u64 1)) :
    Calls Tryd.prog 5 #[.pointer (some ⟨p, 0, none⟩), .agg V] w fun e w' => e = .returned (.tuple #[.agg A1, .int .i64 0]) ∧ w'.heap[m]? = some (.map #[⟨k0, .agg V, 0⟩] 1) ∧ Turn (fun k => k = m) w w' := by
  have hi29 : (Tryd.prog.info? 29).map (·.size) = some V.size := by rw [size29, hV]
  obtain ⟨w0, hw0⟩ : ∃ w0, (w.alloc (.cells V 29)).alloc (.cells Tryd.zeroCells42 42) = w0 := ⟨_, rfl⟩
  have T0 : Turn no w w0 := by rw [← hw0]; exact ((Turn.refl no w).alloc _).alloc _
  have B0 : Row w0 w.heap.size V 29 := by rw [← hw0]; exact (Row.new w _ 29).alloc _
  have B1 : Row w0 (w.heap.size + 1) Tryd.zeroCells42 42 := by rw [← hw0]; exact Row.newAt _ _ _ _ (by simp)
  have h0 := h.turn T0 (fun q => q) (fun q => q)
  have m0 := obj_turn hm T0 (fun q => q)
  have l0 := hl.turn T0
  have x0 := B0.cell 0 _ v0
  have x1 := B0.cell 1 _ v1
  have x2 := B0.cell 2 _ v2
  have x36 := B0.cell 36 _ v36
  have cmade := made18 w0 p h0.c0
  have ckind := isKind19 w0 l0
  have HB0 := shut B0
  have HB1 := shut B1
  clear hl l0 B0 B1
  go_enter Tryd.func5, Tryd.ntmps5
  go_upto_region 1 with fail
  try rw [hw0]
  go_wp2_with (first | (go_at_call 18; refine cmade.mono ?_; rintro e w1 ⟨rfl, rfl⟩) | (go_at_call 19; refine ckind.mono ?_; rintro e w1 ⟨rfl, rfl⟩))
  have y1 := h0.c1
  refine wp_region_noPanic ?_
  refine wp_region_held_drew (S := fun W => Turn no w1 W) (by kernel_rfl) ((Turn.refl no w1).drew) (fun hHeld => ?_)
  refine' wpAnyH_take (i := 0) (v := .pointer (some ⟨w.heap.size, 1, none⟩)) rfl (by kernel_rfl) (by kernel_rfl) (by kernel_rfl) (fun _ _ _ h => h) (Or.inl ⟨by kernel_rfl, fun W hW => ?y1⟩) hHeld ?r1
  · go_simp
  refine' wpAnyH_take (i := 1) (v := .int .u64 1) rfl (by kernel_rfl) (by kernel_rfl) (by kernel_rfl) (fun _ _ _ h => h) (Or.inl ⟨by kernel_rfl, fun W hW => ?y2⟩) hHeld ?r2
  · have c := hW.keep x1 (fun q => q)
    go_simp
  refine' wpAnyH_take (i := 2) (v := .pointer (some ⟨p, 0, none⟩)) rfl (by kernel_rfl) (by kernel_rfl) (by kernel_rfl) (fun _ _ _ h => h) (Or.inl ⟨by kernel_rfl, fun W hW => ?y3⟩) hHeld ?r3
  · go_simp
  refine' wpAnyH_take (i := 3) (v := .pointer (some ⟨p, 0, none⟩)) rfl (by kernel_rfl) (by kernel_rfl) (by kernel_rfl) (fun _ _ _ h => h) (Or.inl ⟨by kernel_rfl, fun W hW => ?y4⟩) hHeld ?r4
  · go_simp
  refine' wpAnyH_take (i := 4) (v := .pointer (some ⟨p, 1, none⟩)) rfl (by kernel_rfl) (by kernel_rfl) (by kernel_rfl) (fun _ _ _ h => h) (Or.inl ⟨by kernel_rfl, fun W hW => ?y5⟩) hHeld ?r5
  · go_simp
  refine' wpAnyH_take (i := 5) (v := .int .u64 1) rfl (by kernel_rfl) (by kernel_rfl) (by kernel_rfl) (fun _ _ _ h => h) (Or.inl ⟨by kernel_rfl, fun W hW => ?y6⟩) hHeld ?r6
  · have c := hW.keep y1 (fun q => q)
    go_simp
  refine' wpAnyH_take (i := 6) (v := .bool false) rfl (by kernel_rfl) (by kernel_rfl) (by kernel_rfl) (fun _ _ _ h => h) (Or.inl ⟨by kernel_rfl, fun W hW => ?y7⟩) hHeld ?r7
  · go_simp
  refine wpAnyH_done (by kernel_rfl) ?_ _
  refine NoPanic.normal ?_
  go_simp
  go_wp2_with fail
  have T1 : Turn no w1 w1.drew := (Turn.refl no w1).drew
  have h1 := h0.turn T1 (fun q => q) (fun q => q)
  have cix := index20 w1.drew.drew _ [mb1] (h1.turn (Turn.refl no _).drew (fun q => q) (fun q => q)).ms 1
  rw [idx1] at cix
  have y2 := h1.c2
  have x36' := T1.keep x36 (fun q => q)
  have x0' := T1.keep x0 (fun q => q)
  have x2' := T1.keep x2 (fun q => q)
  have B0 := HB0.out.turn T1 (fun q => q)
  have B1 := HB1.out.turn T1 (fun q => q)
  have m1 := obj_turn m0 T1 (fun q => q)
  have T01 := T0.then_no T1
  clear x36 x0 x2 x1 y1 HB0 HB1 m0 T0 T1 h0 cmade ckind
  generalize w1.drew = w2 at *
  refine wp_region_noPanic ?_
  refine wp_region_held_drew (S := fun W => Turn no w2 W) (by kernel_rfl) ((Turn.refl no w2).drew) (fun hHeld => ?_)
  refine' wpAnyH_take (i := 0) (v := .pointer (some ⟨p, 0, none⟩)) rfl (by kernel_rfl) (by kernel_rfl) (by kernel_rfl) (fun _ _ _ h => h) (Or.inl ⟨by kernel_rfl, fun W hW => ?y8⟩) hHeld ?r8
  · go_simp
  refine' wpAnyH_take (i := 1) (v := .pointer (some ⟨p, 0, none⟩)) rfl (by kernel_rfl) (by kernel_rfl) (by kernel_rfl) (fun _ _ _ h => h) (Or.inl ⟨by kernel_rfl, fun W hW => ?y9⟩) hHeld ?r9
  · go_simp
  refine' wpAnyH_take (i := 2) (v := .pointer (some ⟨p, 2, none⟩)) rfl (by kernel_rfl) (by kernel_rfl) (by kernel_rfl) (fun _ _ _ h => h) (Or.inl ⟨by kernel_rfl, fun W hW => ?y10⟩) hHeld ?r10
  · go_simp
  refine' wpAnyH_take (i := 3) (v := .agg #[.slice (some ⟨g, 0, none⟩) 1 cap]) rfl (by kernel_rfl) (by kernel_rfl) (by kernel_rfl) (fun _ _ _ h => h) (Or.inl ⟨by kernel_rfl, fun W hW => ?y11⟩) hHeld ?r11
  · have c := hW.keep y2 (fun q => q)
    go_simp
  refine' wpAnyH_take (i := 4) (v := .pointer (some ⟨w.heap.size, 36, none⟩)) rfl (by kernel_rfl) (by kernel_rfl) (by kernel_rfl) (fun _ _ _ h => h) (Or.inl ⟨by kernel_rfl, fun W hW => ?y12⟩) hHeld ?r12
  · go_simp
  refine' wpAnyH_take (i := 5) (v := .int .u64 1) rfl (by kernel_rfl) (by kernel_rfl) (by kernel_rfl) (fun _ _ _ h => h) (Or.inl ⟨by kernel_rfl, fun W hW => ?y13⟩) hHeld ?r13
  · have c := hW.keep x36' (fun q => q)
    go_simp
  refine wpAnyH_ready (rs := [6]) (by kernel_rfl) (by simp) ?_
  refine AllReadyH.cons rfl (fun K hK => ?_) AllReadyH.nil
  go_simp
  refine cix.mono ?_
  rintro e w3 ⟨rfl, t3⟩
  have T23 : Turn no w2 w3 := (Turn.refl no w2).drew.then_no t3
  refine hK.out _ _ T23 (fun hHeld => ?_)
  clear hK cix
  refine' wpAnyH_take (i := 7) (v := .int .i64 0) rfl (by kernel_rfl) (by kernel_rfl) (by kernel_rfl) (fun _ _ _ h => h) (Or.inl ⟨by kernel_rfl, fun W hW => ?y14⟩) hHeld ?r14
  · go_simp
  refine wpAnyH_done (by kernel_rfl) ?_ _
  refine NoPanic.normal ?_
  go_simp
  have x0 := T23.keep x0' (fun q => q)
  have x2 := T23.keep x2' (fun q => q)
  have B0' := B0.turn T23 (fun q => q)
  have B1' := B1.turn T23 (fun q => q)
  have h3 := h1.turn T23 (fun q => q) (fun q => q)
  have m3 := obj_turn m1 T23 (fun q => q)
  have T03 := T01.then_no T23
  clear x0' x2' x36' y2 B0 B1 h1 m1 T01 T23 t3 hHeld
  have cb := fun W (t : Turn no w3 W) => below21 W p (h3.turn t (fun q => q) (fun q => q)).c3
  have ca := fun W (t : Turn no w3 W) => above22 W p (h3.turn t (fun q => q) (fun q => q)).c3
  have cp := fun W (t : Turn no w3 W) => put24 W p m g cap (h3.turn t (fun q => q) (fun q => q)) (obj_turn m3 t (fun q => q)) V hV hV1
  unfold k0 at cp
  have B0r := fun W (t : Turn no w3 W) => B0'.turn t (fun q => q)
  have B1r := fun W (t : Turn no w3 W) => B1'.turn t (fun q => q)
  have hmB : m < w.heap.size := lt_of_obj hm
  have s42 := size42a
  have o42 := one42a
  have z42 := sizeZA
  generalize hA : A1 = A at *
  have HA := shut hA
  have HT03 := shut T03
  have Hm3 := shut m3
  have Hh3 := shut h3
  clear hA T03 m3 h3 h hm B0' B1' hV hV1 v0 v1 v2 v36 hw0
  generalize Tryd.zeroCells42 = Z at *
  go_upto_region 11 with fail
  obtain ⟨w4, hw4⟩ : ∃ w4, w3.alloc (.cells #[.int .i64 1, .int .i64 0, .int .i64 0] 74) = w4 := ⟨_, rfl⟩
  have T4 : Turn no w3 w4 := by rw [← hw4]; exact (Turn.refl no w3).alloc _
  have K4 : Row w4 w3.heap.size #[.int .i64 1, .int .i64 0, .int .i64 0] 74 := by rw [← hw4]; exact Row.new w3 _ 74
  have k0' : w4.cell? ⟨w3.heap.size, 0, none⟩ = some (.int .i64 1) := K4.cell 0 _ rfl
  have k1' : w4.cell? ⟨w3.heap.size, 1, none⟩ = some (.int .i64 0) := K4.cell 1 _ rfl
  have k2' : w4.cell? ⟨w3.heap.size, 2, none⟩ = some (.int .i64 0) := K4.cell 2 _ rfl
  have y2 := T4.keep x2 (fun q => q)
  have cb4 := cb w4 T4
  have ca4 := ca w4 T4
  have cp4 := cp w4 T4
  have R0 := B0r w4 T4
  have HR1 := shut (B1r w4 T4)
  have HT4 := shut T4
  rw [hw4]
  clear hw4 cb ca cp B0r B1r x0 x2 T4 K4
  go_wp2_with (first | (go_at_call 21; refine cb4.mono ?_; rintro e w5 ⟨rfl, e5⟩; subst e5) | (go_at_call 22; refine ca4.mono ?_; rintro e w5 ⟨rfl, e5⟩; subst e5) | (refine wpList_load_row rfl 29 (.tmp 3) rfl w.heap.size rfl 29 V _ _ R0 Tryd.underlying29 rfl hi29 ?_) | (go_at_call 24; refine cp4.mono ?_; rintro e w6 ⟨rfl, hm6, t6⟩; have R1 := HR1.out.turn t6 (fun q => by have q : w.heap.size + 1 = m := q; omega)) | (refine wpList_store_anyN rfl rfl 42 (.tmp 4) (.tmp 69) rfl (w.heap.size + 1) A rfl rfl 42 Z R1 s42 z42 o42 ?_; intro w7 R7 T7; have HT7 := shut T7; clear T7 R1))
  have T5 : Turn (fun k => k = m) w w7 := (((HT03.out.then_no HT4.out).of_no (S := fun k => k = m)).trans t6 (fun _ _ q => q)).trans HT7.out (fun k hk q => by have q : k = w.heap.size + 1 := q; omega)
  refine ⟨rfl, _, results_row (g := w.heap.size + 1) (cs := A) (t := 42) rfl _ _ _ rfl R7 Tryd.underlying42 rfl s42, by rw [HA.out]; rfl, ?_, T5⟩
  exact obj_turn hm6 HT7.out (fun q => by have q : m = w.heap.size + 1 := q; omega)
end Go.Proofs.YtcjijofckjgikaaDoor
