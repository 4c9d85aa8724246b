/- Inner: two digests beside one another. -/
import Derived.Test.YtieoomdbijpdhaaDoorD8
import Derived.Deep.RegionHeld3
namespace Go.Proofs.YtieoomdbijpdhaaDoor
open Go.RowKit
set_option linter.unusedVariables false

theorem row_bs {w : World} {g : Nat} {X : List UInt8} {e : TypeId} (h : Row w g (X.map bv).toArray e) (hm : X.length ≤ maxLen) : Bs w (.slice (some ⟨g, 0, none⟩) X.length X.length) X := by
  refine Or.inr ⟨⟨g, 0, none⟩, X.length, rfl, Nat.le_refl _, hm, fun j u hu => ?_⟩
  rw [Addr.add_lit, Nat.zero_add]
  exact h.cell j _ (by simp [hu])

set_option maxRecDepth 100000 in
set_option maxHeartbeats 4000000 in
theorem inner13 (w : World) (X Y : List UInt8) (hx : X.length = 32) (hy : Y.length = 32) (hl : Laid1 w) (h2 : 2 ≤ w.heap.size) :
    Calls Tryd.prog 28 #[.agg (X.map bv).toArray, .agg (Y.map bv).toArray] w fun e w' => e = .returned (.agg (hv (1 :: (X ++ Y)))) ∧ Turn no w w' := by
  have hcall := sumOf_list w [(.slice (some ⟨w.heap.size + 1 + 1 + 1, 0, none⟩) 1 1, [1]), (.slice (some ⟨w.heap.size, 0, none⟩) 32 32, X), (.slice (some ⟨w.heap.size + 1, 0, none⟩) 32 32, Y)] (by simp) (by simp) hl h2 (by simp [joined, hx, hy])
  have hj : joined [(Value.slice (some ⟨w.heap.size + 1 + 1 + 1, 0, none⟩) 1 1, [1]), (.slice (some ⟨w.heap.size, 0, none⟩) 32 32, X), (.slice (some ⟨w.heap.size + 1, 0, none⟩) 32 32, Y)] = 1 :: (X ++ Y) := by simp [joined]
  rw [hj] at hcall
  have h1 := hv_one (1 :: (X ++ Y))
  have hs := hv_size (1 :: (X ++ Y))
  have hi := hv_info (1 :: (X ++ Y))
  generalize hv (1 :: (X ++ Y)) = H at *
  have hAs : (X.map bv).toArray.size = 32 := by simpa using hx
  have hBs : (Y.map bv).toArray.size = 32 := by simpa using hy
  have hbA : ∀ W g e, Row W g (X.map bv).toArray e → Bs W (.slice (some ⟨g, 0, none⟩) 32 32) X := fun W g e h => by have := row_bs h (by rw [hx]; simp [maxLen]); rwa [hx] at this
  have hbB : ∀ W g e, Row W g (Y.map bv).toArray e → Bs W (.slice (some ⟨g, 0, none⟩) 32 32) Y := fun W g e h => by have := row_bs h (by rw [hy]; simp [maxLen]); rwa [hy] at this
  generalize (X.map bv).toArray = A at *
  generalize (Y.map bv).toArray = B at *
  clear hj
  go_enter Tryd.func28, Tryd.ntmps28
  go_wp2_with fail
  obtain ⟨z, RZ, hz⟩ : ∃ z, Row (((w.alloc (.cells A 23)).alloc (.cells B 23)).alloc (.cells z 23)) (w.heap.size + 1 + 1) z 23 ∧ z.size = 32 ∧ z = #[.int .u8 0, .int .u8 0, .int .u8 0, .int .u8 0, .int .u8 0, .int .u8 0, .int .u8 0, .int .u8 0, .int .u8 0, .int .u8 0, .int .u8 0, .int .u8 0, .int .u8 0, .int .u8 0, .int .u8 0, .int .u8 0, .int .u8 0, .int .u8 0, .int .u8 0, .int .u8 0, .int .u8 0, .int .u8 0, .int .u8 0, .int .u8 0, .int .u8 0, .int .u8 0, .int .u8 0, .int .u8 0, .int .u8 0, .int .u8 0, .int .u8 0, .int .u8 0] := ⟨_, Row.newAt _ _ _ _ (by simp), rfl, rfl⟩
  rw [← hz.2]
  have hzs := hz.1
  clear hz
  have RA := ((Row.new w A 23).alloc (.cells B 23)).alloc (.cells z 23)
  have RB := (Row.newAt (w.alloc (.cells A 23)) B 23 (w.heap.size + 1) (by simp)).alloc (.cells z 23)
  have T0 : Turn no w (((w.alloc (.cells A 23)).alloc (.cells B 23)).alloc (.cells z 23)) := (((Turn.refl no w).alloc _).alloc _).alloc _
  have hq : (((w.alloc (.cells A 23)).alloc (.cells B 23)).alloc (.cells z 23)).heap.size = w.heap.size + 1 + 1 + 1 := by simp
  generalize ((w.alloc (.cells A 23)).alloc (.cells B 23)).alloc (.cells z 23) = w0 at *
  have hsA : ∀ W a, (Instr.sliceAt 23 (.pointer (some a)) none none none).run Tryd.prog W = .ok (.slice (some a) 32 32) W := fun W a => by
    rw [run_sliceAt_array_all (P := Tryd.prog) W 23 a (by kernel_rfl)]
    rw [show (sizeOf (Tryd.prog.elem 23)).run Tryd.prog W = .ok 1 W by kernel_rfl, show Tryd.prog.arrayLen 23 = 32 by kernel_rfl]
    simp [slicedAt, Addr.add_zero']
  refine wp_region_held_drew (S := fun w' => Row w' w.heap.size A 23 ∧ Row w' (w.heap.size + 1) B 23 ∧ (∃ z, Row w' (w.heap.size + 1 + 1) z 23 ∧ z.size = 32) ∧ Turn no w w') (by kernel_rfl) ⟨RA, RB, ⟨z, RZ, hzs⟩, T0.drew⟩ (fun hHeld => ?_)
  refine' wpAnyH_take (i := 1) (v := .slice (some ⟨w.heap.size, 0, none⟩) 32 32) rfl (by kernel_rfl) (by kernel_rfl) (by kernel_rfl) (fun _ _ _ h => h) (Or.inl ⟨by rfl, fun W hW => ?y1⟩) hHeld ?r1
  · go_simp
  refine' wpAnyH_take (i := 2) (v := .slice (some ⟨w.heap.size + 1, 0, none⟩) 32 32) rfl (by kernel_rfl) (by kernel_rfl) (by kernel_rfl) (fun _ _ _ h => h) (Or.inl ⟨by rfl, fun W hW => ?y2⟩) hHeld ?r2
  · go_simp
  refine wpAnyH_ready (rs := [0]) (by kernel_rfl) (by simp) ?_
  refine AllReadyH.cons rfl (fun K hK => ?_) AllReadyH.nil
  go_simp
  refine hK.out _ _ ⟨RA.alloc _, RB.alloc _, ⟨z, RZ.alloc _, hzs⟩, (T0.alloc _).drew⟩ (fun hHeld => ?_)
  clear hK
  have R1 : Row (w0.alloc (.cells #[.int .u8 1] 5)).drew (w.heap.size + 1 + 1 + 1) #[.int .u8 1] 5 := Row.newAt _ _ _ _ hq.symm
  have RA1 : Row (w0.alloc (.cells #[.int .u8 1] 5)).drew w.heap.size A 23 := RA.alloc _
  have RB1 : Row (w0.alloc (.cells #[.int .u8 1] 5)).drew (w.heap.size + 1) B 23 := RB.alloc _
  have RZ1 : Row (w0.alloc (.cells #[.int .u8 1] 5)).drew (w.heap.size + 1 + 1) z 23 := RZ.alloc _
  have T1 : Turn no w (w0.alloc (.cells #[.int .u8 1] 5)).drew := (T0.alloc _).drew
  generalize (w0.alloc (.cells #[.int .u8 1] 5)).drew = w1 at *
  clear RA RB RZ T0 hq
  refine wpAnyH_ready (rs := [3]) (by kernel_rfl) (by simp) ?_
  refine AllReadyH.cons rfl (fun K hK => ?_) AllReadyH.nil
  go_simp
  refine hK.out _ _ ⟨RA1.alloc _, RB1.alloc _, ⟨z, RZ1.alloc _, hzs⟩, T1.alloc _⟩ (fun hHeld => ?_)
  clear hK
  refine wpAnyH_ready (rs := [4]) (by kernel_rfl) (by simp) ?_
  refine AllReadyH.cons rfl (fun K hK => ?_) AllReadyH.nil
  go_simp
  have B1 : Bs w1 (.slice (some ⟨w.heap.size + 1 + 1 + 1, 0, none⟩) 1 1) [1] := row_bs (X := [1]) R1 (by simp [maxLen])
  have BA := hbA _ _ _ RA1
  have BB := hbB _ _ _ RB1
  refine (hcall _ (T1.alloc _) w1.heap.size 60 (Row.new w1 _ 60) (fun x hx => by
    simp at hx
    rcases hx with rfl | rfl | rfl
    · exact B1.turn_no ((Turn.refl no w1).alloc _)
    · exact BA.turn_no ((Turn.refl no w1).alloc _)
    · exact BB.turn_no ((Turn.refl no w1).alloc _))).mono ?_
  rintro e w5 ⟨rfl, t5⟩
  have RA5 := (RA1.alloc _).turn t5 (fun q => q)
  have RB5 := (RB1.alloc _).turn t5 (fun q => q)
  have RZ5 := (RZ1.alloc _).turn t5 (fun q => q)
  have T5 : Turn no w w5 := (T1.alloc _).then_no t5
  clear hcall B1 BA BB t5 hbA hbB
  go_wp2_with fail
  refine hK.out _ _ ⟨RA5, RB5, ⟨z, RZ5, hzs⟩, T5⟩ (fun hHeld => ?_)
  clear hK
  refine wpAnyH_ready (rs := [5]) (by kernel_rfl) (by simp) ?_
  refine AllReadyH.cons rfl (fun K hK => ?_) AllReadyH.nil
  rw [if_pos (by rfl)]
  refine wp_store_row 23 _ _ rfl (w.heap.size + 1 + 1) H rfl rfl 23 z RZ5 hi (by omega) h1 ?_
  have hz' : (w5.setRow (w.heap.size + 1 + 1) H).heap[w.heap.size + 1 + 1]? = some (.cells H 23 (0, 0)) := setRow_heap _ _ _ _ _ _ RZ5
  have T6 : Turn no w (w5.setRow (w.heap.size + 1 + 1) H) := T5.setRow _ _ (fun q => by omega)
  refine hK.out _ _ ⟨by unfold Row; rw [setRow_other _ _ _ _ (by omega)]; exact RA5, by unfold Row; rw [setRow_other _ _ _ _ (by omega)]; exact RB5, ⟨H, hz', hs⟩, T6⟩ (fun hHeld => ?_)
  clear hK
  refine wpAnyH_done (by kernel_rfl) ?_ _
  go_wp2_with fail
  refine bodyPost_ret (v := .agg H) ?_ rfl ⟨rfl, T6⟩
  exact results_cell_row (P := Tryd.prog) Tryd.results28 _ _ (w.heap.size + 1 + 1) 23 H (0, 0) _ rfl hz' Tryd.underlying23 rfl hi
end Go.Proofs.YtieoomdbijpdhaaDoor

