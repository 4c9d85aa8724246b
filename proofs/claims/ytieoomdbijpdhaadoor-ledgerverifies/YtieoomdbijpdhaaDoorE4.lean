/- The reference's Inner. -/
import Derived.Test.YtieoomdbijpdhaaDoorE2
import Derived.Test.YtieoomdbijpdhaaDoorE3
namespace Go.Proofs.YtieoomdbijpdhaaDoor
open Go.RowKit
set_option linter.unusedVariables false


theorem own_one (w : World) (b : UInt8) : Own (w.alloc (.cells #[bv b] 5)) 5 (.slice (some ⟨w.heap.size, 0, none⟩) 1 1) (List.map bv [b]) :=
  Own.of (heap_alloc_new w _) (by simp) (by simp [maxLen]) rfl (by simp)

set_option maxRecDepth 100000 in
set_option maxHeartbeats 4000000 in
theorem innerText_any (w : World) (X Y : List UInt8) (hx : X.length = 32) (hy : Y.length = 32) :
    Calls Tryd.prog 36 #[.agg (X.map bv).toArray, .agg (Y.map bv).toArray] w fun e w' => ∃ v, e = .returned v ∧ Own w' 5 v ((1 :: (X ++ Y)).map bv) ∧ Turn no w w' := by
  have hAs : (X.map bv).toArray.size = 32 := by simpa using hx
  have hBs : (Y.map bv).toArray.size = 32 := by simpa using hy
  have hbA : ∀ W g e, Row W g (X.map bv).toArray e → Src Tryd.prog 1 60 (.slice (some ⟨g, 0, none⟩) 32 32) 32 (X.map bv) W := fun W g e h => by
    have := Bs.src (P := Tryd.prog) Tryd.underlying60 (row_bs h (by rw [hx]; simp [maxLen]))
    rwa [hx] at this
  have hbB : ∀ W g e, Row W g (Y.map bv).toArray e → Src Tryd.prog 1 60 (.slice (some ⟨g, 0, none⟩) 32 32) 32 (Y.map bv) W := fun W g e h => by
    have := Bs.src (P := Tryd.prog) Tryd.underlying60 (row_bs h (by rw [hy]; simp [maxLen]))
    rwa [hy] at this
  have hXl : (X.map bv).length = 32 := by simpa using hx
  have hYl : (Y.map bv).length = 32 := by simpa using hy
  have hsA : ∀ W a, (Instr.sliceAt 23 (.pointer (some a)) none none none).run Tryd.prog W = .ok (.slice (some a) 32 32) W := fun W a => by
    rw [run_sliceAt_array_all (P := Tryd.prog) W 23 a (by kernel_rfl)]
    rw [show (sizeOf (Tryd.prog.elem 23)).run Tryd.prog W = .ok 1 W by kernel_rfl, show Tryd.prog.arrayLen 23 = 32 by kernel_rfl]
    simp [slicedAt, Addr.add_zero']
  have hjoin : (1 :: (X ++ Y)).map bv = List.map bv [1] ++ X.map bv ++ Y.map bv := by simp
  rw [hjoin]
  generalize (X.map bv).toArray = A at *
  generalize (Y.map bv).toArray = B at *
  generalize X.map bv = XL at *
  generalize Y.map bv = YL at *
  clear hjoin
  go_enter Tryd.func36, Tryd.ntmps36
  have RA := (Row.new w A 23).alloc (.cells B 23)
  have RB := Row.newAt (w.alloc (.cells A 23)) B 23 (w.heap.size + 1) (by simp)
  have T0 : Turn no w ((w.alloc (.cells A 23)).alloc (.cells B 23)) := ((Turn.refl no w).alloc _).alloc _
  have O1 := own_one ((w.alloc (.cells A 23)).alloc (.cells B 23)) 1
  have hq : ((w.alloc (.cells A 23)).alloc (.cells B 23)).heap.size = w.heap.size + 1 + 1 := by simp
  rw [hq] at O1
  have S1 := hbA _ _ _ (RA.alloc (.cells #[bv 1] 5))
  go_wp2_with (at_builtin; refine wpList_append_src rfl (.tmp 7) (.tmp 8) rfl Tryd.underlying60 Tryd.info5 rfl _ (List.map bv [1]) rfl O1 _ 32 XL rfl S1 ?b1 ?m1 ?_)
  case b1 => simp
  case m1 => simp [maxLen]
  intro v2 w2 O2 G2 _
  have RB2 := (RB.alloc (.cells #[bv 1] 5)).turn G2.turn (fun q => by simp [Value.ownBlock] at q)
  have T2 : Turn no w w2 := (T0.alloc (.cells #[bv 1] 5)).fresh G2 (fun g q => by simp [Value.ownBlock] at q; omega)
  have f2 : ∀ g, v2.ownBlock = some g → w.heap.size ≤ g := G2.fresh (fun g q => by simp [Value.ownBlock] at q; omega) (by simp; omega)
  have S2 := hbB _ _ _ RB2
  obtain ⟨ad, ln, cp, rfl⟩ := O2.form
  clear RA RB T0 O1 S1 G2 hq
  go_wp2_with (at_builtin; refine wpList_append_src rfl (.tmp 10) (.tmp 11) rfl Tryd.underlying60 Tryd.info5 rfl _ (bv 1 :: XL) rfl O2 _ 32 YL rfl S2 ?b2 ?m2 ?_)
  case b2 => simp; omega
  case m2 => simp [maxLen]; omega
  intro v3 w3 O3 G3 _
  have T3 : Turn no w w3 := T2.fresh G3 f2
  have O3' : Own w3 5 v3 (List.map bv [1] ++ XL ++ YL) := by simpa using O3
  obtain ⟨ad3, ln3, cp3, rfl⟩ := O3.form
  go_wp2_with fail
  go_ret
  exact ⟨_, rfl, O3', T3⟩

set_option maxRecDepth 100000 in
set_option maxHeartbeats 4000000 in
theorem inner14 (w : World) (X Y : List UInt8) (hx : X.length = 32) (hy : Y.length = 32) (hl : Laid0 w) (h2 : 2 ≤ w.heap.size) :
    Calls Tryd.prog 14 #[.agg (X.map bv).toArray, .agg (Y.map bv).toArray] w fun e w' => e = .returned (.agg (hv (1 :: (X ++ Y)))) ∧ Turn no w w' := by
  have hAs : (X.map bv).toArray.size = 32 := by simpa using hx
  have hBs : (Y.map bv).toArray.size = 32 := by simpa using hy
  have hiA : (Tryd.prog.info? 23).map (·.size) = some (X.map bv).toArray.size := by rw [hAs]; exact size35
  have hiB : (Tryd.prog.info? 23).map (·.size) = some (Y.map bv).toArray.size := by rw [hBs]; exact size35
  have htext := fun W => innerText_any W X Y hx hy
  have hsum := fun W (T : Turn no w W) v (O : Own W 5 v ((1 :: (X ++ Y)).map bv)) => rsum_any W v (1 :: (X ++ Y)) O.bs (hl.turn T (fun q => q)) (by have := T.size; omega) (by simp; omega) (by simp)
  have hh : ((hashOf (1 :: (X ++ Y))).map bv).toArray = hv (1 :: (X ++ Y)) := rfl
  simp only [hh] at hsum
  have h1 := hv_one (1 :: (X ++ Y))
  have hs := hv_size (1 :: (X ++ Y))
  have hi := hv_info (1 :: (X ++ Y))
  clear hh
  generalize hv (1 :: (X ++ Y)) = H at *
  generalize (1 :: (X ++ Y)).map bv = TX at *
  generalize (X.map bv).toArray = A at *
  generalize (Y.map bv).toArray = B at *
  go_enter Tryd.func14, Tryd.ntmps14
  obtain ⟨z, hz, hzs⟩ : ∃ z : Array Value, z = #[.int .u8 0, .int .u8 0, .int .u8 0, .int .u8 0, .int .u8 0, .int .u8 0, .int .u8 0, .int .u8 0, .int .u8 0, .int .u8 0, .int .u8 0, .int .u8 0, .int .u8 0, .int .u8 0, .int .u8 0, .int .u8 0, .int .u8 0, .int .u8 0, .int .u8 0, .int .u8 0, .int .u8 0, .int .u8 0, .int .u8 0, .int .u8 0, .int .u8 0, .int .u8 0, .int .u8 0, .int .u8 0, .int .u8 0, .int .u8 0, .int .u8 0, .int .u8 0] ∧ z.size = 32 := ⟨_, rfl, rfl⟩
  have RA := ((Row.new w A 23).alloc (.cells B 23)).alloc (.cells z 23)
  have RB := (Row.newAt (w.alloc (.cells A 23)) B 23 (w.heap.size + 1) (by simp)).alloc (.cells z 23)
  have RZ := Row.newAt ((w.alloc (.cells A 23)).alloc (.cells B 23)) z 23 (w.heap.size + 1 + 1) (by simp)
  have T0 : Turn no w (((w.alloc (.cells A 23)).alloc (.cells B 23)).alloc (.cells z 23)) := (((Turn.refl no w).alloc _).alloc _).alloc _
  rw [hz] at RA RB RZ T0
  go_wp2_with (first
    | (refine wpList_load_row rfl 23 (.tmp 2) rfl w.heap.size rfl 23 A (0, 0) _ RA Tryd.underlying23 rfl hiA ?_)
    | (refine wpList_load_row rfl 23 (.tmp 3) rfl (w.heap.size + 1) rfl 23 B (0, 0) _ RB Tryd.underlying23 rfl hiB ?_))
  rw [← hz] at RZ T0 ⊢
  refine (htext _).mono ?_
  rintro e w3 ⟨v3, rfl, O3, t3⟩
  have RZ3 := RZ.turn t3 (fun q => q)
  have T3 := T0.then_no t3
  have hc := hsum _ T3 _ O3
  obtain ⟨ad3, ln3, cp3, rfl⟩ := O3.form
  clear RA RB RZ T0 hsum htext hz
  go_wp2_with fail
  refine hc.mono ?_
  rintro e w5 ⟨rfl, t5⟩
  have RZ5 := RZ3.turn t5 (fun q => q)
  have T5 := T3.then_no t5
  go_wp2_with (refine wpList_store_row rfl 23 (.tmp 4) (.tmp 8) rfl (w.heap.size + 1 + 1) H rfl rfl 23 z RZ5 hi (by omega) h1 ?_)
  refine bodyPost_ret (v := .agg H) ?_ rfl ⟨rfl, T5.setRow _ _ (fun q => by omega)⟩
  exact results_cell_row (P := Tryd.prog) Tryd.results14 _ _ (w.heap.size + 1 + 1) 23 H (0, 0) _ rfl (setRow_heap _ _ _ _ _ _ RZ5) Tryd.underlying23 rfl hi
end Go.Proofs.YtieoomdbijpdhaaDoor

