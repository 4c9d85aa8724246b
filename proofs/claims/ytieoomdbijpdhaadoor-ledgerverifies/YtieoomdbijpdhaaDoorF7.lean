/- The top of no items, both. -/
import Derived.Test.YtieoomdbijpdhaaDoorF6
namespace Go.Proofs.YtieoomdbijpdhaaDoor
open Go.RowKit
set_option linter.unusedVariables false

set_option maxRecDepth 100000 in
set_option maxHeartbeats 4000000 in
theorem rtop_none (w : World) (av : Option Addr) (cap : Nat) (hl : Laid0 w) (hsz : 2 ≤ w.heap.size) :
    Calls Tryd.prog 33 #[.slice av 0 cap] w fun e w' => e = .returned (.agg (hb32 (hashOf []))) ∧ Turn no w w' := by
  obtain ⟨z, hz, hzs⟩ : ∃ z : Array Value, z = #[.int .u8 0, .int .u8 0, .int .u8 0, .int .u8 0, .int .u8 0, .int .u8 0, .int .u8 0, .int .u8 0, .int .u8 0, .int .u8 0, .int .u8 0, .int .u8 0, .int .u8 0, .int .u8 0, .int .u8 0, .int .u8 0, .int .u8 0, .int .u8 0, .int .u8 0, .int .u8 0, .int .u8 0, .int .u8 0, .int .u8 0, .int .u8 0, .int .u8 0, .int .u8 0, .int .u8 0, .int .u8 0, .int .u8 0, .int .u8 0, .int .u8 0, .int .u8 0] ∧ z.size = 32 := ⟨_, rfl, rfl⟩
  have T0 : Turn no w (w.alloc (.cells z 23)) := (Turn.refl no w).alloc _
  have RZ := Row.new w z 23
  have hc := rsum_all (w.alloc (.cells z 23)) (.slice none 0 0) [] (Own.nil _ _ : Own (w.alloc (.cells z 23)) 5 (.slice none 0 0) (List.map bv [])).bs (hl.turn T0 (fun q => q)) (by have := T0.size; omega) (by simp)
  have hs := hv_size []
  have h1' := hv_one []
  have hi := hv_info []
  have hh : hb32 (hashOf []) = hv [] := rfl
  rw [hh]
  clear hh
  generalize hv [] = H at *
  rw [hz] at T0 RZ hc
  go_enter Tryd.func33, Tryd.ntmps33
  go_wp2_with fail
  refine hc.mono ?_
  rintro e w2 ⟨rfl, t2⟩
  have RZ2 := RZ.turn t2 (fun q => q)
  have T2 := T0.then_no t2
  go_wp2_with (refine wpList_store_row rfl 23 (.tmp 2) _ rfl w.heap.size H rfl rfl 23 _ RZ2 hi (by rw [hs]; rfl) h1' ?_)
  refine bodyPost_ret (v := .agg H) ?_ rfl ⟨rfl, T2.setRow _ _ (fun q => by omega)⟩
  exact results_cell_row (P := Tryd.prog) Tryd.results33 _ _ w.heap.size 23 H (0, 0) _ rfl (setRow_heap _ _ _ _ _ _ RZ2) Tryd.underlying23 rfl hi

set_option maxRecDepth 100000 in
set_option maxHeartbeats 4000000 in
theorem top_none (w : World) (av : Option Addr) (cap : Nat) (hl : Laid1 w) (hsz : 2 ≤ w.heap.size) :
    Calls Tryd.prog 51 #[.slice av 0 cap] w fun e w' => e = .returned (.agg (hb32 (hashOf []))) ∧ Turn no w w' := by
  obtain ⟨z, hz, hzs⟩ : ∃ z : Array Value, z = #[.int .u8 0, .int .u8 0, .int .u8 0, .int .u8 0, .int .u8 0, .int .u8 0, .int .u8 0, .int .u8 0, .int .u8 0, .int .u8 0, .int .u8 0, .int .u8 0, .int .u8 0, .int .u8 0, .int .u8 0, .int .u8 0, .int .u8 0, .int .u8 0, .int .u8 0, .int .u8 0, .int .u8 0, .int .u8 0, .int .u8 0, .int .u8 0, .int .u8 0, .int .u8 0, .int .u8 0, .int .u8 0, .int .u8 0, .int .u8 0, .int .u8 0, .int .u8 0] ∧ z.size = 32 := ⟨_, rfl, rfl⟩
  have T0 : Turn no w (w.alloc (.cells z 23)) := (Turn.refl no w).alloc _
  have RZ := Row.new w z 23
  have hc := sum19 (w.alloc (.cells z 23)) (.slice none 0 0) [] (Own.nil _ _ : Own (w.alloc (.cells z 23)) 5 (.slice none 0 0) (List.map bv [])).bs (hl.turn T0 (fun q => q)) (by have := T0.size; omega) (by simp)
  have hs := hv_size []
  have h1' := hv_one []
  have hi := hv_info []
  have hh : hb32 (hashOf []) = hv [] := rfl
  rw [hh]
  clear hh
  generalize hv [] = H at *
  rw [hz] at T0 RZ hc
  go_enter Tryd.func51, Tryd.ntmps51
  go_wp2_with fail
  refine hc.mono ?_
  rintro e w2 ⟨rfl, t2⟩
  have RZ2 := RZ.turn t2 (fun q => q)
  have T2 := T0.then_no t2
  go_wp2_with (refine wpList_store_row rfl 23 (.tmp 2) _ rfl w.heap.size H rfl rfl 23 _ RZ2 hi (by rw [hs]; rfl) h1' ?_)
  refine bodyPost_ret (v := .agg H) ?_ rfl ⟨rfl, T2.setRow _ _ (fun q => by omega)⟩
  exact results_cell_row (P := Tryd.prog) Tryd.results51 _ _ w.heap.size 23 H (0, 0) _ rfl (setRow_heap _ _ _ _ _ _ RZ2) Tryd.underlying23 rfl hi
end Go.Proofs.YtieoomdbijpdhaaDoor

