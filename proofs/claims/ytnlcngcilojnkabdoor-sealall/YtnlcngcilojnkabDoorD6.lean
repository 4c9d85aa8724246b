/- The digest of pieces (newMixer, sumOf). -/
import Derived.Test.YtnlcngcilojnkabDoorD5
namespace Go.Proofs.YtnlcngcilojnkabDoor
open Go.RowKit
set_option linter.unusedVariables false

theorem size29 : (Tryd.prog.info? 137).map (·.size) = some 73 := by kernel_rfl
def mx0 : Array Value := (h0.map (Value.int .u32) ++ (List.replicate 64 (bv 0) ++ [Value.int .u64 0])).toArray
theorem mx0_size : mx0.size = 73 := by simp [mx0, h0]
theorem mx0_one : mx0.all (·.oneCell') = true := by kernel_rfl
theorem mx0_is : MxA mx0 0 h0 (List.replicate 64 0) 0 := by
  refine ⟨fun j hj => ?_, by simp, fun j hj => ?_, ?_⟩
  · have : j = 0 ∨ j = 1 ∨ j = 2 ∨ j = 3 ∨ j = 4 ∨ j = 5 ∨ j = 6 ∨ j = 7 := by omega
    rcases this with rfl | rfl | rfl | rfl | rfl | rfl | rfl | rfl <;> rfl
  · unfold mx0
    have e8 : (h0.map (Value.int .u32)).length = 8 := rfl
    rw [List.getElem?_toArray, List.getElem?_append_right (by omega), List.getElem?_append_left (by rw [List.length_replicate]; omega), e8, show 0 + 8 + j - 8 = j by omega, List.getElem?_replicate, if_pos hj, List.getD_eq_getElem?_getD, List.getElem?_replicate, if_pos hj]
    rfl
  · rfl

set_option maxRecDepth 100000 in
set_option maxHeartbeats 4000000 in
theorem newMixer_any (w : World) : Calls Tryd.prog 77 #[] w fun e w' => e = .returned (.agg mx0) ∧ Turn no w w' := by
  go_enter Tryd.func77, Tryd.ntmps77
  go_wp2_with (refine wpList_store_row rfl 137 (.tmp 0) (.tmp 2) rfl w.heap.size _ rfl rfl 137 _ (heap_alloc_new w _) (by kernel_rfl) rfl (by kernel_rfl) ?_)
  refine bodyPost_ret (v := .agg mx0) ?_ rfl ⟨rfl, ((Turn.refl no w).alloc _).setRow _ _ (fun q => by omega)⟩
  refine results_cell_row (P := Tryd.prog) Tryd.results77 _ _ w.heap.size 137 mx0 (0, 0) _ rfl ?_ Tryd.underlying137 rfl (by kernel_rfl)
  rw [setRow_heap _ _ _ _ _ _ (heap_alloc_new w _)]
  kernel_rfl

/-- Pieces as they lie in memory. -/
def Pcs (w : World) (b o : Nat) (l : List (Value × List UInt8)) : Prop := ∀ j x, l[j]? = some x → w.cell? ⟨b, o + j, none⟩ = some x.1 ∧ Bs w x.1 x.2
theorem Pcs.turn_no {w w' : World} {b o : Nat} {l : List (Value × List UInt8)} (h : Pcs w b o l) (t : Turn no w w') : Pcs w' b o l :=
  fun j x hx => ⟨t.keep (h j x hx).1 (fun q => q), (h j x hx).2.turn_no t⟩
def joined (l : List (Value × List UInt8)) : List UInt8 := (l.map (·.2)).flatten

theorem joined_take_le (l : List (Value × List UInt8)) (k : Nat) : (joined (l.take k)).length ≤ (joined l).length := by
  have : joined l = joined (l.take k) ++ joined (l.drop k) := by
    unfold joined
    rw [← List.flatten_append, ← List.map_append, List.take_append_drop]
  rw [this]
  simp
theorem joined_succ (l : List (Value × List UInt8)) (k : Nat) (h : k < l.length) : joined (l.take (k + 1)) = joined (l.take k) ++ l[k].2 := by
  unfold joined
  rw [List.take_succ_eq_append_getElem h, List.map_append, List.flatten_append]
  simp

theorem Bs.old {w : World} {v : Value} {B : List UInt8} (h : Bs w v B) (hB : B ≠ []) : ∀ g, v.ownBlock = some g → g < w.heap.size := by
  intro g hg
  rcases h with ⟨q, r⟩ | ⟨a, c, rfl, _, _, h3⟩
  · exact (hB r).elim
  · cases hg
    have hp : 0 < B.length := by
      cases B with
      | nil => exact (hB rfl).elim
      | cons => simp
    have := World.block_lt_of_cell? w _ (h3 0 B[0] (by simp [hp]))
    simpa [Addr.add] using this

end Go.Proofs.YtnlcngcilojnkabDoor
