/- The text under a root: the reference's RootText. -/
import Derived.Test.YtieoomdbijpdhaaDoorF5
namespace Go.Proofs.YtieoomdbijpdhaaDoor
open Go.RowKit
set_option linter.unusedVariables false

/-- The text's beginning: the mark and the number's first k bytes. -/
def rootB (n k : Nat) : List UInt8 := 2 :: (List.range k).map (numAt n)
theorem rootB_len (n k : Nat) : (rootB n k).length = k + 1 := by simp [rootB]
theorem rootB_succ (n k : Nat) : rootB n (k + 1) = rootB n k ++ [numAt n k] := by simp [rootB, List.range_succ]
theorem rootB_all (n : Nat) (X : List UInt8) : 2 :: (numE n ++ X) = rootB n 8 ++ X := by simp [rootB, numE]

set_option maxRecDepth 100000 in
set_option maxHeartbeats 4000000 in
theorem rootText_any (w : World) (n : Nat) (hn : n ≤ 65536) (X : List UInt8) (hx : X.length = 32) :
    Calls Tryd.prog 35 #[.int .i64 n, .agg (X.map bv).toArray] w fun e w' => ∃ v, e = .returned v ∧ Own w' 5 v ((2 :: (numE n ++ X)).map bv) ∧ Turn no w w' := by
  have hAs : (X.map bv).toArray.size = 32 := by simpa using hx
  have hbA : ∀ W g e, Row W g (X.map bv).toArray e → Src Tryd.prog 1 60 (.slice (some ⟨g, 0, none⟩) 32 32) 32 (X.map bv) W := fun W g e h => by
    have := Bs.src (P := Tryd.prog) Tryd.underlying60 (row_bs h (by rw [hx]; simp [maxLen]))
    rwa [hx] at this
  have hXl : (X.map bv).length = 32 := by simpa using hx
  have hsA : ∀ W a, (Instr.sliceAt 23 (.pointer (some a)) none none none).run Tryd.prog W = .ok (.slice (some a) 32 32) W := fun W a => by
    rw [run_sliceAt_array_all (P := Tryd.prog) W 23 a (by kernel_rfl)]
    rw [show (sizeOf (Tryd.prog.elem 23)).run Tryd.prog W = .ok 1 W by kernel_rfl, show Tryd.prog.arrayLen 23 = 32 by kernel_rfl]
    simp [slicedAt, Addr.add_zero']
  have hjoin : (2 :: (numE n ++ X)).map bv = (rootB n 8).map bv ++ X.map bv := by rw [rootB_all, List.map_append]
  rw [hjoin]
  generalize (X.map bv).toArray = A at *
  generalize X.map bv = XL at *
  clear hjoin
  go_enter Tryd.func35, Tryd.ntmps35
  have RA := (Row.new w A 23).alloc (.cells #[bv 2] 5)
  have T0 : Turn no w ((w.alloc (.cells A 23)).alloc (.cells #[bv 2] 5)) := ((Turn.refl no w).alloc _).alloc _
  have O1 := own_one (w.alloc (.cells A 23)) 2
  have hq : (w.alloc (.cells A 23)).heap.size = w.heap.size + 1 := by simp
  rw [hq] at O1
  have O1' : Own ((w.alloc (.cells A 23)).alloc (.cells #[bv 2] 5)) 5 (.slice (some ⟨w.heap.size + 1, 0, none⟩) 1 1) ((rootB n 0).map bv) := by simpa [rootB] using O1
  clear O1 hq
  go_wp2_with fail
  go_loopw [5, 6] (fun v i wr => ∃ (k : Nat), k ≤ 8 ∧ i = .int .i64 (k : Int) ∧ Own wr 5 v ((rootB n k).map bv) ∧ (∀ g, v.ownBlock = some g → w.heap.size < g) ∧ Row wr w.heap.size A 23 ∧ Turn no w wr)
    (fun _ i _ => 8 - (intOf i).toNat)
  case atStart => exact ⟨0, by omega, rfl, O1', fun g q => by simp [Value.ownBlock] at q; omega, RA, T0⟩
  case round =>
    clear O1' RA T0
    obtain ⟨k, hk, rfl, O, f, RA, T⟩ := hrel
    have hl := rootB_len n k
    obtain ⟨a5, c5, hv5⟩ := O.bs.slice
    rw [hl] at hv5
    have hOl : ((rootB n k).map bv).length = k + 1 := by rw [List.length_map, hl]
    subst hv5
    by_cases hlt : k < 8
    · have hlt' : (k : Int) < 8 := by omega
      have hb8 : (0 : Int) ≤ 8 * (k : Int) := by omega
      have hl2 : (rootB n (k + 1)).length = k + 1 + 1 := rootB_len _ _
      clear hbA hl
      go_wp2_with (at_builtin; refine wpList_append_src rfl (.tmp 12) (.tmp 20) rfl Tryd.underlying60 Tryd.info5 rfl _ ((rootB n k).map bv) rfl (O.turn_no ((Turn.refl no wr).alloc _)) _ 1 (List.map bv [numAt n k]) rfl ?src ?b ?m ?_)
      case src => exact src_byte Tryd.underlying60 wr _ _ (byteOf_val _).symm
      case b => rw [hOl]; omega
      case m => rw [hOl]; simp only [maxLen]; omega
      intro v6 w6 O6 G6 _
      have O6' : Own w6 5 v6 ((rootB n (k + 1)).map bv) := by
        rw [rootB_succ, List.map_append]
        exact O6
      have f6 : ∀ g, v6.ownBlock = some g → w.heap.size < g := fun g q => by
        have := G6.fresh (B := w.heap.size + 1) (fun g q => by have := f g q; omega) (by have := RA.lt; simp; omega) g q
        omega
      have RA6 := (RA.alloc _).turn G6.turn (fun q => by have := f _ q; omega)
      have T6 : Turn no w w6 := (T.alloc _).fresh G6 (fun g q => by have := f g q; omega)
      obtain ⟨a6, c6, hv6⟩ := O6'.bs.slice
      rw [hl2] at hv6
      subst hv6
      clear O6 G6 O
      go_wp2_with fail
      go_roundw
      case rel => exact ⟨k + 1, by omega, by go_num, O6', f6, RA6, T6⟩
      case measure => simp [intOf]; omega
    · have hlt' : ¬ (k : Int) < 8 := by omega
      have hk8 : k = 8 := by omega
      subst hk8
      have S2 := hbA _ _ _ RA
      clear hbA
      go_wp2_with (at_builtin; refine wpList_append_src rfl (.tmp 22) (.tmp 23) rfl Tryd.underlying60 Tryd.info5 rfl _ ((rootB n 8).map bv) rfl O _ 32 XL rfl S2 ?b2 ?m2 ?_)
      case m2 => simp [maxLen]
      intro v3 w3 O3 G3 _
      have T3 : Turn no w w3 := T.fresh G3 (fun g q => by have := f g q; omega)
      obtain ⟨ad3, ln3, cp3, rfl⟩ := O3.form
      go_wp2_with fail
      go_ret
      exact ⟨_, rfl, O3, T3⟩
end Go.Proofs.YtieoomdbijpdhaaDoor

