/- Texts in one. -/
import Derived.Test.YtgimecdmleofeaaDoorF4
import Derived.Test.YtgimecdmleofeaaDoorJz
import Derived.Deep.MidRow
import Derived.Deep.CutRange
import Derived.Deep.RegionHeld3
import Derived.Laws.ResultCell
import Derived.Laws.Strings
/- The text under a root: rootOf, RootText. -/
namespace Go.Proofs.YtgimecdmleofeaaDoor
open Go.RowKit
set_option linter.unusedVariables false

/-- The number's eight bytes, the lowest first. -/
def numAt (n k : Nat) : UInt8 := byteOf ((n : Int) / 2 ^ (8 * k))
def numE (n : Nat) : List UInt8 := (List.range 8).map (numAt n)
theorem numE_len (n : Nat) : (numE n).length = 8 := by simp [numE]

set_option maxRecDepth 100000 in
set_option maxHeartbeats 4000000 in
theorem rootOf_any (w : World) (n : Nat) (hn : n ≤ 65536) (X : List UInt8) (hx : X.length = 32) (hl : Laid1 w) (h2 : 3 ≤ w.heap.size) :
    Calls Tryd.prog 101 #[.int .i64 n, .agg (hb32 X)] w fun e w' => e = .returned (.agg (hv (2 :: (numE n ++ X)))) ∧ Turn no w w' := by
  have hcall := fun g => sumOf_list w [(.slice (some ⟨g, 0, none⟩) 1 1, [2]), (.slice (some ⟨w.heap.size + 1 + 1, 0, none⟩) 8 8, numE n), (.slice (some ⟨w.heap.size, 0, none⟩) 32 32, X)] (by simp) (by simp) hl h2 (by simp [joined, hx, numE_len])
  have hj : ∀ g, joined [(Value.slice (some ⟨g, 0, none⟩) 1 1, [2]), (.slice (some ⟨w.heap.size + 1 + 1, 0, none⟩) 8 8, numE n), (.slice (some ⟨w.heap.size, 0, none⟩) 32 32, X)] = 2 :: (numE n ++ X) := fun g => by simp [joined]
  simp only [hj] at hcall
  have h1 := hv_one (2 :: (numE n ++ X))
  have hs := hv_size (2 :: (numE n ++ X))
  have hi := hv_info (2 :: (numE n ++ X))
  generalize hv (2 :: (numE n ++ X)) = H at *
  have hAs : (hb32 X).size = 32 := by simpa [hb32] using hx
  have hbA : ∀ W g e, Row W g (hb32 X) e → Bs W (.slice (some ⟨g, 0, none⟩) 32 32) X := fun W g e h => by have := row_bs h (by rw [hx]; simp [maxLen]); rwa [hx] at this
  have hbN : ∀ W g e (ar : Array Value), ar.size = 8 → (∀ j, j < 8 → ar[j]? = some (bv (numAt n j))) → Row W g ar e → Bs W (.slice (some ⟨g, 0, none⟩) 8 8) (numE n) := fun W g e ar ha hj h => by
    have ear : ar = ((numE n).map bv).toArray := by
      apply Array.ext_getElem?
      intro j
      by_cases hj8 : j < 8
      · rw [hj j hj8]; simp [numE, hj8]
      · rw [Array.getElem?_eq_none (by omega), Array.getElem?_eq_none (by simp [numE]; omega)]
    rw [ear] at h
    have := row_bs h (by rw [numE_len]; simp [maxLen])
    rwa [numE_len] at this
  generalize hb32 X = A at *
  clear hj
  go_enter Tryd.func101, Tryd.ntmps101
  go_wp2_with fail
  go_loopw [7] (fun c wr => ∃ (k : Nat) (ar : Array Value), k ≤ 8 ∧ c = .int .i64 k ∧ Row wr (w.heap.size + 1 + 1) ar 156 ∧ ar.size = 8 ∧ (∀ j, j < k → ar[j]? = some (bv (numAt n j))) ∧ Row wr w.heap.size A 29 ∧ (∃ z, Row wr (w.heap.size + 1) z 29 ∧ z.size = 32) ∧ Turn no w wr) (fun c _ => 8 - (intOf c).toNat)
  case atStart => exact ⟨0, _, Nat.zero_le _, rfl, Row.newAt _ _ _ _ (by simp), rfl, fun j q => by omega, ((Row.new w _ _).alloc _).alloc _, ⟨_, Row.alloc (Row.newAt _ _ _ _ (by simp)) _, rfl⟩, (((Turn.refl no w).alloc _).alloc _).alloc _⟩
  case round =>
    obtain ⟨k, ar, hk, rfl, Rn, has, han, RA, ⟨z, RZ, hzs⟩, T⟩ := hrel
    by_cases hlt : k < 8
    · have hlt' : (k : Int) < 8 := by omega
      have cn := Rn.cell k (ar[k]'(by omega)) (by simp [has, hlt])
      have fn := Rn.frozen k
      have hb8 : (0 : Int) ≤ 8 * (k : Int) := by omega
      have hnum : bv (numAt n k) = .int .u8 ((n : Int) / 2 ^ (8 * k) % 256) := bv_byteOf _
      clear hcall hbA hbN
      go_wp2_with fail
      go_roundw
      case rel =>
        refine ⟨k + 1, _, by omega, by go_num, Rn.set k _, by simpa using has, fun j hj => ?_, RA.other (by show w.heap.size + 1 + 1 ≠ w.heap.size; omega) _, ⟨z, RZ.other (by show w.heap.size + 1 + 1 ≠ w.heap.size + 1; omega) _, hzs⟩, T.setCell (fun q => by have q' : w.heap.size + 1 + 1 < w.heap.size := q; omega) _⟩
        by_cases hjk : j = k
        · subst hjk
          rw [Array.getElem?_setIfInBounds_self_of_lt (by omega), hnum]
        · rw [Array.getElem?_setIfInBounds_ne (by omega)]
          exact han j (by omega)
      case measure => simp [intOf]; omega
    · have hlt' : ¬ (k : Int) < 8 := by omega
      have hk8 : k = 8 := by omega
      subst hk8
      have BN := hbN _ _ _ ar has han Rn
      have BA := hbA _ _ _ RA
      clear han hbA hbN
      have hsA : ∀ W a, (Instr.sliceAt 29 (.pointer (some a)) none none none).run Tryd.prog W = .ok (.slice (some a) 32 32) W := fun W a => by
        rw [run_sliceAt_array_all (P := Tryd.prog) W 29 a (by kernel_rfl)]
        rw [show (sizeOf (Tryd.prog.elem 29)).run Tryd.prog W = .ok 1 W by kernel_rfl, show Tryd.prog.arrayLen 29 = 32 by kernel_rfl]
        simp [slicedAt, Addr.add_zero']
      have hsN : ∀ W a, (Instr.sliceAt 156 (.pointer (some a)) none none none).run Tryd.prog W = .ok (.slice (some a) 8 8) W := fun W a => by
        rw [run_sliceAt_array_all (P := Tryd.prog) W 156 a (by kernel_rfl)]
        rw [show (sizeOf (Tryd.prog.elem 156)).run Tryd.prog W = .ok 1 W by kernel_rfl, show Tryd.prog.arrayLen 156 = 8 by kernel_rfl]
        simp [slicedAt, Addr.add_zero']
      go_wp2_with fail
      refine wp_region_held_drew (S := fun w' => Turn no w w') (by kernel_rfl) (T.drew) (fun hHeld => ?_)
      refine' wpAnyH_take (i := 1) (v := .slice (some ⟨w.heap.size + 1 + 1, 0, none⟩) 8 8) rfl (by kernel_rfl) (by kernel_rfl) (by kernel_rfl) (fun _ _ _ h => h) (Or.inl ⟨by rfl, fun W hW => ?y1⟩) hHeld ?r1
      · go_simp
      refine' wpAnyH_take (i := 2) (v := .slice (some ⟨w.heap.size, 0, none⟩) 32 32) rfl (by kernel_rfl) (by kernel_rfl) (by kernel_rfl) (fun _ _ _ h => h) (Or.inl ⟨by rfl, fun W hW => ?y2⟩) hHeld ?r2
      · go_simp
      refine wpAnyH_ready (rs := [0]) (by kernel_rfl) (by simp) ?_
      refine AllReadyH.cons rfl (fun K hK => ?_) AllReadyH.nil
      go_simp
      refine hK.out _ _ ((T.alloc _).drew) (fun hHeld => ?_)
      clear hK
      have R1 : Row (wr.alloc (.cells #[.int .u8 2] 5)).drew wr.heap.size #[.int .u8 2] 5 := Row.new wr _ _
      have Tw : Turn no wr (wr.alloc (.cells #[.int .u8 2] 5)).drew := ((Turn.refl no wr).alloc _).drew
      generalize (wr.alloc (.cells #[.int .u8 2] 5)).drew = w1 at *
      generalize wr.heap.size = q1 at *
      refine wpAnyH_ready (rs := [3]) (by kernel_rfl) (by simp) ?_
      refine AllReadyH.cons rfl (fun K hK => ?_) AllReadyH.nil
      go_simp
      refine hK.out _ _ (hHeld.alloc _) (fun hHeld' => ?_)
      clear hK
      refine wpAnyH_ready (rs := [4]) (by kernel_rfl) (by simp) ?_
      refine AllReadyH.cons rfl (fun K hK => ?_) AllReadyH.nil
      go_simp
      have B1 : Bs w1 (.slice (some ⟨q1, 0, none⟩) 1 1) [2] := row_bs (X := [2]) R1 (by simp [maxLen])
      refine (hcall q1 _ (hHeld.alloc _) w1.heap.size 70 (Row.new w1 _ 70) (fun x hx => by
        simp at hx
        rcases hx with rfl | rfl | rfl
        · exact B1.turn_no ((Turn.refl no w1).alloc _)
        · exact (BN.turn_no Tw).turn_no ((Turn.refl no w1).alloc _)
        · exact (BA.turn_no Tw).turn_no ((Turn.refl no w1).alloc _))).mono ?_
      rintro e w5 ⟨rfl, t5⟩
      have T5 : Turn no wr w5 := (Tw.alloc _).then_no t5
      have RZ5 := RZ.turn T5 (fun q => q)
      have T5' := T.then_no T5
      clear hcall B1 BA BN t5
      go_wp2_with fail
      refine hK.out _ _ T5' (fun hHeld => ?_)
      clear hK
      refine wpAnyH_ready (rs := [5]) (by kernel_rfl) (by simp) ?_
      refine AllReadyH.cons rfl (fun K hK => ?_) AllReadyH.nil
      rw [if_pos (by rfl)]
      refine wp_store_row 29 _ _ rfl (w.heap.size + 1) H rfl rfl 29 z RZ5 hi (by omega) h1 ?_
      have hz' : (w5.setRow (w.heap.size + 1) H).heap[w.heap.size + 1]? = some (.cells H 29 (0, 0)) := setRow_heap _ _ _ _ _ _ RZ5
      have T6 : Turn no w (w5.setRow (w.heap.size + 1) H) := T5'.setRow _ _ (fun q => by omega)
      refine hK.out _ _ T6 (fun hHeld => ?_)
      clear hK
      refine wpAnyH_done (by kernel_rfl) ?_ _
      go_wp2_with fail
      refine bodyPost_ret (v := .agg H) ?_ rfl ⟨rfl, T6⟩
      exact results_cell_row (P := Tryd.prog) Tryd.results101 _ _ (w.heap.size + 1) 29 H (0, 0) _ rfl hz' Tryd.underlying29 rfl hi
end Go.Proofs.YtgimecdmleofeaaDoor



/- The text under a root: the reference's RootText. -/
namespace Go.Proofs.YtgimecdmleofeaaDoor
open Go.RowKit
set_option linter.unusedVariables false

/-- The text's beginning: the mark and the number's first k bytes. -/
def rootB (n k : Nat) : List UInt8 := 2 :: (List.range k).map (numAt n)
theorem rootB_len (n k : Nat) : (rootB n k).length = k + 1 := by simp [rootB]
theorem rootB_succ (n k : Nat) : rootB n (k + 1) = rootB n k ++ [numAt n k] := by simp [rootB, List.range_succ]
theorem rootB_all (n : Nat) (X : List UInt8) : 2 :: (numE n ++ X) = rootB n 8 ++ X := by simp [rootB, numE]

set_option maxRecDepth 100000 in
set_option maxHeartbeats 4000000 in
theorem rootText_any (w : World) (n : Nat) (hn : n ≤ 65536) (X : List UInt8) (hx : X.length = 32) :
    Calls Tryd.prog 86 #[.int .i64 n, .agg (X.map bv).toArray] w fun e w' => ∃ v, e = .returned v ∧ Own w' 5 v ((2 :: (numE n ++ X)).map bv) ∧ Turn no w w' := by
  have hAs : (X.map bv).toArray.size = 32 := by simpa using hx
  have hbA : ∀ W g e, Row W g (X.map bv).toArray e → Src Tryd.prog 1 70 (.slice (some ⟨g, 0, none⟩) 32 32) 32 (X.map bv) W := fun W g e h => by
    have := Bs.src (P := Tryd.prog) Tryd.underlying70 (row_bs h (by rw [hx]; simp [maxLen]))
    rwa [hx] at this
  have hXl : (X.map bv).length = 32 := by simpa using hx
  have hsA : ∀ W a, (Instr.sliceAt 29 (.pointer (some a)) none none none).run Tryd.prog W = .ok (.slice (some a) 32 32) W := fun W a => by
    rw [run_sliceAt_array_all (P := Tryd.prog) W 29 a (by kernel_rfl)]
    rw [show (sizeOf (Tryd.prog.elem 29)).run Tryd.prog W = .ok 1 W by kernel_rfl, show Tryd.prog.arrayLen 29 = 32 by kernel_rfl]
    simp [slicedAt, Addr.add_zero']
  have hjoin : (2 :: (numE n ++ X)).map bv = (rootB n 8).map bv ++ X.map bv := by rw [rootB_all, List.map_append]
  rw [hjoin]
  generalize (X.map bv).toArray = A at *
  generalize X.map bv = XL at *
  clear hjoin
  go_enter Tryd.func86, Tryd.ntmps86
  have RA := (Row.new w A 29).alloc (.cells #[bv 2] 5)
  have T0 : Turn no w ((w.alloc (.cells A 29)).alloc (.cells #[bv 2] 5)) := ((Turn.refl no w).alloc _).alloc _
  have O1 := own_one (w.alloc (.cells A 29)) 2
  have hq : (w.alloc (.cells A 29)).heap.size = w.heap.size + 1 := by simp
  rw [hq] at O1
  have O1' : Own ((w.alloc (.cells A 29)).alloc (.cells #[bv 2] 5)) 5 (.slice (some ⟨w.heap.size + 1, 0, none⟩) 1 1) ((rootB n 0).map bv) := by simpa [rootB] using O1
  clear O1 hq
  go_wp2_with fail
  go_loopw [5, 6] (fun v i wr => ∃ (k : Nat), k ≤ 8 ∧ i = .int .i64 (k : Int) ∧ Own wr 5 v ((rootB n k).map bv) ∧ (∀ g, v.ownBlock = some g → w.heap.size < g) ∧ Row wr w.heap.size A 29 ∧ Turn no w wr)
    (fun _ i _ => 8 - (intOf i).toNat)
  case atStart => exact ⟨0, by omega, rfl, O1', fun g q => by simp [Value.ownBlock] at q; omega, RA, T0⟩
  case round =>
    clear O1' RA T0
    obtain ⟨k, hk, rfl, O, f, RA, T⟩ := hrel
    have hl := rootB_len n k
    obtain ⟨a5, c5, hv5⟩ := O.bs.slice
    rw [hl] at hv5
    have hOl : ((rootB n k).map bv).length = k + 1 := by rw [List.length_map, hl]
    subst hv5
    by_cases hlt : k < 8
    · have hlt' : (k : Int) < 8 := by omega
      have hb8 : (0 : Int) ≤ 8 * (k : Int) := by omega
      have hl2 : (rootB n (k + 1)).length = k + 1 + 1 := rootB_len _ _
      clear hbA hl
      go_wp2_with (at_builtin; refine wpList_append_src rfl (.tmp 12) (.tmp 20) rfl Tryd.underlying70 Tryd.info5 rfl _ ((rootB n k).map bv) rfl (O.turn_no ((Turn.refl no wr).alloc _)) _ 1 (List.map bv [numAt n k]) rfl ?src ?b ?m ?_)
      case src => exact src_byte Tryd.underlying70 wr _ _ (byteOf_val _).symm
      case b => rw [hOl]; omega
      case m => rw [hOl]; simp only [maxLen]; omega
      intro v6 w6 O6 G6 _
      have O6' : Own w6 5 v6 ((rootB n (k + 1)).map bv) := by
        rw [rootB_succ, List.map_append]
        exact O6
      have f6 : ∀ g, v6.ownBlock = some g → w.heap.size < g := fun g q => by
        have := G6.fresh (B := w.heap.size + 1) (fun g q => by have := f g q; omega) (by have := RA.lt; simp; omega) g q
        omega
      have RA6 := (RA.alloc _).turn G6.turn (fun q => by have := f _ q; omega)
      have T6 : Turn no w w6 := (T.alloc _).fresh G6 (fun g q => by have := f g q; omega)
      obtain ⟨a6, c6, hv6⟩ := O6'.bs.slice
      rw [hl2] at hv6
      subst hv6
      clear O6 G6 O
      go_wp2_with fail
      go_roundw
      case rel => exact ⟨k + 1, by omega, by go_num, O6', f6, RA6, T6⟩
      case measure => simp [intOf]; omega
    · have hlt' : ¬ (k : Int) < 8 := by omega
      have hk8 : k = 8 := by omega
      subst hk8
      have S2 := hbA _ _ _ RA
      clear hbA
      go_wp2_with (at_builtin; refine wpList_append_src rfl (.tmp 22) (.tmp 23) rfl Tryd.underlying70 Tryd.info5 rfl _ ((rootB n 8).map bv) rfl O _ 32 XL rfl S2 ?b2 ?m2 ?_)
      case m2 => simp [maxLen]
      intro v3 w3 O3 G3 _
      have T3 : Turn no w w3 := T.fresh G3 (fun g q => by have := f g q; omega)
      obtain ⟨ad3, ln3, cp3, rfl⟩ := O3.form
      go_wp2_with fail
      go_ret
      exact ⟨_, rfl, O3, T3⟩
end Go.Proofs.YtgimecdmleofeaaDoor



/- The top of no items, both. -/
namespace Go.Proofs.YtgimecdmleofeaaDoor
open Go.RowKit
set_option linter.unusedVariables false

set_option maxRecDepth 100000 in
set_option maxHeartbeats 4000000 in
theorem rtop_none (w : World) (av : Option Addr) (cap : Nat) (hl : Laid0 w) (hsz : 3 ≤ w.heap.size) :
    Calls Tryd.prog 85 #[.slice av 0 cap] w fun e w' => e = .returned (.agg (hb32 (hashOf []))) ∧ Turn no w w' := by
  obtain ⟨z, hz, hzs⟩ : ∃ z : Array Value, z = #[.int .u8 0, .int .u8 0, .int .u8 0, .int .u8 0, .int .u8 0, .int .u8 0, .int .u8 0, .int .u8 0, .int .u8 0, .int .u8 0, .int .u8 0, .int .u8 0, .int .u8 0, .int .u8 0, .int .u8 0, .int .u8 0, .int .u8 0, .int .u8 0, .int .u8 0, .int .u8 0, .int .u8 0, .int .u8 0, .int .u8 0, .int .u8 0, .int .u8 0, .int .u8 0, .int .u8 0, .int .u8 0, .int .u8 0, .int .u8 0, .int .u8 0, .int .u8 0] ∧ z.size = 32 := ⟨_, rfl, rfl⟩
  have T0 : Turn no w (w.alloc (.cells z 29)) := (Turn.refl no w).alloc _
  have RZ := Row.new w z 29
  have hc := rsum_all (w.alloc (.cells z 29)) (.slice none 0 0) [] (Own.nil _ _ : Own (w.alloc (.cells z 29)) 5 (.slice none 0 0) (List.map bv [])).bs (hl.turn T0 (fun q => q)) (by have := T0.size; omega) (by simp)
  have hs := hv_size []
  have h1' := hv_one []
  have hi := hv_info []
  have hh : hb32 (hashOf []) = hv [] := rfl
  rw [hh]
  clear hh
  generalize hv [] = H at *
  rw [hz] at T0 RZ hc
  go_enter Tryd.func85, Tryd.ntmps85
  go_wp2_with fail
  refine hc.mono ?_
  rintro e w2 ⟨rfl, t2⟩
  have RZ2 := RZ.turn t2 (fun q => q)
  have T2 := T0.then_no t2
  go_wp2_with (refine wpList_store_row rfl 29 (.tmp 2) _ rfl w.heap.size H rfl rfl 29 _ RZ2 hi (by rw [hs]; rfl) h1' ?_)
  refine bodyPost_ret (v := .agg H) ?_ rfl ⟨rfl, T2.setRow _ _ (fun q => by omega)⟩
  exact results_cell_row (P := Tryd.prog) Tryd.results85 _ _ w.heap.size 29 H (0, 0) _ rfl (setRow_heap _ _ _ _ _ _ RZ2) Tryd.underlying29 rfl hi

set_option maxRecDepth 100000 in
set_option maxHeartbeats 4000000 in
theorem top_none (w : World) (av : Option Addr) (cap : Nat) (hl : Laid1 w) (hsz : 3 ≤ w.heap.size) :
    Calls Tryd.prog 102 #[.slice av 0 cap] w fun e w' => e = .returned (.agg (hb32 (hashOf []))) ∧ Turn no w w' := by
  obtain ⟨z, hz, hzs⟩ : ∃ z : Array Value, z = #[.int .u8 0, .int .u8 0, .int .u8 0, .int .u8 0, .int .u8 0, .int .u8 0, .int .u8 0, .int .u8 0, .int .u8 0, .int .u8 0, .int .u8 0, .int .u8 0, .int .u8 0, .int .u8 0, .int .u8 0, .int .u8 0, .int .u8 0, .int .u8 0, .int .u8 0, .int .u8 0, .int .u8 0, .int .u8 0, .int .u8 0, .int .u8 0, .int .u8 0, .int .u8 0, .int .u8 0, .int .u8 0, .int .u8 0, .int .u8 0, .int .u8 0, .int .u8 0] ∧ z.size = 32 := ⟨_, rfl, rfl⟩
  have T0 : Turn no w (w.alloc (.cells z 29)) := (Turn.refl no w).alloc _
  have RZ := Row.new w z 29
  have hc := sum19 (w.alloc (.cells z 29)) (.slice none 0 0) [] (Own.nil _ _ : Own (w.alloc (.cells z 29)) 5 (.slice none 0 0) (List.map bv [])).bs (hl.turn T0 (fun q => q)) (by have := T0.size; omega) (by simp)
  have hs := hv_size []
  have h1' := hv_one []
  have hi := hv_info []
  have hh : hb32 (hashOf []) = hv [] := rfl
  rw [hh]
  clear hh
  generalize hv [] = H at *
  rw [hz] at T0 RZ hc
  go_enter Tryd.func102, Tryd.ntmps102
  go_wp2_with fail
  refine hc.mono ?_
  rintro e w2 ⟨rfl, t2⟩
  have RZ2 := RZ.turn t2 (fun q => q)
  have T2 := T0.then_no t2
  go_wp2_with (refine wpList_store_row rfl 29 (.tmp 2) _ rfl w.heap.size H rfl rfl 29 _ RZ2 hi (by rw [hs]; rfl) h1' ?_)
  refine bodyPost_ret (v := .agg H) ?_ rfl ⟨rfl, T2.setRow _ _ (fun q => by omega)⟩
  exact results_cell_row (P := Tryd.prog) Tryd.results102 _ _ w.heap.size 29 H (0, 0) _ rfl (setRow_heap _ _ _ _ _ _ RZ2) Tryd.underlying29 rfl hi
end Go.Proofs.YtgimecdmleofeaaDoor



/- Is there too much? large and tooBig. -/
namespace Go.Proofs.YtgimecdmleofeaaDoor
open Go.RowKit
set_option linter.unusedVariables false

/-- More items, or a longer one, than there may be. -/
def bigOf (l : List (List UInt8)) : Bool := decide (65536 < l.length) || l.any (fun x => decide (1048576 < x.length))

set_option maxRecDepth 100000 in
set_option maxHeartbeats 4000000 in
theorem large_any (w : World) (l : List (Value × List UInt8)) (n b o cap : Nat) (hln : l.length = n) (hP : Pcs w b o l) (hcap : n ≤ cap) (hn : n < 4611686018427387904) :
    Calls Tryd.prog 84 #[.slice (some ⟨b, o, none⟩) n cap] w fun e w' => e = .returned (.bool (bigOf (l.map (·.2)))) ∧ w' = w := by
  have hb1 : 65536 < n → bigOf (l.map (·.2)) = true := fun h => by simp [bigOf, hln, h]
  have hb2 : ∀ x ∈ l, 1048576 < x.2.length → bigOf (l.map (·.2)) = true := fun x hx h => by
    have : (l.map (·.2)).any (fun x => decide (1048576 < x.length)) = true := List.any_eq_true.mpr ⟨x.2, List.mem_map.mpr ⟨x, hx, rfl⟩, by simpa using h⟩
    rw [bigOf, this, Bool.or_true]
  have hb3 : n ≤ 65536 → (∀ x ∈ l, x.2.length ≤ 1048576) → bigOf (l.map (·.2)) = false := fun h h' => by
    have : (l.map (·.2)).any (fun x => decide (1048576 < x.length)) = false := by
      rw [List.any_eq_false]
      intro x hx
      obtain ⟨y, hy, rfl⟩ := List.mem_map.mp hx
      have := h' y hy
      simp; omega
    rw [bigOf, this, Bool.or_false, List.length_map, hln]
    simp; omega
  generalize bigOf (l.map (·.2)) = R at *
  by_cases hbig : 65536 < n
  · have hbig' : (65536 : Int) < (n : Int) := by omega
    have hR := hb1 hbig
    subst hR
    clear hb1 hb2 hb3
    go_enter Tryd.func84, Tryd.ntmps84
    go_wp2_with fail
    go_ret
    exact ⟨rfl, rfl⟩
  · have hbig' : ¬ (65536 : Int) < (n : Int) := by omega
    go_enter Tryd.func84, Tryd.ntmps84
    go_wp2_with fail
    go_loopw [3] (fun c wr => ∃ (k : Nat), k ≤ n ∧ c = .int .i64 (k : Int) ∧ wr = w ∧ ∀ j x, j < k → l[j]? = some x → x.2.length ≤ 1048576) (fun c _ => n - (intOf c).toNat)
    case atStart => exact ⟨0, by omega, rfl, rfl, fun j x h => by omega⟩
    case round =>
      obtain ⟨k, hk, rfl, rfl, hsm⟩ := hrel
      by_cases hlt : k < n
      · have hlt' : (k : Int) < (n : Int) := by omega
        obtain ⟨x, hx⟩ : ∃ x, l[k]? = some x := ⟨l[k]'(by omega), by simp⟩
        obtain ⟨ck, bk⟩ := hP k x hx
        obtain ⟨ax, cx, hxs⟩ := bk.slice
        rw [hxs] at ck
        by_cases hlo : 1048576 < x.2.length
        · have hR := hb2 x (List.mem_of_getElem? hx) hlo
          subst hR
          have hlo' : (1048576 : Int) < (x.2.length : Int) := by omega
          clear hb1 hb2 hb3 hsm hxs bk
          generalize x.2.length = m at *
          go_wp2_with fail
          go_ret
          exact ⟨rfl, rfl⟩
        · have hlo' : ¬ (1048576 : Int) < (x.2.length : Int) := by omega
          have hsm' : ∀ j y, j < k + 1 → l[j]? = some y → y.2.length ≤ 1048576 := fun j y hj hy => by
            by_cases hjk : j = k
            · subst hjk
              rw [hx] at hy
              injection hy with hy
              subst hy
              omega
            · exact hsm j y (by omega) hy
          clear hb1 hb2 hb3 hsm hxs bk
          generalize hm : x.2.length = m at *
          clear hm
          go_wp2_with fail
          go_roundw
          case rel => exact ⟨k + 1, by omega, by go_num, trivial, hsm'⟩
          case measure => simp [intOf]; omega
      · have hlt' : ¬ (k : Int) < (n : Int) := by omega
        have hR := hb3 (by omega) (fun x hx => by
          obtain ⟨j, hj⟩ := List.getElem?_of_mem hx
          have hjl : j < l.length := (List.getElem?_eq_some_iff.mp hj).1
          exact hsm j x (by omega) hj)
        subst hR
        clear hb1 hb2 hb3 hsm
        go_wp2_with fail
        go_ret
        exact ⟨rfl, rfl⟩
end Go.Proofs.YtgimecdmleofeaaDoor



/- Is there too much? tooBig. -/
namespace Go.Proofs.YtgimecdmleofeaaDoor
open Go.RowKit
set_option linter.unusedVariables false


set_option maxRecDepth 100000 in
set_option maxHeartbeats 4000000 in
theorem tooBig_any (w : World) (l : List (Value × List UInt8)) (n b o cap : Nat) (hln : l.length = n) (hP : Pcs w b o l) (hcap : n ≤ cap) (hn : n < 4611686018427387904) :
    Calls Tryd.prog 100 #[.slice (some ⟨b, o, none⟩) n cap] w fun e w' => e = .returned (.bool (bigOf (l.map (·.2)))) ∧ w' = w := by
  have hb1 : 65536 < n → bigOf (l.map (·.2)) = true := fun h => by simp [bigOf, hln, h]
  have hb2 : ∀ x ∈ l, 1048576 < x.2.length → bigOf (l.map (·.2)) = true := fun x hx h => by
    have : (l.map (·.2)).any (fun x => decide (1048576 < x.length)) = true := List.any_eq_true.mpr ⟨x.2, List.mem_map.mpr ⟨x, hx, rfl⟩, by simpa using h⟩
    rw [bigOf, this, Bool.or_true]
  have hb3 : n ≤ 65536 → (∀ x ∈ l, x.2.length ≤ 1048576) → bigOf (l.map (·.2)) = false := fun h h' => by
    have : (l.map (·.2)).any (fun x => decide (1048576 < x.length)) = false := by
      rw [List.any_eq_false]
      intro x hx
      obtain ⟨y, hy, rfl⟩ := List.mem_map.mp hx
      have := h' y hy
      simp; omega
    rw [bigOf, this, Bool.or_false, List.length_map, hln]
    simp; omega
  generalize bigOf (l.map (·.2)) = R at *
  by_cases hbig : 65536 < n
  · have hbig' : (65536 : Int) < (n : Int) := by omega
    have hR := hb1 hbig
    subst hR
    clear hb1 hb2 hb3
    go_enter Tryd.func100, Tryd.ntmps100
    go_wp2_with fail
    go_ret
    exact ⟨rfl, rfl⟩
  · have hbig' : ¬ (65536 : Int) < (n : Int) := by omega
    go_enter Tryd.func100, Tryd.ntmps100
    go_wp2_with fail
    go_loopw [10] (fun c wr => ∃ (k : Nat), k ≤ n ∧ c = .int .i64 (k : Int) ∧ wr = w ∧ ∀ j x, j < k → l[j]? = some x → x.2.length ≤ 1048576) (fun c _ => n - (intOf c).toNat)
    case atStart => exact ⟨0, by omega, rfl, rfl, fun j x h => by omega⟩
    case round =>
      obtain ⟨k, hk, rfl, rfl, hsm⟩ := hrel
      by_cases hlt : k < n
      · have hlt' : (k : Int) < (n : Int) := by omega
        obtain ⟨x, hx⟩ : ∃ x, l[k]? = some x := ⟨l[k]'(by omega), by simp⟩
        obtain ⟨ck, bk⟩ := hP k x hx
        obtain ⟨ax, cx, hxs⟩ := bk.slice
        rw [hxs] at ck
        by_cases hlo : 1048576 < x.2.length
        · have hR := hb2 x (List.mem_of_getElem? hx) hlo
          subst hR
          have hlo' : (1048576 : Int) < (x.2.length : Int) := by omega
          clear hb1 hb2 hb3 hsm hxs bk
          generalize x.2.length = m at *
          go_wp2_with fail
          go_ret
          exact ⟨rfl, rfl⟩
        · have hlo' : ¬ (1048576 : Int) < (x.2.length : Int) := by omega
          have hsm' : ∀ j y, j < k + 1 → l[j]? = some y → y.2.length ≤ 1048576 := fun j y hj hy => by
            by_cases hjk : j = k
            · subst hjk
              rw [hx] at hy
              injection hy with hy
              subst hy
              omega
            · exact hsm j y (by omega) hy
          clear hb1 hb2 hb3 hsm hxs bk
          generalize hm : x.2.length = m at *
          clear hm
          go_wp2_with fail
          go_roundw
          case rel => exact ⟨k + 1, by omega, by go_num, trivial, hsm'⟩
          case measure => simp [intOf]; omega
      · have hlt' : ¬ (k : Int) < (n : Int) := by omega
        have hR := hb3 (by omega) (fun x hx => by
          obtain ⟨j, hj⟩ := List.getElem?_of_mem hx
          have hjl : j < l.length := (List.getElem?_eq_some_iff.mp hj).1
          exact hsm j x (by omega) hj)
        subst hR
        clear hb1 hb2 hb3 hsm
        go_wp2_with fail
        go_ret
        exact ⟨rfl, rfl⟩
set_option maxRecDepth 100000 in
set_option maxHeartbeats 4000000 in
theorem large_none (w : World) (av : Option Addr) (cap : Nat) :
    Calls Tryd.prog 84 #[.slice av 0 cap] w fun e w' => e = .returned (.bool false) ∧ w' = w := by
  go_enter Tryd.func84, Tryd.ntmps84
  go_wp2_with fail
  go_loopw [3] (fun c wr => c = .int .i64 0 ∧ wr = w) (fun _ _ => 0)
  case atStart => exact ⟨rfl, rfl⟩
  case round =>
    obtain ⟨rfl, rfl⟩ := hrel
    go_wp2_with fail
    go_ret
    exact ⟨rfl, rfl⟩

set_option maxRecDepth 100000 in
set_option maxHeartbeats 4000000 in
theorem tooBig_none (w : World) (av : Option Addr) (cap : Nat) :
    Calls Tryd.prog 100 #[.slice av 0 cap] w fun e w' => e = .returned (.bool false) ∧ w' = w := by
  go_enter Tryd.func100, Tryd.ntmps100
  go_wp2_with fail
  go_loopw [10] (fun c wr => c = .int .i64 0 ∧ wr = w) (fun _ _ => 0)
  case atStart => exact ⟨rfl, rfl⟩
  case round =>
    obtain ⟨rfl, rfl⟩ := hrel
    go_wp2_with fail
    go_ret
    exact ⟨rfl, rfl⟩
end Go.Proofs.YtgimecdmleofeaaDoor



/- Lists of items; Root of both; Clash. -/
namespace Go.Proofs.YtgimecdmleofeaaDoor
open Go.RowKit
set_option linter.unusedVariables false

section
variable {P : Program} {ops : Array Oper} {rest : List Oper} {op : Oper} {a : Act} {w : World} {Q : Exit → Act → World → Prop}
end
abbrev Its := List (Value × List UInt8)
def txs (l : Its) : List (List UInt8) := l.map (·.2)
theorem txs_len (l : Its) : (txs l).length = l.length := by simp [txs]
/-- A list of items, wherever it lies. -/
structure BlAt (w : World) (a : Option Addr) (cap : Nat) (l : Its) : Prop where
  le : l.length ≤ cap
  cap : cap ≤ maxLen
  lt : l.length < 4611686018427387904
  pcs : l = [] ∨ ∃ b o, a = some ⟨b, o, none⟩ ∧ Pcs w b o l
theorem BlAt.turn_no {w w' : World} {a : Option Addr} {cap : Nat} {l : Its} (h : BlAt w a cap l) (t : Turn no w w') : BlAt w' a cap l :=
  ⟨h.le, h.cap, h.lt, h.pcs.elim .inl (fun ⟨b, o, e, p⟩ => .inr ⟨b, o, e, p.turn_no t⟩)⟩
def okL (l : Its) : Prop := l.length ≤ 65536 ∧ ∀ x ∈ l, x.2.length ≤ 1048576
theorem big_of (l : Its) : bigOf (txs l) = false ↔ okL l := by
  unfold bigOf okL txs
  simp [Bool.or_eq_false_iff]
section
variable {w : World} {a : Option Addr} {cap : Nat} {l : Its}
theorem big_all (h : BlAt w a cap l) : Calls Tryd.prog 100 #[.slice a l.length cap] w fun e w' => e = .returned (.bool (bigOf (txs l))) ∧ w' = w := by
  rcases h.pcs with rfl | ⟨b, o, rfl, p⟩
  · exact tooBig_none w a cap
  · exact tooBig_any w l l.length b o cap rfl p h.le h.lt
theorem rbig_all (h : BlAt w a cap l) : Calls Tryd.prog 84 #[.slice a l.length cap] w fun e w' => e = .returned (.bool (bigOf (txs l))) ∧ w' = w := by
  rcases h.pcs with rfl | ⟨b, o, rfl, p⟩
  · exact large_none w a cap
  · exact large_any w l l.length b o cap rfl p h.le h.lt
theorem top_all (h : BlAt w a cap l) (ho : okL l) (hl : Laid1 w) (h2 : 3 ≤ w.heap.size) : Calls Tryd.prog 102 #[.slice a l.length cap] w fun e w' => e = .returned (.agg (hb32 (topH (txs l)))) ∧ Turn no w w' := by
  by_cases h0 : l = []
  · subst h0
    rw [topH_none (txs []) rfl]
    exact top_none w a cap hl h2
  · rcases h.pcs with q | ⟨b, o, rfl, p⟩
    · exact absurd q h0
    · exact top_any l.length l b o cap w rfl p h.le (List.length_pos_iff.2 h0) ho.1 ho.2 hl h2
theorem rtop_all (h : BlAt w a cap l) (ho : okL l) (hl : Laid0 w) (h2 : 3 ≤ w.heap.size) : Calls Tryd.prog 85 #[.slice a l.length cap] w fun e w' => e = .returned (.agg (hb32 (topH (txs l)))) ∧ Turn no w w' := by
  by_cases h0 : l = []
  · subst h0
    rw [topH_none (txs []) rfl]
    exact rtop_none w a cap hl h2
  · rcases h.pcs with q | ⟨b, o, rfl, p⟩
    · exact absurd q h0
    · exact rtop_any l.length l b o cap w rfl p h.le (List.length_pos_iff.2 h0) ho.1 ho.2 hl h2
end
/-- What Root answers. -/
def rootE (l : Its) : Int := if bigOf (txs l) = true then 4 else 0
def rootT (l : Its) : List UInt8 := 2 :: (numE l.length ++ topH (txs l))
def rootH (l : Its) : List UInt8 := if bigOf (txs l) = true then z32 else hashOf (rootT l)
theorem rootH_len (l : Its) : (rootH l).length = 32 := by
  unfold rootH
  split
  · rfl
  · exact hashOf_len _
set_option maxRecDepth 100000 in
set_option maxHeartbeats 4000000 in
theorem root7 (w : World) (a : Option Addr) (cap : Nat) (l : Its) (h : BlAt w a cap l) (hl : Laid1 w) (h2 : 3 ≤ w.heap.size) : Calls Tryd.prog 80 #[.slice a l.length cap] w fun e w' => e = .returned (.tuple #[.agg (hb32 (rootH l)), .int .i64 (rootE l)]) ∧ Turn no w w' := by
  have hZ := hb32_size z32_len
  have oZ := hb32_one z32
  have iZ := hb32_info z32_len
  have hzv := zero35v
  have hbd := shut bld35
  obtain ⟨w0, hw0⟩ : ∃ w0, w.alloc (.cells (hb32 z32) 29) = w0 := ⟨_, rfl⟩
  have T0 : Turn no w w0 := by rw [← hw0]; exact (Turn.refl no w).alloc _
  have RZ : Row w0 w.heap.size (hb32 z32) 29 := by rw [← hw0]; exact Row.new w _ 29
  have hb := big_all (h.turn_no T0)
  cases hbg : bigOf (txs l) with
  | true =>
    have e1 : rootE l = 4 := if_pos hbg
    have e2 : rootH l = z32 := if_pos hbg
    rw [e1, e2]
    rw [hbg] at hb
    generalize hb32 z32 = Z at *
    generalize l.length = n at *
    clear e1 e2 hbg h
    go_enter Tryd.func80, Tryd.ntmps80
    go_upto_region 1 with fail
    try rw [hw0]
    clear hw0 hzv
    go_wp2_with (first | (go_at_call 100; refine hb.mono ?_; clear hb; rintro e w1 ⟨rfl, hw1⟩; subst hw1) | (guard_target =~ wpList _ _ _ ({ dst := _, op := Op.build 29 _, .. } :: _) _ _; refine wpList_buildG (by kernel_rfl) 29 rfl _ (hbd.out _) ?_) | (guard_target =~ wpList _ _ _ ({ dst := _, op := Op.store 29 _ _, .. } :: _) _ _; refine wpList_store_row rfl 29 (.tmp 2) (.tmp 6) rfl w.heap.size Z rfl rfl 29 Z RZ iZ rfl oZ ?_))
    refine bodyPost_ret (v := .tuple #[.agg Z, .int .i64 4]) ?_ rfl ⟨rfl, T0.setRow _ _ (fun q => by omega)⟩
    exact results_cell_row_tmp (P := Tryd.prog) Tryd.results80 _ _ w.heap.size 29 Z (0, 0) _ rfl (setRow_heap _ _ _ _ _ _ RZ) Tryd.underlying29 rfl iZ
  | false =>
    have ho := (big_of l).1 hbg
    have e1 : rootE l = 0 := if_neg (by rw [hbg]; decide)
    have e2 : rootH l = hashOf (rootT l) := if_neg (by rw [hbg]; decide)
    rw [e1, e2]
    rw [hbg] at hb
    have lt := topH_len (txs l)
    have ht := top_all (h.turn_no T0) ho (hl.turn T0 (fun q => q)) (by have := T0.size; omega)
    have hr := fun W (T : Turn no w W) => rootOf_any W l.length ho.1 (topH (txs l)) lt (hl.turn T (fun q => q)) (by have := T.size; omega)
    rw [show hb32 (hashOf (rootT l)) = hv (rootT l) from rfl]
    have hs := hv_size (rootT l)
    have o1 := hv_one (rootT l)
    have hi := hv_info (rootT l)
    have HR : Shut (∀ W, Turn no w W → Calls Tryd.prog 101 #[.int .i64 l.length, .agg (hb32 (topH (txs l)))] W fun e w' => e = .returned (.agg (hv (rootT l))) ∧ Turn no W w') := ⟨hr⟩
    clear hr
    generalize hv (rootT l) = H at *
    generalize hb32 (topH (txs l)) = TP at *
    generalize hb32 z32 = Z at *
    generalize l.length = n at *
    clear e1 e2 hbg h lt ho
    go_enter Tryd.func80, Tryd.ntmps80
    go_upto_region 1 with fail
    try rw [hw0]
    clear hw0 hzv
    go_wp2_with (first | (go_at_call 100; refine hb.mono ?_; clear hb; rintro e w1 ⟨rfl, hw1⟩; subst hw1) | (go_at_call 102; refine ht.mono ?_; clear ht; rintro e w2 ⟨rfl, t2⟩; have T2 := T0.then_no t2; have hr := HR.out w2 T2) | (go_at_call 101; refine hr.mono ?_; clear hr; rintro e w3 ⟨rfl, t3⟩; have T3 := T2.then_no t3; have RZ3 := Row.turn (Row.turn RZ t2 (fun q => q)) t3 (fun q => q)) | (guard_target =~ wpList _ _ _ ({ dst := _, op := Op.store 29 _ _, .. } :: _) _ _; refine wpList_store_row rfl 29 (.tmp 2) (.tmp 11) rfl w.heap.size H rfl rfl 29 Z RZ3 hi (by rw [hZ, hs]) o1 ?_))
    refine bodyPost_ret (v := .tuple #[.agg H, .int .i64 0]) ?_ rfl ⟨rfl, T3.setRow _ _ (fun q => by omega)⟩
    exact results_cell_row_tmp (P := Tryd.prog) Tryd.results80 _ _ w.heap.size 29 H (0, 0) _ rfl (setRow_heap _ _ _ _ _ _ RZ3) Tryd.underlying29 rfl hi
set_option maxRecDepth 100000 in
set_option maxHeartbeats 4000000 in
theorem root8 (w : World) (a : Option Addr) (cap : Nat) (l : Its) (h : BlAt w a cap l) (hl : Laid0 w) (h2 : 3 ≤ w.heap.size) : Calls Tryd.prog 44 #[.slice a l.length cap] w fun e w' => e = .returned (.tuple #[.agg (hb32 (rootH l)), .int .i64 (rootE l)]) ∧ Turn no w w' := by
  have hZ := hb32_size z32_len
  have oZ := hb32_one z32
  have iZ := hb32_info z32_len
  have hzv := zero35v
  have hbd := shut bld35
  obtain ⟨w0, hw0⟩ : ∃ w0, w.alloc (.cells (hb32 z32) 29) = w0 := ⟨_, rfl⟩
  have T0 : Turn no w w0 := by rw [← hw0]; exact (Turn.refl no w).alloc _
  have RZ : Row w0 w.heap.size (hb32 z32) 29 := by rw [← hw0]; exact Row.new w _ 29
  have hb := rbig_all (h.turn_no T0)
  cases hbg : bigOf (txs l) with
  | true =>
    have e1 : rootE l = 4 := if_pos hbg
    have e2 : rootH l = z32 := if_pos hbg
    rw [e1, e2]
    rw [hbg] at hb
    generalize hb32 z32 = Z at *
    generalize l.length = n at *
    clear e1 e2 hbg h
    go_enter Tryd.func44, Tryd.ntmps44
    go_upto_region 1 with fail
    try rw [hw0]
    clear hw0 hzv
    go_wp2_with (first | (go_at_call 84; refine hb.mono ?_; clear hb; rintro e w1 ⟨rfl, hw1⟩; subst hw1) | (guard_target =~ wpList _ _ _ ({ dst := _, op := Op.build 29 _, .. } :: _) _ _; refine wpList_buildG (by kernel_rfl) 29 rfl _ (hbd.out _) ?_) | (guard_target =~ wpList _ _ _ ({ dst := _, op := Op.store 29 _ _, .. } :: _) _ _; refine wpList_store_row rfl 29 (.tmp 2) (.tmp 8) rfl w.heap.size Z rfl rfl 29 Z RZ iZ rfl oZ ?_))
    refine bodyPost_ret (v := .tuple #[.agg Z, .int .i64 4]) ?_ rfl ⟨rfl, T0.setRow _ _ (fun q => by omega)⟩
    exact results_cell_row_tmp (P := Tryd.prog) Tryd.results44 _ _ w.heap.size 29 Z (0, 0) _ rfl (setRow_heap _ _ _ _ _ _ RZ) Tryd.underlying29 rfl iZ
  | false =>
    have ho := (big_of l).1 hbg
    have e1 : rootE l = 0 := if_neg (by rw [hbg]; decide)
    have e2 : rootH l = hashOf (rootT l) := if_neg (by rw [hbg]; decide)
    rw [e1, e2]
    rw [hbg] at hb
    have lt := topH_len (txs l)
    have ht := rtop_all (h.turn_no T0) ho (hl.turn T0 (fun q => q)) (by have := T0.size; omega)
    have sT := hb32_size lt
    have oT := hb32_one (topH (txs l))
    have iT := hb32_info lt
    have HR : Shut (∀ W, Turn no w W → Calls Tryd.prog 86 #[.int .i64 l.length, .agg (hb32 (topH (txs l)))] W fun e w' => ∃ v, e = .returned v ∧ Bs w' v (rootT l) ∧ Turn no W w') := ⟨fun W T => (rootText_any W l.length ho.1 (topH (txs l)) lt).mono (fun e w' ⟨v, e1, o, t⟩ => ⟨v, e1, o.bs, t⟩)⟩
    have hln : (rootT l).length ≤ 140737488355328 := by simp [rootT, numE_len, lt]
    have HS : Shut (∀ W, Turn no w W → ∀ v, Bs W v (rootT l) → Calls Tryd.prog 31 #[v] W fun e w' => e = .returned (.agg (hv (rootT l))) ∧ Turn no W w') := ⟨fun W T v b => rsum_all W v _ b (hl.turn T (fun q => q)) (by have := T.size; omega) hln⟩
    rw [show hb32 (hashOf (rootT l)) = hv (rootT l) from rfl]
    have hs := hv_size (rootT l)
    have o1 := hv_one (rootT l)
    have hi := hv_info (rootT l)
    generalize hv (rootT l) = H at *
    generalize rootT l = TX at *
    generalize hb32 (topH (txs l)) = TP at *
    generalize hb32 z32 = Z at *
    generalize l.length = n at *
    clear e1 e2 hbg h lt ho hln
    go_enter Tryd.func44, Tryd.ntmps44
    go_upto_region 1 with fail
    try rw [hw0]
    clear hw0
    go_upto_region 4 with (first | (go_at_call 84; refine hb.mono ?_; clear hb; rintro e w1 ⟨rfl, hw1⟩; subst hw1) | (go_at_call 85; refine ht.mono ?_; clear ht; rintro e w2 ⟨rfl, t2⟩) | (guard_target =~ wpList _ _ _ ({ dst := _, op := Op.store 29 _ _, .. } :: _) _ _; refine wpList_store_anyN rfl rfl 29 (.tmp 4) (.tmp 10) rfl _ TP rfl rfl 29 Z (Row.new _ Z 29) iT (by rw [hZ, sT]) oT ?_; intro w4 R4 t4))
    have T24 : Turn (fun q => q = w2.heap.size) w2 w4 := ((Turn.refl no w2).alloc _).of_no.trans t4 (fun _ _ e => e)
    have RZ2 := Row.turn RZ t2 (fun q => q)
    have T2 := T0.then_no t2
    have g2 := RZ2.lt
    have RZ4 := Row.turn RZ2 T24 (fun e => by omega)
    have T4 := T2.trans T24 (fun i hi e => by have := T2.size; omega)
    have hr := HR.out w4 T4
    clear T24 RZ2 RZ t2 t4 T2 T0
    generalize w2.heap.size = g4 at *
    go_upto_region 5 with (first | (guard_target =~ wpList _ _ _ ({ dst := _, op := Op.load 29 _, .. } :: _) _ _; refine wpList_load_row rfl 29 (.tmp 4) rfl g4 rfl 29 TP _ _ R4 Tryd.underlying29 rfl iT ?_) | (go_at_call 86; refine hr.mono ?_; clear hr; rintro e w5 ⟨v5, rfl, b5, t5⟩; have hsu := HS.out w5 (T4.then_no t5) v5 b5) | (go_at_call 31; refine hsu.mono ?_; clear hsu; rintro e w6 ⟨rfl, t6⟩) | (guard_target =~ wpList _ _ _ ({ dst := _, op := Op.store 29 _ _, .. } :: _) _ _; refine wpList_store_anyN rfl rfl 29 (.tmp 5) (.tmp 15) rfl _ H rfl rfl 29 Z (Row.new _ Z 29) hi (by rw [hZ, hs]) o1 ?_; intro w7 R7 t7))
    have T67 : Turn (fun q => q = w6.heap.size) w6 w7 := ((Turn.refl no w6).alloc _).of_no.trans t7 (fun _ _ e => e)
    have t56 := t5.then_no t6
    have T47 : Turn no w4 w7 := t56.trans T67 (fun i hi e => by have := t56.size; omega)
    have RZ7 := Row.turn RZ4 T47 (fun q => q)
    have T7 := T4.then_no T47
    clear T67 t56 T47 RZ4 t5 t6 t7 T4
    generalize w6.heap.size = g6 at *
    go_wp2_with (first | (guard_target =~ wpList _ _ _ ({ dst := _, op := Op.load 29 _, .. } :: _) _ _; refine wpList_load_row rfl 29 (.tmp 5) rfl g6 rfl 29 H _ _ R7 Tryd.underlying29 rfl hi ?_) | (guard_target =~ wpList _ _ _ ({ dst := _, op := Op.store 29 _ _, .. } :: _) _ _; refine wpList_store_row rfl 29 (.tmp 2) (.tmp 16) rfl w.heap.size H rfl rfl 29 Z RZ7 hi (by rw [hZ, hs]) o1 ?_))
    refine bodyPost_ret (v := .tuple #[.agg H, .int .i64 0]) ?_ rfl ⟨rfl, T7.setRow _ _ (fun q => by omega)⟩
    exact results_cell_row_tmp (P := Tryd.prog) Tryd.results44 _ _ w.heap.size 29 H (0, 0) _ rfl (setRow_heap _ _ _ _ _ _ RZ7) Tryd.underlying29 rfl hi
/-- Two unlike texts with one digest. -/
def clB (A B : List UInt8) : Bool := !(A == B) && hashOf A == hashOf B
theorem text_list (A : List UInt8) : (⟨A.toArray⟩ : ByteArray).toList = A := by
  rw [ByteArray.toList_eq]
end Go.Proofs.YtgimecdmleofeaaDoor


