/- Texts in one. -/
import Derived.Test.YtlacfenenbblaaaGreatDoorFa
/- The text under a root: rootOf, RootText. -/
namespace Go.Proofs.YtlacfenenbblaaaGreatDoor
open Go.RowKit
set_option linter.unusedVariables false

/-- The number's eight bytes, the lowest first. -/
def numAt (n k : Nat) : UInt8 := byteOf ((n : Int) / 2 ^ (8 * k))
def numE (n : Nat) : List UInt8 := (List.range 8).map (numAt n)
theorem numE_len (n : Nat) : (numE n).length = 8 := by simp [numE]

set_option maxRecDepth 100000 in
set_option maxHeartbeats 4000000 in
theorem rootOf_any (w : World) (n : Nat) (hn : n ≤ 65536) (X : List UInt8) (hx : X.length = 32) (hl : Laid1 w) (h2 : 2 ≤ w.heap.size) :
    Calls Tryz.prog 53 #[.int .i64 n, .agg (hb32 X)] w fun e w' => e = .returned (.agg (hv (2 :: (numE n ++ X)))) ∧ Turn no w w' := by
  have hcall := fun g => sumOf_list w [(.slice (some ⟨g, 0, none⟩) 1 1, [2]), (.slice (some ⟨w.heap.size + 1 + 1, 0, none⟩) 8 8, numE n), (.slice (some ⟨w.heap.size, 0, none⟩) 32 32, X)] (by simp) (by simp) hl h2 (by simp [joined, hx, numE_len])
  have hj : ∀ g, joined [(Value.slice (some ⟨g, 0, none⟩) 1 1, [2]), (.slice (some ⟨w.heap.size + 1 + 1, 0, none⟩) 8 8, numE n), (.slice (some ⟨w.heap.size, 0, none⟩) 32 32, X)] = 2 :: (numE n ++ X) := fun g => by simp [joined]
  simp only [hj] at hcall
  have h1 := hv_one (2 :: (numE n ++ X))
  have hs := hv_size (2 :: (numE n ++ X))
  have hi := hv_info (2 :: (numE n ++ X))
  generalize hv (2 :: (numE n ++ X)) = H at *
  have hAs : (hb32 X).size = 32 := by simpa [hb32] using hx
  have hbA : ∀ W g e, Row W g (hb32 X) e → Bs W (.slice (some ⟨g, 0, none⟩) 32 32) X := fun W g e h => by have := row_bs h (by rw [hx]; simp [maxLen]); rwa [hx] at this
  have hbN : ∀ W g e (ar : Array Value), ar.size = 8 → (∀ j, j < 8 → ar[j]? = some (bv (numAt n j))) → Row W g ar e → Bs W (.slice (some ⟨g, 0, none⟩) 8 8) (numE n) := fun W g e ar ha hj h => by
    have ear : ar = ((numE n).map bv).toArray := by
      apply Array.ext_getElem?
      intro j
      by_cases hj8 : j < 8
      · rw [hj j hj8]; simp [numE, hj8]
      · rw [Array.getElem?_eq_none (by omega), Array.getElem?_eq_none (by simp [numE]; omega)]
    rw [ear] at h
    have := row_bs h (by rw [numE_len]; simp [maxLen])
    rwa [numE_len] at this
  generalize hb32 X = A at *
  clear hj
  go_enter Tryz.func53, Tryz.ntmps53
  go_wp2_with fail
  go_loopw [7] (fun c wr => ∃ (k : Nat) (ar : Array Value), k ≤ 8 ∧ c = .int .i64 k ∧ Row wr (w.heap.size + 1 + 1) ar 124 ∧ ar.size = 8 ∧ (∀ j, j < k → ar[j]? = some (bv (numAt n j))) ∧ Row wr w.heap.size A 29 ∧ (∃ z, Row wr (w.heap.size + 1) z 29 ∧ z.size = 32) ∧ Turn no w wr) (fun c _ => 8 - (intOf c).toNat)
  case atStart => exact ⟨0, _, Nat.zero_le _, rfl, Row.newAt _ _ _ _ (by simp), rfl, fun j q => by omega, ((Row.new w _ _).alloc _).alloc _, ⟨_, Row.alloc (Row.newAt _ _ _ _ (by simp)) _, rfl⟩, (((Turn.refl no w).alloc _).alloc _).alloc _⟩
  case round =>
    obtain ⟨k, ar, hk, rfl, Rn, has, han, RA, ⟨z, RZ, hzs⟩, T⟩ := hrel
    by_cases hlt : k < 8
    · have hlt' : (k : Int) < 8 := by omega
      have cn := Rn.cell k (ar[k]'(by omega)) (by simp [has, hlt])
      have fn := Rn.frozen k
      have hb8 : (0 : Int) ≤ 8 * (k : Int) := by omega
      have hnum : bv (numAt n k) = .int .u8 ((n : Int) / 2 ^ (8 * k) % 256) := bv_byteOf _
      clear hcall hbA hbN
      go_wp2_with fail
      go_roundw
      case rel =>
        refine ⟨k + 1, _, by omega, by go_num, Rn.set k _, by simpa using has, fun j hj => ?_, RA.other (by show w.heap.size + 1 + 1 ≠ w.heap.size; omega) _, ⟨z, RZ.other (by show w.heap.size + 1 + 1 ≠ w.heap.size + 1; omega) _, hzs⟩, T.setCell (fun q => by have q' : w.heap.size + 1 + 1 < w.heap.size := q; omega) _⟩
        by_cases hjk : j = k
        · subst hjk
          rw [Array.getElem?_setIfInBounds_self_of_lt (by omega), hnum]
        · rw [Array.getElem?_setIfInBounds_ne (by omega)]
          exact han j (by omega)
      case measure => simp [intOf]; omega
    · have hlt' : ¬ (k : Int) < 8 := by omega
      have hk8 : k = 8 := by omega
      subst hk8
      have BN := hbN _ _ _ ar has han Rn
      have BA := hbA _ _ _ RA
      clear han hbA hbN
      have hsA : ∀ W a, (Instr.sliceAt 29 (.pointer (some a)) none none none).run Tryz.prog W = .ok (.slice (some a) 32 32) W := fun W a => by
        rw [run_sliceAt_array_all (P := Tryz.prog) W 29 a (by kernel_rfl)]
        rw [show (sizeOf (Tryz.prog.elem 29)).run Tryz.prog W = .ok 1 W by kernel_rfl, show Tryz.prog.arrayLen 29 = 32 by kernel_rfl]
        simp [slicedAt, Addr.add_zero']
      have hsN : ∀ W a, (Instr.sliceAt 124 (.pointer (some a)) none none none).run Tryz.prog W = .ok (.slice (some a) 8 8) W := fun W a => by
        rw [run_sliceAt_array_all (P := Tryz.prog) W 124 a (by kernel_rfl)]
        rw [show (sizeOf (Tryz.prog.elem 124)).run Tryz.prog W = .ok 1 W by kernel_rfl, show Tryz.prog.arrayLen 124 = 8 by kernel_rfl]
        simp [slicedAt, Addr.add_zero']
      go_wp2_with fail
      refine wp_region_held_drew (S := fun w' => Turn no w w') (by kernel_rfl) (T.drew) (fun hHeld => ?_)
      refine' wpAnyH_take (i := 1) (v := .slice (some ⟨w.heap.size + 1 + 1, 0, none⟩) 8 8) rfl (by kernel_rfl) (by kernel_rfl) (by kernel_rfl) (fun _ _ _ h => h) (Or.inl ⟨by rfl, fun W hW => ?y1⟩) hHeld ?r1
      · go_simp
      refine' wpAnyH_take (i := 2) (v := .slice (some ⟨w.heap.size, 0, none⟩) 32 32) rfl (by kernel_rfl) (by kernel_rfl) (by kernel_rfl) (fun _ _ _ h => h) (Or.inl ⟨by rfl, fun W hW => ?y2⟩) hHeld ?r2
      · go_simp
      refine wpAnyH_ready (rs := [0]) (by kernel_rfl) (by simp) ?_
      refine AllReadyH.cons rfl (fun K hK => ?_) AllReadyH.nil
      go_simp
      refine hK.out _ _ ((T.alloc _).drew) (fun hHeld => ?_)
      clear hK
      have R1 : Row (wr.alloc (.cells #[.int .u8 2] 5)).drew wr.heap.size #[.int .u8 2] 5 := Row.new wr _ _
      have Tw : Turn no wr (wr.alloc (.cells #[.int .u8 2] 5)).drew := ((Turn.refl no wr).alloc _).drew
      generalize (wr.alloc (.cells #[.int .u8 2] 5)).drew = w1 at *
      generalize wr.heap.size = q1 at *
      refine wpAnyH_ready (rs := [3]) (by kernel_rfl) (by simp) ?_
      refine AllReadyH.cons rfl (fun K hK => ?_) AllReadyH.nil
      go_simp
      refine hK.out _ _ (hHeld.alloc _) (fun hHeld' => ?_)
      clear hK
      refine wpAnyH_ready (rs := [4]) (by kernel_rfl) (by simp) ?_
      refine AllReadyH.cons rfl (fun K hK => ?_) AllReadyH.nil
      go_simp
      have B1 : Bs w1 (.slice (some ⟨q1, 0, none⟩) 1 1) [2] := row_bs (X := [2]) R1 (by simp [maxLen])
      refine (hcall q1 _ (hHeld.alloc _) w1.heap.size 48 (Row.new w1 _ 48) (fun x hx => by
        simp at hx
        rcases hx with rfl | rfl | rfl
        · exact B1.turn_no ((Turn.refl no w1).alloc _)
        · exact (BN.turn_no Tw).turn_no ((Turn.refl no w1).alloc _)
        · exact (BA.turn_no Tw).turn_no ((Turn.refl no w1).alloc _))).mono ?_
      rintro e w5 ⟨rfl, t5⟩
      have T5 : Turn no wr w5 := (Tw.alloc _).then_no t5
      have RZ5 := RZ.turn T5 (fun q => q)
      have T5' := T.then_no T5
      clear hcall B1 BA BN t5
      go_wp2_with fail
      refine hK.out _ _ T5' (fun hHeld => ?_)
      clear hK
      refine wpAnyH_ready (rs := [5]) (by kernel_rfl) (by simp) ?_
      refine AllReadyH.cons rfl (fun K hK => ?_) AllReadyH.nil
      rw [if_pos (by rfl)]
      refine wp_store_row 29 _ _ rfl (w.heap.size + 1) H rfl rfl 29 z RZ5 hi (by omega) h1 ?_
      have hz' : (w5.setRow (w.heap.size + 1) H).heap[w.heap.size + 1]? = some (.cells H 29 (0, 0)) := setRow_heap _ _ _ _ _ _ RZ5
      have T6 : Turn no w (w5.setRow (w.heap.size + 1) H) := T5'.setRow _ _ (fun q => by omega)
      refine hK.out _ _ T6 (fun hHeld => ?_)
      clear hK
      refine wpAnyH_done (by kernel_rfl) ?_ _
      go_wp2_with fail
      refine bodyPost_ret (v := .agg H) ?_ rfl ⟨rfl, T6⟩
      exact results_cell_row (P := Tryz.prog) Tryz.results53 _ _ (w.heap.size + 1) 29 H (0, 0) _ rfl hz' Tryz.underlying29 rfl hi
end Go.Proofs.YtlacfenenbblaaaGreatDoor



/- The text under a root: the reference's RootText. -/
namespace Go.Proofs.YtlacfenenbblaaaGreatDoor
open Go.RowKit
set_option linter.unusedVariables false

/-- The text's beginning: the mark and the number's first k bytes. -/
def rootB (n k : Nat) : List UInt8 := 2 :: (List.range k).map (numAt n)
theorem rootB_len (n k : Nat) : (rootB n k).length = k + 1 := by simp [rootB]
theorem rootB_succ (n k : Nat) : rootB n (k + 1) = rootB n k ++ [numAt n k] := by simp [rootB, List.range_succ]
theorem rootB_all (n : Nat) (X : List UInt8) : 2 :: (numE n ++ X) = rootB n 8 ++ X := by simp [rootB, numE]

set_option maxRecDepth 100000 in
set_option maxHeartbeats 4000000 in
theorem rootText_any (w : World) (n : Nat) (hn : n ≤ 65536) (X : List UInt8) (hx : X.length = 32) :
    Calls Tryz.prog 16 #[.int .i64 n, .agg (X.map bv).toArray] w fun e w' => ∃ v, e = .returned v ∧ Own w' 5 v ((2 :: (numE n ++ X)).map bv) ∧ Turn no w w' := by
  have hAs : (X.map bv).toArray.size = 32 := by simpa using hx
  have hbA : ∀ W g e, Row W g (X.map bv).toArray e → Src Tryz.prog 1 48 (.slice (some ⟨g, 0, none⟩) 32 32) 32 (X.map bv) W := fun W g e h => by
    have := Bs.src (P := Tryz.prog) Tryz.underlying48 (row_bs h (by rw [hx]; simp [maxLen]))
    rwa [hx] at this
  have hXl : (X.map bv).length = 32 := by simpa using hx
  have hsA : ∀ W a, (Instr.sliceAt 29 (.pointer (some a)) none none none).run Tryz.prog W = .ok (.slice (some a) 32 32) W := fun W a => by
    rw [run_sliceAt_array_all (P := Tryz.prog) W 29 a (by kernel_rfl)]
    rw [show (sizeOf (Tryz.prog.elem 29)).run Tryz.prog W = .ok 1 W by kernel_rfl, show Tryz.prog.arrayLen 29 = 32 by kernel_rfl]
    simp [slicedAt, Addr.add_zero']
  have hjoin : (2 :: (numE n ++ X)).map bv = (rootB n 8).map bv ++ X.map bv := by rw [rootB_all, List.map_append]
  rw [hjoin]
  generalize (X.map bv).toArray = A at *
  generalize X.map bv = XL at *
  clear hjoin
  go_enter Tryz.func16, Tryz.ntmps16
  have RA := (Row.new w A 29).alloc (.cells #[bv 2] 5)
  have T0 : Turn no w ((w.alloc (.cells A 29)).alloc (.cells #[bv 2] 5)) := ((Turn.refl no w).alloc _).alloc _
  have O1 := own_one (w.alloc (.cells A 29)) 2
  have hq : (w.alloc (.cells A 29)).heap.size = w.heap.size + 1 := by simp
  rw [hq] at O1
  have O1' : Own ((w.alloc (.cells A 29)).alloc (.cells #[bv 2] 5)) 5 (.slice (some ⟨w.heap.size + 1, 0, none⟩) 1 1) ((rootB n 0).map bv) := by simpa [rootB] using O1
  clear O1 hq
  go_wp2_with fail
  go_loopw [5, 6] (fun v i wr => ∃ (k : Nat), k ≤ 8 ∧ i = .int .i64 (k : Int) ∧ Own wr 5 v ((rootB n k).map bv) ∧ (∀ g, v.ownBlock = some g → w.heap.size < g) ∧ Row wr w.heap.size A 29 ∧ Turn no w wr)
    (fun _ i _ => 8 - (intOf i).toNat)
  case atStart => exact ⟨0, by omega, rfl, O1', fun g q => by simp [Value.ownBlock] at q; omega, RA, T0⟩
  case round =>
    clear O1' RA T0
    obtain ⟨k, hk, rfl, O, f, RA, T⟩ := hrel
    have hl := rootB_len n k
    obtain ⟨a5, c5, hv5⟩ := O.bs.slice
    rw [hl] at hv5
    have hOl : ((rootB n k).map bv).length = k + 1 := by rw [List.length_map, hl]
    subst hv5
    by_cases hlt : k < 8
    · have hlt' : (k : Int) < 8 := by omega
      have hb8 : (0 : Int) ≤ 8 * (k : Int) := by omega
      have hl2 : (rootB n (k + 1)).length = k + 1 + 1 := rootB_len _ _
      clear hbA hl
      go_wp2_with (at_builtin; refine wpList_append_src rfl (.tmp 12) (.tmp 20) rfl Tryz.underlying48 Tryz.info5 rfl _ ((rootB n k).map bv) rfl (O.turn_no ((Turn.refl no wr).alloc _)) _ 1 (List.map bv [numAt n k]) rfl ?src ?b ?m ?_)
      case src => exact src_byte Tryz.underlying48 wr _ _ (byteOf_val _).symm
      case b => rw [hOl]; omega
      case m => rw [hOl]; simp only [maxLen]; omega
      intro v6 w6 O6 G6 _
      have O6' : Own w6 5 v6 ((rootB n (k + 1)).map bv) := by
        rw [rootB_succ, List.map_append]
        exact O6
      have f6 : ∀ g, v6.ownBlock = some g → w.heap.size < g := fun g q => by
        have := G6.fresh (B := w.heap.size + 1) (fun g q => by have := f g q; omega) (by have := RA.lt; simp; omega) g q
        omega
      have RA6 := (RA.alloc _).turn G6.turn (fun q => by have := f _ q; omega)
      have T6 : Turn no w w6 := (T.alloc _).fresh G6 (fun g q => by have := f g q; omega)
      obtain ⟨a6, c6, hv6⟩ := O6'.bs.slice
      rw [hl2] at hv6
      subst hv6
      clear O6 G6 O
      go_wp2_with fail
      go_roundw
      case rel => exact ⟨k + 1, by omega, by go_num, O6', f6, RA6, T6⟩
      case measure => simp [intOf]; omega
    · have hlt' : ¬ (k : Int) < 8 := by omega
      have hk8 : k = 8 := by omega
      subst hk8
      have S2 := hbA _ _ _ RA
      clear hbA
      go_wp2_with (at_builtin; refine wpList_append_src rfl (.tmp 22) (.tmp 23) rfl Tryz.underlying48 Tryz.info5 rfl _ ((rootB n 8).map bv) rfl O _ 32 XL rfl S2 ?b2 ?m2 ?_)
      case m2 => simp [maxLen]
      intro v3 w3 O3 G3 _
      have T3 : Turn no w w3 := T.fresh G3 (fun g q => by have := f g q; omega)
      obtain ⟨ad3, ln3, cp3, rfl⟩ := O3.form
      go_wp2_with fail
      go_ret
      exact ⟨_, rfl, O3, T3⟩
end Go.Proofs.YtlacfenenbblaaaGreatDoor



/- The top of no items, both. -/
namespace Go.Proofs.YtlacfenenbblaaaGreatDoor
open Go.RowKit
set_option linter.unusedVariables false

set_option maxRecDepth 100000 in
set_option maxHeartbeats 4000000 in
theorem rtop_none (w : World) (av : Option Addr) (cap : Nat) (hl : Laid0 w) (hsz : 2 ≤ w.heap.size) :
    Calls Tryz.prog 17 #[.slice av 0 cap] w fun e w' => e = .returned (.agg (hb32 (hashOf []))) ∧ Turn no w w' := by
  obtain ⟨z, hz, hzs⟩ : ∃ z : Array Value, z = #[.int .u8 0, .int .u8 0, .int .u8 0, .int .u8 0, .int .u8 0, .int .u8 0, .int .u8 0, .int .u8 0, .int .u8 0, .int .u8 0, .int .u8 0, .int .u8 0, .int .u8 0, .int .u8 0, .int .u8 0, .int .u8 0, .int .u8 0, .int .u8 0, .int .u8 0, .int .u8 0, .int .u8 0, .int .u8 0, .int .u8 0, .int .u8 0, .int .u8 0, .int .u8 0, .int .u8 0, .int .u8 0, .int .u8 0, .int .u8 0, .int .u8 0, .int .u8 0] ∧ z.size = 32 := ⟨_, rfl, rfl⟩
  have T0 : Turn no w (w.alloc (.cells z 29)) := (Turn.refl no w).alloc _
  have RZ := Row.new w z 29
  have hc := rsum_all (w.alloc (.cells z 29)) (.slice none 0 0) [] (Own.nil _ _ : Own (w.alloc (.cells z 29)) 5 (.slice none 0 0) (List.map bv [])).bs (hl.turn T0 (fun q => q)) (by have := T0.size; omega) (by simp)
  have hs := hv_size []
  have h1' := hv_one []
  have hi := hv_info []
  have hh : hb32 (hashOf []) = hv [] := rfl
  rw [hh]
  clear hh
  generalize hv [] = H at *
  rw [hz] at T0 RZ hc
  go_enter Tryz.func17, Tryz.ntmps17
  go_wp2_with fail
  refine hc.mono ?_
  rintro e w2 ⟨rfl, t2⟩
  have RZ2 := RZ.turn t2 (fun q => q)
  have T2 := T0.then_no t2
  go_wp2_with (refine wpList_store_row rfl 29 (.tmp 2) _ rfl w.heap.size H rfl rfl 29 _ RZ2 hi (by rw [hs]; rfl) h1' ?_)
  refine bodyPost_ret (v := .agg H) ?_ rfl ⟨rfl, T2.setRow _ _ (fun q => by omega)⟩
  exact results_cell_row (P := Tryz.prog) Tryz.results17 _ _ w.heap.size 29 H (0, 0) _ rfl (setRow_heap _ _ _ _ _ _ RZ2) Tryz.underlying29 rfl hi

set_option maxRecDepth 100000 in
set_option maxHeartbeats 4000000 in
theorem top_none (w : World) (av : Option Addr) (cap : Nat) (hl : Laid1 w) (hsz : 2 ≤ w.heap.size) :
    Calls Tryz.prog 54 #[.slice av 0 cap] w fun e w' => e = .returned (.agg (hb32 (hashOf []))) ∧ Turn no w w' := by
  obtain ⟨z, hz, hzs⟩ : ∃ z : Array Value, z = #[.int .u8 0, .int .u8 0, .int .u8 0, .int .u8 0, .int .u8 0, .int .u8 0, .int .u8 0, .int .u8 0, .int .u8 0, .int .u8 0, .int .u8 0, .int .u8 0, .int .u8 0, .int .u8 0, .int .u8 0, .int .u8 0, .int .u8 0, .int .u8 0, .int .u8 0, .int .u8 0, .int .u8 0, .int .u8 0, .int .u8 0, .int .u8 0, .int .u8 0, .int .u8 0, .int .u8 0, .int .u8 0, .int .u8 0, .int .u8 0, .int .u8 0, .int .u8 0] ∧ z.size = 32 := ⟨_, rfl, rfl⟩
  have T0 : Turn no w (w.alloc (.cells z 29)) := (Turn.refl no w).alloc _
  have RZ := Row.new w z 29
  have hc := sum19 (w.alloc (.cells z 29)) (.slice none 0 0) [] (Own.nil _ _ : Own (w.alloc (.cells z 29)) 5 (.slice none 0 0) (List.map bv [])).bs (hl.turn T0 (fun q => q)) (by have := T0.size; omega) (by simp)
  have hs := hv_size []
  have h1' := hv_one []
  have hi := hv_info []
  have hh : hb32 (hashOf []) = hv [] := rfl
  rw [hh]
  clear hh
  generalize hv [] = H at *
  rw [hz] at T0 RZ hc
  go_enter Tryz.func54, Tryz.ntmps54
  go_wp2_with fail
  refine hc.mono ?_
  rintro e w2 ⟨rfl, t2⟩
  have RZ2 := RZ.turn t2 (fun q => q)
  have T2 := T0.then_no t2
  go_wp2_with (refine wpList_store_row rfl 29 (.tmp 2) _ rfl w.heap.size H rfl rfl 29 _ RZ2 hi (by rw [hs]; rfl) h1' ?_)
  refine bodyPost_ret (v := .agg H) ?_ rfl ⟨rfl, T2.setRow _ _ (fun q => by omega)⟩
  exact results_cell_row (P := Tryz.prog) Tryz.results54 _ _ w.heap.size 29 H (0, 0) _ rfl (setRow_heap _ _ _ _ _ _ RZ2) Tryz.underlying29 rfl hi
end Go.Proofs.YtlacfenenbblaaaGreatDoor



/- Is there too much? large and tooBig. -/
namespace Go.Proofs.YtlacfenenbblaaaGreatDoor
open Go.RowKit
set_option linter.unusedVariables false

/-- More items, or a longer one, than there may be. -/
def bigOf (l : List (List UInt8)) : Bool := decide (65536 < l.length) || l.any (fun x => decide (1048576 < x.length))

set_option maxRecDepth 100000 in
set_option maxHeartbeats 4000000 in
theorem large_any (w : World) (l : List (Value × List UInt8)) (n b o cap : Nat) (hln : l.length = n) (hP : Pcs w b o l) (hcap : n ≤ cap) (hn : n < 4611686018427387904) :
    Calls Tryz.prog 33 #[.slice (some ⟨b, o, none⟩) n cap] w fun e w' => e = .returned (.bool (bigOf (l.map (·.2)))) ∧ w' = w := by
  have hb1 : 65536 < n → bigOf (l.map (·.2)) = true := fun h => by simp [bigOf, hln, h]
  have hb2 : ∀ x ∈ l, 1048576 < x.2.length → bigOf (l.map (·.2)) = true := fun x hx h => by
    have : (l.map (·.2)).any (fun x => decide (1048576 < x.length)) = true := List.any_eq_true.mpr ⟨x.2, List.mem_map.mpr ⟨x, hx, rfl⟩, by simpa using h⟩
    rw [bigOf, this, Bool.or_true]
  have hb3 : n ≤ 65536 → (∀ x ∈ l, x.2.length ≤ 1048576) → bigOf (l.map (·.2)) = false := fun h h' => by
    have : (l.map (·.2)).any (fun x => decide (1048576 < x.length)) = false := by
      rw [List.any_eq_false]
      intro x hx
      obtain ⟨y, hy, rfl⟩ := List.mem_map.mp hx
      have := h' y hy
      simp; omega
    rw [bigOf, this, Bool.or_false, List.length_map, hln]
    simp; omega
  generalize bigOf (l.map (·.2)) = R at *
  by_cases hbig : 65536 < n
  · have hbig' : (65536 : Int) < (n : Int) := by omega
    have hR := hb1 hbig
    subst hR
    clear hb1 hb2 hb3
    go_enter Tryz.func33, Tryz.ntmps33
    go_wp2_with fail
    go_ret
    exact ⟨rfl, rfl⟩
  · have hbig' : ¬ (65536 : Int) < (n : Int) := by omega
    go_enter Tryz.func33, Tryz.ntmps33
    go_wp2_with fail
    go_loopw [3] (fun c wr => ∃ (k : Nat), k ≤ n ∧ c = .int .i64 (k : Int) ∧ wr = w ∧ ∀ j x, j < k → l[j]? = some x → x.2.length ≤ 1048576) (fun c _ => n - (intOf c).toNat)
    case atStart => exact ⟨0, by omega, rfl, rfl, fun j x h => by omega⟩
    case round =>
      obtain ⟨k, hk, rfl, rfl, hsm⟩ := hrel
      by_cases hlt : k < n
      · have hlt' : (k : Int) < (n : Int) := by omega
        obtain ⟨x, hx⟩ : ∃ x, l[k]? = some x := ⟨l[k]'(by omega), by simp⟩
        obtain ⟨ck, bk⟩ := hP k x hx
        obtain ⟨ax, cx, hxs⟩ := bk.slice
        rw [hxs] at ck
        by_cases hlo : 1048576 < x.2.length
        · have hR := hb2 x (List.mem_of_getElem? hx) hlo
          subst hR
          have hlo' : (1048576 : Int) < (x.2.length : Int) := by omega
          clear hb1 hb2 hb3 hsm hxs bk
          generalize x.2.length = m at *
          go_wp2_with fail
          go_ret
          exact ⟨rfl, rfl⟩
        · have hlo' : ¬ (1048576 : Int) < (x.2.length : Int) := by omega
          have hsm' : ∀ j y, j < k + 1 → l[j]? = some y → y.2.length ≤ 1048576 := fun j y hj hy => by
            by_cases hjk : j = k
            · subst hjk
              rw [hx] at hy
              injection hy with hy
              subst hy
              omega
            · exact hsm j y (by omega) hy
          clear hb1 hb2 hb3 hsm hxs bk
          generalize hm : x.2.length = m at *
          clear hm
          go_wp2_with fail
          go_roundw
          case rel => exact ⟨k + 1, by omega, by go_num, trivial, hsm'⟩
          case measure => simp [intOf]; omega
      · have hlt' : ¬ (k : Int) < (n : Int) := by omega
        have hR := hb3 (by omega) (fun x hx => by
          obtain ⟨j, hj⟩ := List.getElem?_of_mem hx
          have hjl : j < l.length := (List.getElem?_eq_some_iff.mp hj).1
          exact hsm j x (by omega) hj)
        subst hR
        clear hb1 hb2 hb3 hsm
        go_wp2_with fail
        go_ret
        exact ⟨rfl, rfl⟩
end Go.Proofs.YtlacfenenbblaaaGreatDoor



/- Is there too much? tooBig. -/
namespace Go.Proofs.YtlacfenenbblaaaGreatDoor
open Go.RowKit
set_option linter.unusedVariables false


set_option maxRecDepth 100000 in
set_option maxHeartbeats 4000000 in
theorem tooBig_any (w : World) (l : List (Value × List UInt8)) (n b o cap : Nat) (hln : l.length = n) (hP : Pcs w b o l) (hcap : n ≤ cap) (hn : n < 4611686018427387904) :
    Calls Tryz.prog 52 #[.slice (some ⟨b, o, none⟩) n cap] w fun e w' => e = .returned (.bool (bigOf (l.map (·.2)))) ∧ w' = w := by
  have hb1 : 65536 < n → bigOf (l.map (·.2)) = true := fun h => by simp [bigOf, hln, h]
  have hb2 : ∀ x ∈ l, 1048576 < x.2.length → bigOf (l.map (·.2)) = true := fun x hx h => by
    have : (l.map (·.2)).any (fun x => decide (1048576 < x.length)) = true := List.any_eq_true.mpr ⟨x.2, List.mem_map.mpr ⟨x, hx, rfl⟩, by simpa using h⟩
    rw [bigOf, this, Bool.or_true]
  have hb3 : n ≤ 65536 → (∀ x ∈ l, x.2.length ≤ 1048576) → bigOf (l.map (·.2)) = false := fun h h' => by
    have : (l.map (·.2)).any (fun x => decide (1048576 < x.length)) = false := by
      rw [List.any_eq_false]
      intro x hx
      obtain ⟨y, hy, rfl⟩ := List.mem_map.mp hx
      have := h' y hy
      simp; omega
    rw [bigOf, this, Bool.or_false, List.length_map, hln]
    simp; omega
  generalize bigOf (l.map (·.2)) = R at *
  by_cases hbig : 65536 < n
  · have hbig' : (65536 : Int) < (n : Int) := by omega
    have hR := hb1 hbig
    subst hR
    clear hb1 hb2 hb3
    go_enter Tryz.func52, Tryz.ntmps52
    go_wp2_with fail
    go_ret
    exact ⟨rfl, rfl⟩
  · have hbig' : ¬ (65536 : Int) < (n : Int) := by omega
    go_enter Tryz.func52, Tryz.ntmps52
    go_wp2_with fail
    go_loopw [10] (fun c wr => ∃ (k : Nat), k ≤ n ∧ c = .int .i64 (k : Int) ∧ wr = w ∧ ∀ j x, j < k → l[j]? = some x → x.2.length ≤ 1048576) (fun c _ => n - (intOf c).toNat)
    case atStart => exact ⟨0, by omega, rfl, rfl, fun j x h => by omega⟩
    case round =>
      obtain ⟨k, hk, rfl, rfl, hsm⟩ := hrel
      by_cases hlt : k < n
      · have hlt' : (k : Int) < (n : Int) := by omega
        obtain ⟨x, hx⟩ : ∃ x, l[k]? = some x := ⟨l[k]'(by omega), by simp⟩
        obtain ⟨ck, bk⟩ := hP k x hx
        obtain ⟨ax, cx, hxs⟩ := bk.slice
        rw [hxs] at ck
        by_cases hlo : 1048576 < x.2.length
        · have hR := hb2 x (List.mem_of_getElem? hx) hlo
          subst hR
          have hlo' : (1048576 : Int) < (x.2.length : Int) := by omega
          clear hb1 hb2 hb3 hsm hxs bk
          generalize x.2.length = m at *
          go_wp2_with fail
          go_ret
          exact ⟨rfl, rfl⟩
        · have hlo' : ¬ (1048576 : Int) < (x.2.length : Int) := by omega
          have hsm' : ∀ j y, j < k + 1 → l[j]? = some y → y.2.length ≤ 1048576 := fun j y hj hy => by
            by_cases hjk : j = k
            · subst hjk
              rw [hx] at hy
              injection hy with hy
              subst hy
              omega
            · exact hsm j y (by omega) hy
          clear hb1 hb2 hb3 hsm hxs bk
          generalize hm : x.2.length = m at *
          clear hm
          go_wp2_with fail
          go_roundw
          case rel => exact ⟨k + 1, by omega, by go_num, trivial, hsm'⟩
          case measure => simp [intOf]; omega
      · have hlt' : ¬ (k : Int) < (n : Int) := by omega
        have hR := hb3 (by omega) (fun x hx => by
          obtain ⟨j, hj⟩ := List.getElem?_of_mem hx
          have hjl : j < l.length := (List.getElem?_eq_some_iff.mp hj).1
          exact hsm j x (by omega) hj)
        subst hR
        clear hb1 hb2 hb3 hsm
        go_wp2_with fail
        go_ret
        exact ⟨rfl, rfl⟩
set_option maxRecDepth 100000 in
set_option maxHeartbeats 4000000 in
theorem large_none (w : World) (av : Option Addr) (cap : Nat) :
    Calls Tryz.prog 33 #[.slice av 0 cap] w fun e w' => e = .returned (.bool false) ∧ w' = w := by
  go_enter Tryz.func33, Tryz.ntmps33
  go_wp2_with fail
  go_loopw [3] (fun c wr => c = .int .i64 0 ∧ wr = w) (fun _ _ => 0)
  case atStart => exact ⟨rfl, rfl⟩
  case round =>
    obtain ⟨rfl, rfl⟩ := hrel
    go_wp2_with fail
    go_ret
    exact ⟨rfl, rfl⟩

set_option maxRecDepth 100000 in
set_option maxHeartbeats 4000000 in
theorem tooBig_none (w : World) (av : Option Addr) (cap : Nat) :
    Calls Tryz.prog 52 #[.slice av 0 cap] w fun e w' => e = .returned (.bool false) ∧ w' = w := by
  go_enter Tryz.func52, Tryz.ntmps52
  go_wp2_with fail
  go_loopw [10] (fun c wr => c = .int .i64 0 ∧ wr = w) (fun _ _ => 0)
  case atStart => exact ⟨rfl, rfl⟩
  case round =>
    obtain ⟨rfl, rfl⟩ := hrel
    go_wp2_with fail
    go_ret
    exact ⟨rfl, rfl⟩
end Go.Proofs.YtlacfenenbblaaaGreatDoor



/- Does a proof fit? fits and Fits. -/
namespace Go.Proofs.YtlacfenenbblaaaGreatDoor
open Go.RowKit
set_option linter.unusedVariables false

theorem int_beq_nat (a b : Nat) : ((a : Int) == (b : Int)) = decide (a = b) := by
  rw [Bool.eq_iff_iff]
  simp [Int.ofNat_inj]

/-- A place in a list, and as many digests as its way is long. -/
def fitsB (t i : Int) (n : Nat) : Bool := decide (1 ≤ t ∧ t ≤ 65536 ∧ 0 ≤ i ∧ i < t ∧ n = stepsN t.toNat i.toNat)
theorem fitsB_no {t i : Int} {n : Nat} (h : ¬ (1 ≤ t ∧ t ≤ 65536 ∧ 0 ≤ i ∧ i < t)) : fitsB t i n = false := by
  unfold fitsB
  exact decide_eq_false (fun q => h ⟨q.1, q.2.1, q.2.2.1, q.2.2.2.1⟩)
theorem fitsB_in (t i n : Nat) (h1 : 1 ≤ t) (h2 : t ≤ 65536) (h3 : i < t) : fitsB t i n = decide (n = stepsN t i) := by
  unfold fitsB
  apply decide_eq_decide.mpr
  simp only [Int.toNat_natCast]
  constructor
  · exact fun q => q.2.2.2.2
  · exact fun q => ⟨by omega, by omega, by omega, by omega, q⟩

set_option maxRecDepth 100000 in
set_option maxHeartbeats 4000000 in
theorem fits_any (w : World) (t i : Int) (av : Option Addr) (n cap : Nat) :
    Calls Tryz.prog 107 #[.agg #[.int .i64 t, .int .i64 i, .slice av n cap]] w fun e w' => e = .returned (.bool (fitsB t i n)) ∧ Turn no w w' := by
  by_cases h1 : t < 1
  · rw [fitsB_no (by omega)]
    go_enter Tryz.func107, Tryz.ntmps107
    go_wp2_with fail
    go_ret
    exact ⟨rfl, (Turn.refl no w).alloc _⟩
  by_cases h2 : 65536 < t
  · rw [fitsB_no (by omega)]
    go_enter Tryz.func107, Tryz.ntmps107
    go_wp2_with fail
    go_ret
    exact ⟨rfl, (Turn.refl no w).alloc _⟩
  by_cases h3 : i < 0
  · rw [fitsB_no (by omega)]
    go_enter Tryz.func107, Tryz.ntmps107
    go_wp2_with fail
    go_ret
    exact ⟨rfl, (Turn.refl no w).alloc _⟩
  by_cases h4 : t ≤ i
  · rw [fitsB_no (by omega)]
    go_enter Tryz.func107, Tryz.ntmps107
    go_wp2_with fail
    go_ret
    exact ⟨rfl, (Turn.refl no w).alloc _⟩
  obtain ⟨t', rfl⟩ := Int.eq_ofNat_of_zero_le (show 0 ≤ t by omega)
  obtain ⟨i', rfl⟩ := Int.eq_ofNat_of_zero_le (show 0 ≤ i by omega)
  rw [fitsB_in t' i' n (by omega) (by omega) (by omega)]
  have hc := fun W => steps_any t' i' W (by omega) (by omega) (by omega)
  generalize stepsN t' i' = s at *
  go_enter Tryz.func107, Tryz.ntmps107
  have c0 : (w.alloc (.cells #[.int .i64 (t' : Int), .int .i64 (i' : Int), .slice av n cap] 47)).cell? ⟨w.heap.size, 0, none⟩ = some (.int .i64 (t' : Int)) := (Row.new w _ 47).cell 0 _ rfl
  have c1 : (w.alloc (.cells #[.int .i64 (t' : Int), .int .i64 (i' : Int), .slice av n cap] 47)).cell? ⟨w.heap.size, 1, none⟩ = some (.int .i64 (i' : Int)) := (Row.new w _ 47).cell 1 _ rfl
  have c2 : (w.alloc (.cells #[.int .i64 (t' : Int), .int .i64 (i' : Int), .slice av n cap] 47)).cell? ⟨w.heap.size, 2, none⟩ = some (.slice av n cap) := (Row.new w _ 47).cell 2 _ rfl
  have T1 : Turn no w (w.alloc (.cells #[.int .i64 (t' : Int), .int .i64 (i' : Int), .slice av n cap] 47)) := (Turn.refl no w).alloc _
  go_wp2_with fail
  generalize (w.alloc (.cells #[.int .i64 (t' : Int), .int .i64 (i' : Int), .slice av n cap] 47)) = w1 at *
  generalize w.heap.size = g at *
  go_region_held3 (fun w' => w'.cell? ⟨g, 0, none⟩ = some (.int .i64 (t' : Int)) ∧ w'.cell? ⟨g, 1, none⟩ = some (.int .i64 (i' : Int)) ∧ w'.cell? ⟨g, 2, none⟩ = some (.slice av n cap)) (go_keep)
    (first | (go_at_call 116; refine (hc _).mono ?_; rintro e w' ⟨rfl, rfl⟩))
  go_wp2_with fail
  go_ret
  exact ⟨by rw [int_beq_nat]; rfl, T1.drew⟩

end Go.Proofs.YtlacfenenbblaaaGreatDoor



/- Length and Fits of the document. -/
namespace Go.Proofs.YtlacfenenbblaaaGreatDoor
open Go.RowKit
set_option linter.unusedVariables false

set_option maxRecDepth 100000 in
set_option maxHeartbeats 4000000 in
theorem length_any (n : Nat) : ∀ (at' : Nat) (w : World), 1 ≤ n → n ≤ 65536 → at' < n → Calls Tryz.prog 66 #[.int .i64 n, .int .i64 at'] w fun e w' => e = .returned (.int .i64 (stepsN n at')) ∧ w' = w := by
  induction n using Nat.strongRecOn with
  | _ n ih =>
    intro at' w h1 h2 h3
    by_cases h : n = 1
    · subst h
      rw [stepsN_one]
      go_enter Tryz.func66, Tryz.ntmps66
      go_wp2_with fail
      go_ret
      exact ⟨rfl, rfl⟩
    · have hs := fun W => rsplit_any W n (by omega) h2
      have hsl := splitN_lt n (by omega)
      have hsp := splitN_pos n
      have hn1 : ¬ (n : Int) ≤ 1 := by omega
      by_cases ha : at' < splitN n
      · have hr := fun W => ih (splitN n) hsl at' W hsp (by omega) ha
        have hb := stepsN_le (splitN n) at'
        rw [stepsN_left n at' (by omega) ha]
        generalize stepsN (splitN n) at' = r at *
        generalize splitN n = k at *
        have ha' : (at' : Int) < (k : Int) := by omega
        clear ih
        go_enter Tryz.func66, Tryz.ntmps66
        go_wp2_with fail
        refine (hs _).mono ?_
        rintro e w1 ⟨rfl, rfl⟩
        go_wp2_with fail
        refine (hr _).mono ?_
        rintro e w1 ⟨rfl, rfl⟩
        go_wp2_with fail
        go_ret
        exact ⟨congrArg Ending.returned (congrArg (Value.int .i64) (by omega)), rfl⟩
      · have hr := fun W => ih (n - splitN n) (by omega) (at' - splitN n) W (by omega) (by omega) (by omega)
        have hb := stepsN_le (n - splitN n) (at' - splitN n)
        rw [stepsN_right n at' (by omega) ha]
        obtain ⟨m, hm⟩ : ∃ m, m = n - splitN n := ⟨_, rfl⟩
        obtain ⟨a2, ha2⟩ : ∃ a, a = at' - splitN n := ⟨_, rfl⟩
        rw [← hm, ← ha2] at hr hb ⊢
        have hmi : (n : Int) - (splitN n : Int) = (m : Int) := by omega
        have hai : (at' : Int) - (splitN n : Int) = (a2 : Int) := by omega
        generalize stepsN m a2 = r at *
        generalize splitN n = k at *
        have ha' : ¬ (at' : Int) < (k : Int) := by omega
        clear ih hm ha2
        go_enter Tryz.func66, Tryz.ntmps66
        go_wp2_with fail
        refine (hs _).mono ?_
        rintro e w1 ⟨rfl, rfl⟩
        go_wp2_with fail
        refine (hr _).mono ?_
        rintro e w1 ⟨rfl, rfl⟩
        go_wp2_with fail
        go_ret
        exact ⟨congrArg Ending.returned (congrArg (Value.int .i64) (by omega)), rfl⟩

set_option maxRecDepth 100000 in
set_option maxHeartbeats 4000000 in
theorem rfits_any (w : World) (t i : Int) (av : Option Addr) (n cap : Nat) :
    Calls Tryz.prog 34 #[.agg #[.int .i64 t, .int .i64 i, .slice av n cap]] w fun e w' => e = .returned (.bool (fitsB t i n)) ∧ Turn no w w' := by
  by_cases h1 : t < 1
  · rw [fitsB_no (by omega)]
    go_enter Tryz.func34, Tryz.ntmps34
    go_wp2_with fail
    go_ret
    exact ⟨rfl, (Turn.refl no w).alloc _⟩
  by_cases h2 : 65536 < t
  · rw [fitsB_no (by omega)]
    go_enter Tryz.func34, Tryz.ntmps34
    go_wp2_with fail
    go_ret
    exact ⟨rfl, (Turn.refl no w).alloc _⟩
  by_cases h3 : i < 0
  · rw [fitsB_no (by omega)]
    go_enter Tryz.func34, Tryz.ntmps34
    go_wp2_with fail
    go_ret
    exact ⟨rfl, (Turn.refl no w).alloc _⟩
  by_cases h4 : t ≤ i
  · rw [fitsB_no (by omega)]
    go_enter Tryz.func34, Tryz.ntmps34
    go_wp2_with fail
    go_ret
    exact ⟨rfl, (Turn.refl no w).alloc _⟩
  obtain ⟨t', rfl⟩ := Int.eq_ofNat_of_zero_le (show 0 ≤ t by omega)
  obtain ⟨i', rfl⟩ := Int.eq_ofNat_of_zero_le (show 0 ≤ i by omega)
  rw [fitsB_in t' i' n (by omega) (by omega) (by omega)]
  have hc := fun W => length_any t' i' W (by omega) (by omega) (by omega)
  generalize stepsN t' i' = s at *
  go_enter Tryz.func34, Tryz.ntmps34
  have c0 : (w.alloc (.cells #[.int .i64 (t' : Int), .int .i64 (i' : Int), .slice av n cap] 47)).cell? ⟨w.heap.size, 0, none⟩ = some (.int .i64 (t' : Int)) := (Row.new w _ 47).cell 0 _ rfl
  have c1 : (w.alloc (.cells #[.int .i64 (t' : Int), .int .i64 (i' : Int), .slice av n cap] 47)).cell? ⟨w.heap.size, 1, none⟩ = some (.int .i64 (i' : Int)) := (Row.new w _ 47).cell 1 _ rfl
  have c2 : (w.alloc (.cells #[.int .i64 (t' : Int), .int .i64 (i' : Int), .slice av n cap] 47)).cell? ⟨w.heap.size, 2, none⟩ = some (.slice av n cap) := (Row.new w _ 47).cell 2 _ rfl
  have T1 : Turn no w (w.alloc (.cells #[.int .i64 (t' : Int), .int .i64 (i' : Int), .slice av n cap] 47)) := (Turn.refl no w).alloc _
  go_wp2_with fail
  generalize (w.alloc (.cells #[.int .i64 (t' : Int), .int .i64 (i' : Int), .slice av n cap] 47)) = w1 at *
  generalize w.heap.size = g at *
  go_region_held3 (fun w' => w'.cell? ⟨g, 0, none⟩ = some (.int .i64 (t' : Int)) ∧ w'.cell? ⟨g, 1, none⟩ = some (.int .i64 (i' : Int)) ∧ w'.cell? ⟨g, 2, none⟩ = some (.slice av n cap)) (go_keep)
    (first | (go_at_call 66; refine (hc _).mono ?_; rintro e w' ⟨rfl, rfl⟩))
  go_wp2_with fail
  go_ret
  exact ⟨by rw [int_beq_nat]; rfl, T1.drew⟩
end Go.Proofs.YtlacfenenbblaaaGreatDoor
