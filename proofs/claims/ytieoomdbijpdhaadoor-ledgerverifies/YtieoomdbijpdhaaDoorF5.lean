/- The text under a root: rootOf, RootText. -/
import Derived.Test.YtieoomdbijpdhaaDoorF4
namespace Go.Proofs.YtieoomdbijpdhaaDoor
open Go.RowKit
set_option linter.unusedVariables false

/-- The number's eight bytes, the lowest first. -/
def numAt (n k : Nat) : UInt8 := byteOf ((n : Int) / 2 ^ (8 * k))
def numE (n : Nat) : List UInt8 := (List.range 8).map (numAt n)
theorem numE_len (n : Nat) : (numE n).length = 8 := by simp [numE]

set_option maxRecDepth 100000 in
set_option maxHeartbeats 4000000 in
theorem rootOf_any (w : World) (n : Nat) (hn : n ≤ 65536) (X : List UInt8) (hx : X.length = 32) (hl : Laid1 w) (h2 : 2 ≤ w.heap.size) :
    Calls Tryd.prog 50 #[.int .i64 n, .agg (hb32 X)] w fun e w' => e = .returned (.agg (hv (2 :: (numE n ++ X)))) ∧ Turn no w w' := by
  have hcall := fun g => sumOf_list w [(.slice (some ⟨g, 0, none⟩) 1 1, [2]), (.slice (some ⟨w.heap.size + 1 + 1, 0, none⟩) 8 8, numE n), (.slice (some ⟨w.heap.size, 0, none⟩) 32 32, X)] (by simp) (by simp) hl h2 (by simp [joined, hx, numE_len])
  have hj : ∀ g, joined [(Value.slice (some ⟨g, 0, none⟩) 1 1, [2]), (.slice (some ⟨w.heap.size + 1 + 1, 0, none⟩) 8 8, numE n), (.slice (some ⟨w.heap.size, 0, none⟩) 32 32, X)] = 2 :: (numE n ++ X) := fun g => by simp [joined]
  simp only [hj] at hcall
  have h1 := hv_one (2 :: (numE n ++ X))
  have hs := hv_size (2 :: (numE n ++ X))
  have hi := hv_info (2 :: (numE n ++ X))
  generalize hv (2 :: (numE n ++ X)) = H at *
  have hAs : (hb32 X).size = 32 := by simpa [hb32] using hx
  have hbA : ∀ W g e, Row W g (hb32 X) e → Bs W (.slice (some ⟨g, 0, none⟩) 32 32) X := fun W g e h => by have := row_bs h (by rw [hx]; simp [maxLen]); rwa [hx] at this
  have hbN : ∀ W g e (ar : Array Value), ar.size = 8 → (∀ j, j < 8 → ar[j]? = some (bv (numAt n j))) → Row W g ar e → Bs W (.slice (some ⟨g, 0, none⟩) 8 8) (numE n) := fun W g e ar ha hj h => by
    have ear : ar = ((numE n).map bv).toArray := by
      apply Array.ext_getElem?
      intro j
      by_cases hj8 : j < 8
      · rw [hj j hj8]; simp [numE, hj8]
      · rw [Array.getElem?_eq_none (by omega), Array.getElem?_eq_none (by simp [numE]; omega)]
    rw [ear] at h
    have := row_bs h (by rw [numE_len]; simp [maxLen])
    rwa [numE_len] at this
  generalize hb32 X = A at *
  clear hj
  go_enter Tryd.func50, Tryd.ntmps50
  go_wp2_with fail
  go_loopw [7] (fun c wr => ∃ (k : Nat) (ar : Array Value), k ≤ 8 ∧ c = .int .i64 k ∧ Row wr (w.heap.size + 1 + 1) ar 124 ∧ ar.size = 8 ∧ (∀ j, j < k → ar[j]? = some (bv (numAt n j))) ∧ Row wr w.heap.size A 23 ∧ (∃ z, Row wr (w.heap.size + 1) z 23 ∧ z.size = 32) ∧ Turn no w wr) (fun c _ => 8 - (intOf c).toNat)
  case atStart => exact ⟨0, _, Nat.zero_le _, rfl, Row.newAt _ _ _ _ (by simp), rfl, fun j q => by omega, ((Row.new w _ _).alloc _).alloc _, ⟨_, Row.alloc (Row.newAt _ _ _ _ (by simp)) _, rfl⟩, (((Turn.refl no w).alloc _).alloc _).alloc _⟩
  case round =>
    obtain ⟨k, ar, hk, rfl, Rn, has, han, RA, ⟨z, RZ, hzs⟩, T⟩ := hrel
    by_cases hlt : k < 8
    · have hlt' : (k : Int) < 8 := by omega
      have cn := Rn.cell k (ar[k]'(by omega)) (by simp [has, hlt])
      have fn := Rn.frozen k
      have hb8 : (0 : Int) ≤ 8 * (k : Int) := by omega
      have hnum : bv (numAt n k) = .int .u8 ((n : Int) / 2 ^ (8 * k) % 256) := bv_byteOf _
      clear hcall hbA hbN
      go_wp2_with fail
      go_roundw
      case rel =>
        refine ⟨k + 1, _, by omega, by go_num, Rn.set k _, by simpa using has, fun j hj => ?_, RA.other (by show w.heap.size + 1 + 1 ≠ w.heap.size; omega) _, ⟨z, RZ.other (by show w.heap.size + 1 + 1 ≠ w.heap.size + 1; omega) _, hzs⟩, T.setCell (fun q => by have q' : w.heap.size + 1 + 1 < w.heap.size := q; omega) _⟩
        by_cases hjk : j = k
        · subst hjk
          rw [Array.getElem?_setIfInBounds_self_of_lt (by omega), hnum]
        · rw [Array.getElem?_setIfInBounds_ne (by omega)]
          exact han j (by omega)
      case measure => simp [intOf]; omega
    · have hlt' : ¬ (k : Int) < 8 := by omega
      have hk8 : k = 8 := by omega
      subst hk8
      have BN := hbN _ _ _ ar has han Rn
      have BA := hbA _ _ _ RA
      clear han hbA hbN
      have hsA : ∀ W a, (Instr.sliceAt 23 (.pointer (some a)) none none none).run Tryd.prog W = .ok (.slice (some a) 32 32) W := fun W a => by
        rw [run_sliceAt_array_all (P := Tryd.prog) W 23 a (by kernel_rfl)]
        rw [show (sizeOf (Tryd.prog.elem 23)).run Tryd.prog W = .ok 1 W by kernel_rfl, show Tryd.prog.arrayLen 23 = 32 by kernel_rfl]
        simp [slicedAt, Addr.add_zero']
      have hsN : ∀ W a, (Instr.sliceAt 124 (.pointer (some a)) none none none).run Tryd.prog W = .ok (.slice (some a) 8 8) W := fun W a => by
        rw [run_sliceAt_array_all (P := Tryd.prog) W 124 a (by kernel_rfl)]
        rw [show (sizeOf (Tryd.prog.elem 124)).run Tryd.prog W = .ok 1 W by kernel_rfl, show Tryd.prog.arrayLen 124 = 8 by kernel_rfl]
        simp [slicedAt, Addr.add_zero']
      go_wp2_with fail
      refine wp_region_held_drew (S := fun w' => Turn no w w') (by kernel_rfl) (T.drew) (fun hHeld => ?_)
      refine' wpAnyH_take (i := 1) (v := .slice (some ⟨w.heap.size + 1 + 1, 0, none⟩) 8 8) rfl (by kernel_rfl) (by kernel_rfl) (by kernel_rfl) (fun _ _ _ h => h) (Or.inl ⟨by rfl, fun W hW => ?y1⟩) hHeld ?r1
      · go_simp
      refine' wpAnyH_take (i := 2) (v := .slice (some ⟨w.heap.size, 0, none⟩) 32 32) rfl (by kernel_rfl) (by kernel_rfl) (by kernel_rfl) (fun _ _ _ h => h) (Or.inl ⟨by rfl, fun W hW => ?y2⟩) hHeld ?r2
      · go_simp
      refine wpAnyH_ready (rs := [0]) (by kernel_rfl) (by simp) ?_
      refine AllReadyH.cons rfl (fun K hK => ?_) AllReadyH.nil
      go_simp
      refine hK.out _ _ ((T.alloc _).drew) (fun hHeld => ?_)
      clear hK
      have R1 : Row (wr.alloc (.cells #[.int .u8 2] 5)).drew wr.heap.size #[.int .u8 2] 5 := Row.new wr _ _
      have Tw : Turn no wr (wr.alloc (.cells #[.int .u8 2] 5)).drew := ((Turn.refl no wr).alloc _).drew
      generalize (wr.alloc (.cells #[.int .u8 2] 5)).drew = w1 at *
      generalize wr.heap.size = q1 at *
      refine wpAnyH_ready (rs := [3]) (by kernel_rfl) (by simp) ?_
      refine AllReadyH.cons rfl (fun K hK => ?_) AllReadyH.nil
      go_simp
      refine hK.out _ _ (hHeld.alloc _) (fun hHeld' => ?_)
      clear hK
      refine wpAnyH_ready (rs := [4]) (by kernel_rfl) (by simp) ?_
      refine AllReadyH.cons rfl (fun K hK => ?_) AllReadyH.nil
      go_simp
      have B1 : Bs w1 (.slice (some ⟨q1, 0, none⟩) 1 1) [2] := row_bs (X := [2]) R1 (by simp [maxLen])
      refine (hcall q1 _ (hHeld.alloc _) w1.heap.size 60 (Row.new w1 _ 60) (fun x hx => by
        simp at hx
        rcases hx with rfl | rfl | rfl
        · exact B1.turn_no ((Turn.refl no w1).alloc _)
        · exact (BN.turn_no Tw).turn_no ((Turn.refl no w1).alloc _)
        · exact (BA.turn_no Tw).turn_no ((Turn.refl no w1).alloc _))).mono ?_
      rintro e w5 ⟨rfl, t5⟩
      have T5 : Turn no wr w5 := (Tw.alloc _).then_no t5
      have RZ5 := RZ.turn T5 (fun q => q)
      have T5' := T.then_no T5
      clear hcall B1 BA BN t5
      go_wp2_with fail
      refine hK.out _ _ T5' (fun hHeld => ?_)
      clear hK
      refine wpAnyH_ready (rs := [5]) (by kernel_rfl) (by simp) ?_
      refine AllReadyH.cons rfl (fun K hK => ?_) AllReadyH.nil
      rw [if_pos (by rfl)]
      refine wp_store_row 23 _ _ rfl (w.heap.size + 1) H rfl rfl 23 z RZ5 hi (by omega) h1 ?_
      have hz' : (w5.setRow (w.heap.size + 1) H).heap[w.heap.size + 1]? = some (.cells H 23 (0, 0)) := setRow_heap _ _ _ _ _ _ RZ5
      have T6 : Turn no w (w5.setRow (w.heap.size + 1) H) := T5'.setRow _ _ (fun q => by omega)
      refine hK.out _ _ T6 (fun hHeld => ?_)
      clear hK
      refine wpAnyH_done (by kernel_rfl) ?_ _
      go_wp2_with fail
      refine bodyPost_ret (v := .agg H) ?_ rfl ⟨rfl, T6⟩
      exact results_cell_row (P := Tryd.prog) Tryd.results50 _ _ (w.heap.size + 1) 23 H (0, 0) _ rfl hz' Tryd.underlying23 rfl hi
end Go.Proofs.YtieoomdbijpdhaaDoor

