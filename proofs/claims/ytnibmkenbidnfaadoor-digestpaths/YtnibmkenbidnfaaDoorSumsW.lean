/- The walk of DigestSums. -/
import Derived.Test.YtnibmkenbidnfaaDoorE7
import Derived.Test.YtnibmkenbidnfaaDoorInnersW
namespace Go.Proofs.YtnibmkenbidnfaaDoor
open Go.RowKit
set_option linter.unusedVariables false

set_option maxRecDepth 100000 in
set_option maxHeartbeats 4000000 in
theorem sums_walk (w : World) (va : Value) (bs : List UInt8) (hb : Bs w va bs) (hl0 : Laid0 w) (hl1 : Laid1 w) (hsz : bs.length + 73 ≤ 140737488355328) :
    Calls Tryd.prog 6 #[va] w fun e w' => e = .returned (.bool true) ∧ Turn no w w' := by
  have h2 : 2 ≤ w.heap.size := World.block_lt_of_cell? w _ (hl1 0 (by omega))
  have hroomy := roomy_any w va bs hb (by omega)
  have c19 := fun W (T : Turn no w W) v (h : Bs W v bs) => sum19 W v bs h (hl1.turn T (fun q => q)) (by have := T.size; omega) (by omega)
  have c20 := fun W (T : Turn no w W) v (h : Bs W v bs) => leaf20 W v bs h (hl1.turn T (fun q => q)) (by have := T.size; omega) (by omega)
  have c18 := fun W (T : Turn no w W) => rsum_all W va bs (hb.turn_no T) (hl0.turn T (fun q => q)) (by have := T.size; omega) (by omega)
  have c21 := fun W (T : Turn no w W) => leaf21 W va bs (hb.turn_no T) (hl0.turn T (fun q => q)) (by have := T.size; omega) (by omega)
  have c17 := fun W (T : Turn no w W) v (h : Bs W v (bs ++ [201, 202])) => kept_any W v va bs h (hb.turn_no T) (by omega)
  have e1 : ∀ W, (binOp .eql 35 (.agg (hv bs)) (.agg (hv bs))).run Tryd.prog W = .ok (.bool true) W := fun W => by
    have := eqlH W bs bs
    rwa [beq_self_eq_true] at this
  have e2 : ∀ W, (binOp .eql 35 (.agg (hv (0 :: bs))) (.agg (hv (0 :: bs)))).run Tryd.prog W = .ok (.bool true) W := fun W => by
    have := eqlH W (0 :: bs) (0 :: bs)
    rwa [beq_self_eq_true] at this
  have hv1 : hv bs = ((hashOf bs).map bv).toArray := rfl
  have hv2 : hv (0 :: bs) = ((hashOf (0 :: bs)).map bv).toArray := rfl
  rw [hv1] at e1
  rw [hv2] at e2
  simp only [hv1] at c19 c18
  simp only [hv2] at c20 c21
  have s1 : ((hashOf bs).map bv).length = 32 := by simpa using hashOf_len bs
  have s2 : ((hashOf (0 :: bs)).map bv).length = 32 := by simpa using hashOf_len (0 :: bs)
  have o1 : ((hashOf bs).map bv).toArray.all (·.oneCell') = true := hv_one bs
  have o2 : ((hashOf (0 :: bs)).map bv).toArray.all (·.oneCell') = true := hv_one (0 :: bs)
  generalize (hashOf bs).map bv = L1 at *
  generalize (hashOf (0 :: bs)).map bv = L2 at *
  have i1 : (Tryd.prog.info? 35).map (·.size) = some L1.length := by rw [s1]; exact size35
  have i2 : (Tryd.prog.info? 35).map (·.size) = some L2.length := by rw [s2]; exact size35
  have i1' : (Tryd.prog.info? 35).map (·.size) = some L1.toArray.size := by simpa using i1
  have i2' : (Tryd.prog.info? 35).map (·.size) = some L2.toArray.size := by simpa using i2
  have z1 : L1.toArray.size = 32 := by simpa using s1
  have z2 : L2.toArray.size = 32 := by simpa using s2
  obtain ⟨a, c, rfl⟩ := hb.slice
  clear hv1 hv2 hb
  go_enter Tryd.func6, Tryd.ntmps6
  go_wp2_with fail
  refine hroomy.mono ?_
  rintro e w1 ⟨vf, rfl, O1, f1, t1⟩
  have B1 := O1.bs
  obtain ⟨fb, fo, fc, hvf, hfc, _⟩ := B1.at (by simp)
  have hlen : (bs ++ [201, 202]).length = bs.length + 2 := by simp
  rw [hlen] at hvf hfc
  have C1 := bs_cut (show Bs w1 (.slice (some ⟨fb, fo, none⟩) (bs.length + 2) fc) (bs ++ [201, 202]) by rw [← hvf]; exact B1) bs.length (by simp)
  rw [List.take_left' rfl] at C1
  subst hvf
  have hn1 : (bs.length : Int) ≤ (fc : Int) := by omega
  clear O1 f1 hroomy
  go_wp2_with fail
  refine (c19 _ t1 _ C1).mono ?_
  rintro e w2 ⟨rfl, t2⟩
  have T2 := t1.then_no t2
  have C2 := C1.turn_no t2
  have B2 := B1.turn_no t2
  have hsr : ∀ Z, (w2.alloc (.cells Z 35)).setRow w2.heap.size L1.toArray = w2.alloc (.cells L1.toArray 35) := fun Z => World.setRow_alloc_new _ _ _ _
  go_wp2_with (refine wpList_store_row rfl 35 (.tmp 4) (.tmp 12) rfl w2.heap.size L1.toArray rfl rfl 35 _ (heap_alloc_new w2 _) i1' (by rw [z1]; rfl) o1 ?_)
  refine (c20 _ (T2.alloc _) _ (C2.turn_no ((Turn.refl no w2).alloc _))).mono ?_
  rintro e w3 ⟨rfl, t3⟩
  have R3 := (Row.new w2 L1.toArray 35).turn t3 (fun q => q)
  have T3 := (T2.alloc (.cells L1.toArray 35)).then_no t3
  have B3 := (B2.turn_no ((Turn.refl no w2).alloc (.cells L1.toArray 35))).turn_no t3
  clear T2 C2 B2 t2 t3 C1 B1 hsr c19 c20 t1
  generalize w2.heap.size = q4 at *
  have hsr : ∀ Z, (w3.alloc (.cells Z 35)).setRow w3.heap.size L2.toArray = w3.alloc (.cells L2.toArray 35) := fun Z => World.setRow_alloc_new _ _ _ _
  go_wp2_with (refine wpList_store_row rfl 35 (.tmp 5) (.tmp 17) rfl w3.heap.size L2.toArray rfl rfl 35 _ (heap_alloc_new w3 _) i2' (by rw [z2]; rfl) o2 ?_)
  have R4 := (R3.alloc (.cells L2.toArray 35)).range
  have R5 := (Row.new w3 L2.toArray 35).range
  have T4 : Turn no w (w3.alloc (.cells L2.toArray 35)) := T3.alloc _
  have B4 := B3.turn_no ((Turn.refl no w3).alloc (.cells L2.toArray 35))
  try rw [hsr]
  generalize w3.alloc (.cells L2.toArray 35) = w4 at *
  generalize w3.heap.size = q5 at *
  clear R3 T3 B3 hsr
  refine wp_region_held_drew (S := fun w' => w'.rangeAt q4 0 L1 ∧ w'.rangeAt q5 0 L2 ∧ Turn no w w' ∧ Bs w' (.slice (some ⟨fb, fo, none⟩) (bs.length + 2) fc) (bs ++ [201, 202])) (by kernel_rfl) ⟨by simpa using R4, by simpa using R5, T4.drew, B4.turn_no ((Turn.refl no w4).drew)⟩ (fun hHeld => ?_)
  refine' wpAnyH_take (i := 0) (v := _) rfl (by kernel_rfl) (by kernel_rfl) (by kernel_rfl) (fun _ _ _ h => h) (yieldsIf_load_mid (by rfl) _ _ rfl _ _ rfl _ _ (fun W h => h.1) Tryd.underlying35 rfl i1) hHeld ?r0
  refine wpAnyH_ready (rs := [1]) (by kernel_rfl) (by simp) ?_
  refine AllReadyH.cons rfl (fun K hK => ?_) AllReadyH.nil
  go_simp
  refine hK.out _ _ hHeld (fun hHeld => ?_)
  clear hK
  refine wpAnyH_ready (rs := [2]) (by kernel_rfl) (by simp) ?_
  refine AllReadyH.cons rfl (fun K hK => ?_) AllReadyH.nil
  go_simp
  refine (c18 _ hHeld.2.2.1).mono ?_
  rintro e w6 ⟨rfl, t6⟩
  have H6 : w6.rangeAt q4 0 L1 ∧ w6.rangeAt q5 0 L2 ∧ Turn no w w6 ∧ Bs w6 (.slice (some ⟨fb, fo, none⟩) (bs.length + 2) fc) (bs ++ [201, 202]) := ⟨range_turn hHeld.1 t6, range_turn hHeld.2.1 t6, hHeld.2.2.1.then_no t6, hHeld.2.2.2.turn_no t6⟩
  go_wp2_with fail
  refine hK.out _ _ H6 (fun hHeld => ?_)
  clear hK
  refine wpAnyH_ready (rs := [3]) (by kernel_rfl) (by simp) ?_
  refine AllReadyH.cons rfl (fun K hK => ?_) AllReadyH.nil
  go_simp
  refine hK.out _ _ hHeld (fun hHeld => ?_)
  clear hK
  refine wpAnyH_ready (rs := [4]) (by kernel_rfl) (by simp) ?_
  refine AllReadyH.cons rfl (fun K hK => ?_) AllReadyH.nil
  go_simp
  refine hK.out _ _ hHeld (fun hHeld => ?_)
  clear hK
  refine' wpAnyH_take (i := 5) (v := _) rfl (by kernel_rfl) (by kernel_rfl) (by kernel_rfl) (fun _ _ _ h => h) (yieldsIf_load_mid (by rfl) _ _ rfl _ _ rfl _ _ (fun W h => h.2.1) Tryd.underlying35 rfl i2) hHeld ?r5
  refine wpAnyH_ready (rs := [6]) (by kernel_rfl) (by simp) ?_
  refine AllReadyH.cons rfl (fun K hK => ?_) AllReadyH.nil
  go_simp
  refine hK.out _ _ hHeld (fun hHeld => ?_)
  clear hK
  refine wpAnyH_ready (rs := [7]) (by kernel_rfl) (by simp) ?_
  refine AllReadyH.cons rfl (fun K hK => ?_) AllReadyH.nil
  go_simp
  refine (c21 _ hHeld.2.2.1).mono ?_
  rintro e w7 ⟨rfl, t7⟩
  have H7 : w7.rangeAt q4 0 L1 ∧ w7.rangeAt q5 0 L2 ∧ Turn no w w7 ∧ Bs w7 (.slice (some ⟨fb, fo, none⟩) (bs.length + 2) fc) (bs ++ [201, 202]) := ⟨range_turn hHeld.1 t7, range_turn hHeld.2.1 t7, hHeld.2.2.1.then_no t7, hHeld.2.2.2.turn_no t7⟩
  go_wp2_with fail
  refine hK.out _ _ H7 (fun hHeld => ?_)
  clear hK
  refine wpAnyH_ready (rs := [8]) (by kernel_rfl) (by simp) ?_
  refine AllReadyH.cons rfl (fun K hK => ?_) AllReadyH.nil
  go_simp
  refine hK.out _ _ hHeld (fun hHeld => ?_)
  clear hK
  refine wpAnyH_ready (rs := [9]) (by kernel_rfl) (by simp) ?_
  refine AllReadyH.cons rfl (fun K hK => ?_) AllReadyH.nil
  go_simp
  refine hK.out _ _ hHeld (fun hHeld => ?_)
  clear hK
  refine wpAnyH_ready (rs := [10]) (by kernel_rfl) (by simp) ?_
  refine AllReadyH.cons rfl (fun K hK => ?_) AllReadyH.nil
  go_simp
  refine hK.out _ _ hHeld (fun hHeld => ?_)
  clear hK
  refine' wpAnyH_take (i := 11) (v := .slice (some ⟨fb, fo, none⟩) (bs.length + 2) fc) rfl (by kernel_rfl) (by kernel_rfl) (by kernel_rfl) (fun _ _ _ h => h) (Or.inl ⟨by rfl, fun W hW => ?y11⟩) hHeld ?r11
  · go_simp
  refine wpAnyH_ready (rs := [12]) (by kernel_rfl) (by simp) ?_
  refine AllReadyH.cons rfl (fun K hK => ?_) AllReadyH.nil
  go_simp
  refine hK.out _ _ hHeld (fun hHeld => ?_)
  clear hK
  refine wpAnyH_ready (rs := [13]) (by kernel_rfl) (by simp) ?_
  refine AllReadyH.cons rfl (fun K hK => ?_) AllReadyH.nil
  go_simp
  refine (c17 _ hHeld.2.2.1 _ hHeld.2.2.2).mono ?_
  rintro e w8 ⟨rfl, n8, rfl⟩
  go_wp2_with fail
  refine hK.out _ _ ⟨by simpa [World.rangeAt] using hHeld.1, by simpa [World.rangeAt] using hHeld.2.1, hHeld.2.2.1.drewN n8, hHeld.2.2.2.turn_no ((Turn.refl no _).drewN n8)⟩ (fun hHeld => ?_)
  clear hK
  refine wpAnyH_ready (rs := [14]) (by kernel_rfl) (by simp) ?_
  refine AllReadyH.cons rfl (fun K hK => ?_) AllReadyH.nil
  go_simp
  refine hK.out _ _ hHeld (fun hHeld => ?_)
  clear hK
  refine wpAnyH_ready (rs := [15]) (by kernel_rfl) (by simp) ?_
  refine AllReadyH.cons rfl (fun K hK => ?_) AllReadyH.nil
  go_simp
  refine hK.out _ _ hHeld (fun hHeld => ?_)
  clear hK
  refine wpAnyH_done (by kernel_rfl) ?_ _
  go_wp2_with fail
  go_ret
  exact ⟨rfl, hHeld.2.2.1⟩
end Go.Proofs.YtnibmkenbidnfaaDoor
