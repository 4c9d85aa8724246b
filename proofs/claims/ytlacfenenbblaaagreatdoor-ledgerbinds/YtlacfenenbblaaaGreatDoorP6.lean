/- The ledger's Root: the program's. -/
import Derived.Test.YtlacfenenbblaaaGreatDoorP5
import Derived.Test.YtlacfenenbblaaaGreatDoorEa
namespace Go.Proofs.YtlacfenenbblaaaGreatDoor
open Go.RowKit
set_option linter.unusedVariables false

theorem rowL {w : World} {g : Nat} {X : List Value} {e : TypeId} (h : Row w g X.toArray e) : w.rangeAt g 0 X := fun j v hv => by
  rw [Nat.zero_add]
  exact h.cell j v (by simpa using hv)
set_option maxRecDepth 100000 in
set_option maxHeartbeats 16000000 in
theorem root6 (w : World) (hl : Laid1 w) (h2 : 2 ≤ w.heap.size) (va vr : Value) (l : List Ac) (r : List Rl) (ha : As w va l) (hr : Rs w vr r) (b s : Nat) (hb : b < 18446744073709551616) (hs : s < 18446744073709551616) : Calls Tryz.prog 5 #[.agg (ldA va vr b s)] w fun e w' => e = .returned (.tuple #[.agg (hb32 (lrH b s l r)), .int .i64 (ledE b l r s)]) ∧ Turn no w w' := by
  have hZ := hb32_size z32_len
  have oZ := hb32_one z32
  have iZ := hb32_info z32_len
  have hzv := zero35v
  have hbd := shut bld35
  have iL := ld_info va vr b s
  obtain ⟨w0, hw0⟩ : ∃ w0, (w.alloc (.cells (ldA va vr b s) 26)).alloc (.cells (hb32 z32) 29) = w0 := ⟨_, rfl⟩
  have T0 : Turn no w w0 := by rw [← hw0]; exact ((Turn.refl no w).alloc _).alloc _
  have RL : Row w0 w.heap.size (ldA va vr b s) 26 := by rw [← hw0]; exact (Row.new w _ 26).alloc _
  have RZ : Row w0 (w.heap.size + 1) (hb32 z32) 29 := by rw [← hw0]; exact Row.newAt _ _ _ _ (by simp)
  have hsd : Calls Tryz.prog 23 #[.agg (ldA va vr b s)] w0 fun e w' => e = .returned (.int .i64 (ledE b l r s)) ∧ Turn no w0 w' := sound11 w0 va vr l r (ha.turn_no T0) (hr.turn_no T0) b s
  by_cases he : ledE b l r s = 0
  · obtain ⟨h1l, h1r⟩ := led_small he
    rw [show lrH b s l r = inH (acR l) (hashOf (restB b s r)) from if_pos he, he]
    rw [he] at hsd
    have HF : Shut (∀ W, Turn no w0 W → Calls Tryz.prog 25 #[va] W (Fs W l)) := fun W t => forms20 W va l (ha.turn_no (T0.then_no t)) h1l
    have HR : Shut (∀ W, Turn no w0 W → ∀ a cap its, BlAt W a cap its → txs its = forms l → Calls Tryz.prog 24 #[.slice a its.length cap] W fun e w' => e = .returned (.tuple #[.agg (hb32 (acR l)), .int .i64 0]) ∧ Turn no W w') := fun W t a cap its B q => by
      have := root7 W a cap its B (hl.turn (T0.then_no t) (fun q => q)) (by have := (T0.then_no t).size; omega)
      obtain ⟨r1, r2⟩ := root_its q (by simpa [forms] using h1l) (form_small l)
      rw [r1, r2] at this
      exact this
    have HT : Shut (∀ W, Turn no w0 W → Calls Tryz.prog 27 #[.agg (ldA va vr b s)] W fun e w' => e = .returned (.agg (hb32 (hashOf (restB b s r)))) ∧ Turn no W w') := fun W t => rest22 W (hl.turn (T0.then_no t) (fun q => q)) (by have := (T0.then_no t).size; omega) va vr r (hr.turn_no (T0.then_no t)) h1r b s hb hs
    have lA : (acR l).length = 32 := hashOf_len _
    have lR : (hashOf (restB b s r)).length = 32 := hashOf_len _
    have lI : (inH (acR l) (hashOf (restB b s r))).length = 32 := hashOf_len _
    have HI : Shut (∀ W, Turn no w0 W → Calls Tryz.prog 26 #[.agg (hb32 (acR l)), .agg (hb32 (hashOf (restB b s r)))] W fun e w' => e = .returned (.agg (hb32 (inH (acR l) (hashOf (restB b s r))))) ∧ Turn no W w') := fun W t => inner13 W _ _ lA lR (hl.turn (T0.then_no t) (fun q => q)) (by have := (T0.then_no t).size; omega)
    have sA := hb32_size lA
    have oA := hb32_one (acR l)
    have iA := hb32_info lA
    have sR := hb32_size lR
    have oR := hb32_one (hashOf (restB b s r))
    have iR := hb32_info lR
    have sI := hb32_size lI
    have oI := hb32_one (inH (acR l) (hashOf (restB b s r)))
    have iI := hb32_info lI
    have HAL : Shut (hb32 (acR l) = ((acR l).map bv).toArray ∧ (Tryz.prog.info? 29).map (·.size) = some ((acR l).map bv).length) := ⟨rfl, by rw [List.length_map, lA]; exact size35⟩
    have HLL : Shut (ldA va vr b s = [va, vr, .int .u64 b, .int .u64 s].toArray ∧ (Tryz.prog.info? 26).map (·.size) = some [va, vr, .int .u64 b, .int .u64 s].length) := ⟨rfl, by kernel_rfl⟩
    have hv0 : (ldA va vr b s)[0]? = some va := rfl
    obtain ⟨ada, capa, eva, -⟩ := id ha
    clear lA lR lI ha hr hl h2 he h1l h1r hb hs
    generalize hb32 (inH (acR l) (hashOf (restB b s r))) = IH at *
    generalize hb32 (hashOf (restB b s r)) = RH at *
    generalize hb32 (acR l) = AH at *
    generalize (acR l).map bv = AL at *
    generalize hb32 z32 = Z at *
    generalize ldA va vr b s = LA at *
    generalize ([va, vr, .int .u64 b, .int .u64 s] : List Value) = LL at *
    subst eva
    generalize l.length = nl at *
    have HT0 := shut T0
    go_enter Tryz.func5, Tryz.ntmps5
    go_upto_region 1 with fail
    try rw [hw0]
    clear hw0
    go_upto_region 4 with (first | (guard_target =~ wpList _ _ _ ({ dst := _, op := Op.load 26 _, .. } :: _) _ _; refine wpList_load_row rfl 26 (.tmp 1) rfl w.heap.size rfl 26 LA _ _ RL Tryz.underlying26 rfl iL ?_) | (go_at_call 23; refine hsd.mono ?_; clear hsd; rintro e w1 ⟨rfl, t1⟩; have RL1 := RL.turn t1 (fun q => q); have hf := HF.out w1 t1; have x0 := RL1.cell 0 _ hv0))
    go_upto_region 5 with (first | (go_at_call 25; refine hf.mono ?_; clear hf; rintro e w2 ⟨a2, c2, its, rfl, B2, q2, t2⟩; have T2 := t1.then_no t2; have hrt := HR.out w2 T2 a2 c2 its (B2 _ (Turn.refl _ _)) q2) | (go_at_call 24; refine hrt.mono ?_; clear hrt; rintro e w3 ⟨rfl, t3⟩; have T3 := T2.then_no t3) | (guard_target =~ wpList _ _ _ ({ dst := _, op := Op.store 29 _ _, .. } :: _) _ _; refine wpList_store_anyN rfl rfl 29 (.tmp 5) (.tmp 18) rfl _ AH rfl rfl 29 Z (Row.new _ Z 29) iA (by rw [hZ, sA]) oA ?_; intro w4 R4 t4))
    have T34 : Turn no w3 w4 := (((Turn.refl no w3).alloc _).of_no.trans t4 (fun _ _ e => e) : Turn (fun q => q = w3.heap.size) w3 w4).mono (fun i hi e => by
      have e' : i = w3.heap.size := e
      omega)
    have T4 := T3.then_no T34
    have RL4 := RL.turn T4 (fun q => q)
    have RZ4 := RZ.turn T4 (fun q => q)
    have g4l : w3.heap.size ≠ w.heap.size + 1 := by have := RZ.lt; have := T3.size; omega
    have ht := HT.out w4 T4
    clear RL1 T34 t1 t2 t3 t4 B2 q2 T2 T3 RL RZ x0
    generalize w3.heap.size = g4 at *
    rw [HAL.out.1] at R4
    have hr4 := rowL R4
    have RL4' : Row w4 w.heap.size LL.toArray 26 := by rw [← HLL.out.1]; exact RL4
    have hrl := rowL RL4'
    have HK : Shut (∀ W, Turn (fun q => q = w.heap.size + 1) w4 W → W.rangeAt g4 0 AL ∧ W.rangeAt w.heap.size 0 LL) := fun W t => ⟨fun j u hu => t.keep (hr4 j u hu) (fun q => g4l q), fun j u hu => t.keep (hrl j u hu) (fun q => by have q2 : w.heap.size = w.heap.size + 1 := q; omega)⟩
    go_upto_region 7 with fail
    clear hr4 hrl RL4' R4 RL4
    refine wp_region_held_drew (S := fun W => Turn (fun q => q = w.heap.size + 1) w4 W) (by kernel_rfl) (Turn.refl _ w4).drew (fun hHeld => ?_)
    refine' wpAnyH_take (i := 0) (v := .agg AL.toArray) rfl (by kernel_rfl) (by kernel_rfl) (by kernel_rfl) (fun _ _ _ h => h) (yieldsIf_load_mid (by kernel_rfl) 29 (.tmp 5) rfl g4 0 (by kernel_rfl) AL _ (fun W h => (HK.out W h).1) Tryz.underlying29 rfl HAL.out.2) hHeld ?s0
    refine' wpAnyH_take (i := 1) (v := .agg LL.toArray) rfl (by kernel_rfl) (by kernel_rfl) (by kernel_rfl) (fun _ _ _ h => h) (yieldsIf_load_mid (by kernel_rfl) 26 (.tmp 1) rfl w.heap.size 0 (by kernel_rfl) LL _ (fun W h => (HK.out W h).2) Tryz.underlying26 rfl HLL.out.2) hHeld ?s1
    refine wpAnyH_ready (rs := [2]) (by kernel_rfl) (by simp) ?_
    refine AllReadyH.cons rfl (fun K hK => ?_) AllReadyH.nil
    go_simp
    rw [← HLL.out.1]
    refine (HT.out w4.drew T4.drew).mono ?_
    rintro e w5 ⟨rfl, t5⟩
    have T45 : Turn no w4 w5 := (Turn.refl no w4).drew.then_no t5
    go_wp2_with fail
    refine hK.out _ _ T45.of_no (fun hHeld => ?_)
    clear hK
    refine wpAnyH_ready (rs := [3]) (by kernel_rfl) (by simp) ?_
    refine AllReadyH.cons rfl (fun K hK => ?_) AllReadyH.nil
    go_simp
    rw [← HAL.out.1]
    refine (HI.out w5 (T4.then_no T45)).mono ?_
    rintro e w6 ⟨rfl, t6⟩
    have T46 := T45.then_no t6
    have T6 := T4.then_no T46
    have RZ6 := RZ4.turn T46 (fun q => q)
    clear T45 t5 t6 RZ4 ht HT HI HF HR
    go_wp2_with fail
    refine hK.out _ _ T46.of_no (fun hHeld => ?_)
    clear hK
    refine wpAnyH_ready (rs := [4]) (by kernel_rfl) (by simp) ?_
    refine AllReadyH.cons rfl (fun K hK => ?_) AllReadyH.nil
    rw [if_pos (by rfl)]
    refine wp_store_row 29 _ _ rfl (w.heap.size + 1) IH rfl rfl 29 Z RZ6 iI (by rw [hZ, sI]) oI ?_
    have hz' : (w6.setRow (w.heap.size + 1) IH).heap[w.heap.size + 1]? = some (.cells IH 29 (0, 0)) := setRow_heap _ _ _ _ _ _ RZ6
    have T7 : Turn no w (w6.setRow (w.heap.size + 1) IH) := (HT0.out.then_no T6).setRow _ _ (fun q => by omega)
    refine hK.out _ _ ((T46.of_no : Turn (fun q => q = w.heap.size + 1) w4 w6).setRow _ _ (fun _ => rfl)) (fun hHeld => ?_)
    clear hK
    refine wpAnyH_ready (rs := [5]) (by kernel_rfl) (by simp) ?_
    refine AllReadyH.cons rfl (fun K hK => ?_) AllReadyH.nil
    go_simp
    refine hK.out _ _ ((T46.of_no : Turn (fun q => q = w.heap.size + 1) w4 w6).setRow _ _ (fun _ => rfl)) (fun hHeld => ?_)
    clear hK
    refine wpAnyH_done (by kernel_rfl) ?_ _
    go_wp2_with fail
    refine bodyPost_ret (v := .tuple #[.agg IH, .int .i64 0]) ?_ rfl ⟨rfl, T7⟩
    exact results_cell_row_tmp (P := Tryz.prog) Tryz.results5 _ _ (w.heap.size + 1) 29 IH (0, 0) _ rfl hz' Tryz.underlying29 rfl iI
  · rw [show lrH b s l r = z32 from if_neg he]
    have n1 : (ledE b l r s != 0) = true := by simpa using he
    have hne := he
    generalize ledE b l r s = E at *
    clear ha hr hl h2 hb hs he
    generalize hb32 z32 = Z at *
    generalize ldA va vr b s = LA at *
    have HT0 := shut T0
    go_enter Tryz.func5, Tryz.ntmps5
    go_upto_region 1 with fail
    try rw [hw0]
    clear hw0 hzv
    go_wp2_with (first | (guard_target =~ wpList _ _ _ ({ dst := _, op := Op.load 26 _, .. } :: _) _ _; refine wpList_load_row rfl 26 (.tmp 1) rfl w.heap.size rfl 26 LA _ _ RL Tryz.underlying26 rfl iL ?_) | (go_at_call 23; refine hsd.mono ?_; clear hsd; rintro e w1 ⟨rfl, t1⟩; have RZ1 := RZ.turn t1 (fun q => q)) | (guard_target =~ wpList _ _ _ ({ dst := _, op := Op.build 29 _, .. } :: _) _ _; refine wpList_buildG (by kernel_rfl) 29 rfl _ (hbd.out _) ?_) | (guard_target =~ wpList _ _ _ ({ dst := _, op := Op.store 29 _ _, .. } :: _) _ _; refine wpList_store_row rfl 29 (.tmp 2) (.tmp 11) rfl (w.heap.size + 1) Z rfl rfl 29 Z RZ1 iZ rfl oZ ?_))
    refine bodyPost_ret (v := .tuple #[.agg Z, .int .i64 E]) ?_ rfl ⟨rfl, (HT0.out.then_no t1).setRow _ _ (fun q => by omega)⟩
    exact results_cell_row_tmp (P := Tryz.prog) Tryz.results5 _ _ (w.heap.size + 1) 29 Z (0, 0) _ rfl (setRow_heap _ _ _ _ _ _ RZ1) Tryz.underlying29 rfl iZ
end Go.Proofs.YtlacfenenbblaaaGreatDoor

