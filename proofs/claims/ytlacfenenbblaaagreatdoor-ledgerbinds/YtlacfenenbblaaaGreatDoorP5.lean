/- The ledger's Root: the document's. -/
import Derived.Test.YtlacfenenbblaaaGreatDoorP4
import Derived.Test.YtlacfenenbblaaaGreatDoorG5
import Derived.Test.YtlacfenenbblaaaGreatDoorY2
import Derived.Test.YtlacfenenbblaaaGreatDoorY3
namespace Go.Proofs.YtlacfenenbblaaaGreatDoor
open Go.RowKit
set_option linter.unusedVariables false

/-- A ledger's root. -/
def acR (l : List Ac) : List UInt8 := hashOf (rtT (forms l))
def lrH (b s : Nat) (l : List Ac) (r : List Rl) : List UInt8 := if ledE b l r s = 0 then inH (acR l) (hashOf (restB b s r)) else z32
theorem led_small {b s : Nat} {l : List Ac} {r : List Rl} (h : ledE b l r s = 0) : l.length ≤ 65536 ∧ r.length ≤ 65536 := by
  unfold ledE at h
  split at h
  · cases h
  · omega
theorem form_small (l : List Ac) : ∀ x ∈ forms l, x.length ≤ 1048576 := fun x hx => by
  obtain ⟨m, _, rfl⟩ := List.mem_map.1 hx
  rw [formB_len]
  omega
def ldA (va vr : Value) (b s : Nat) : Array Value := #[va, vr, .int .u64 b, .int .u64 s]
theorem ld_one {va vr : Value} (b s : Nat) (h1 : va.oneCell' = true) (h2 : vr.oneCell' = true) : ∀ u ∈ (ldA va vr b s).toList, u.oneCell' = true := by
  intro u hu
  simp [ldA] at hu
  rcases hu with rfl | rfl | rfl | rfl
  · exact h1
  · exact h2
  · rfl
  · rfl
theorem ld_info (va vr : Value) (b s : Nat) : (Tryz.prog.info? 26).map (·.size) = some (ldA va vr b s).size := by kernel_rfl
set_option maxRecDepth 100000 in
set_option maxHeartbeats 16000000 in
theorem rroot9 (w : World) (hl : Laid0 w) (h2 : 2 ≤ w.heap.size) (va vr : Value) (l : List Ac) (r : List Rl) (ha : As w va l) (hr : Rs w vr r) (b s : Nat) (hb : b < 18446744073709551616) (hs : s < 18446744073709551616) : Calls Tryz.prog 6 #[.agg (ldA va vr b s)] w fun e w' => e = .returned (.tuple #[.agg (hb32 (lrH b s l r)), .int .i64 (ledE b l r s)]) ∧ Turn no w w' := by
  have hZ := hb32_size z32_len
  have oZ := hb32_one z32
  have iZ := hb32_info z32_len
  have hzv := zero35v
  have hbd := shut bld35
  have iL := ld_info va vr b s
  obtain ⟨w0, hw0⟩ : ∃ w0, (w.alloc (.cells (ldA va vr b s) 26)).alloc (.cells (hb32 z32) 29) = w0 := ⟨_, rfl⟩
  have T0 : Turn no w w0 := by rw [← hw0]; exact ((Turn.refl no w).alloc _).alloc _
  have RL : Row w0 w.heap.size (ldA va vr b s) 26 := by rw [← hw0]; exact (Row.new w _ 26).alloc _
  have RZ : Row w0 (w.heap.size + 1) (hb32 z32) 29 := by rw [← hw0]; exact Row.newAt _ _ _ _ (by simp)
  have hsd : Calls Tryz.prog 28 #[.agg (ldA va vr b s)] w0 fun e w' => e = .returned (.int .i64 (ledE b l r s)) ∧ Turn no w0 w' := sound14 w0 va vr l r (ha.turn_no T0) (hr.turn_no T0) b s
  by_cases he : ledE b l r s = 0
  · obtain ⟨h1l, h1r⟩ := led_small he
    rw [show lrH b s l r = inH (acR l) (hashOf (restB b s r)) from if_pos he, he]
    rw [he] at hsd
    have HF : Shut (∀ W, Turn no w0 W → Calls Tryz.prog 9 #[.agg (ldA va vr b s)] W (Fs W l)) := fun W t => rforms27 W va vr l (ha.turn_no (T0.then_no t)) h1l b s
    have HR : Shut (∀ W, Turn no w0 W → ∀ a cap its, BlAt W a cap its → txs its = forms l → Calls Tryz.prog 8 #[.slice a its.length cap] W fun e w' => e = .returned (.tuple #[.agg (hb32 (acR l)), .int .i64 0]) ∧ Turn no W w') := fun W t a cap its B q => by
      have := root8 W a cap its B (hl.turn (T0.then_no t) (fun q => q)) (by have := (T0.then_no t).size; omega)
      obtain ⟨r1, r2⟩ := root_its q (by simpa [forms] using h1l) (form_small l)
      rw [r1, r2] at this
      exact this
    have HT : Shut (∀ W, Turn no w0 W → Calls Tryz.prog 13 #[.agg (ldA va vr b s)] W fun e w' => ∃ v, e = .returned v ∧ Fr W w' v (restB b s r)) := fun W t => rrest29 W va vr r (hr.turn_no (T0.then_no t)) h1r b s hb hs
    have hlen := restB_len b s r
    have HS : Shut (∀ W, Turn no w0 W → ∀ v, Bs W v (restB b s r) → Calls Tryz.prog 12 #[v] W fun e w' => e = .returned (.agg (hb32 (hashOf (restB b s r)))) ∧ Turn no W w') := fun W t v q => rsum_all W v _ q (hl.turn (T0.then_no t) (fun q => q)) (by have := (T0.then_no t).size; omega) (by omega)
    have lA : (acR l).length = 32 := hashOf_len _
    have lR : (hashOf (restB b s r)).length = 32 := hashOf_len _
    have lI : (inH (acR l) (hashOf (restB b s r))).length = 32 := hashOf_len _
    have HI : Shut (∀ W, Turn no w0 W → Calls Tryz.prog 29 #[.agg (hb32 (acR l)), .agg (hb32 (hashOf (restB b s r)))] W fun e w' => e = .returned (.agg (hb32 (inH (acR l) (hashOf (restB b s r))))) ∧ Turn no W w') := fun W t => inner14 W _ _ lA lR (hl.turn (T0.then_no t) (fun q => q)) (by have := (T0.then_no t).size; omega)
    have sA := hb32_size lA
    have oA := hb32_one (acR l)
    have iA := hb32_info lA
    have sR := hb32_size lR
    have oR := hb32_one (hashOf (restB b s r))
    have iR := hb32_info lR
    have sI := hb32_size lI
    have oI := hb32_one (inH (acR l) (hashOf (restB b s r)))
    have iI := hb32_info lI
    clear lA lR lI hlen ha hr hl h2 he h1l h1r hb hs
    generalize hb32 (inH (acR l) (hashOf (restB b s r))) = IH at *
    generalize hb32 (hashOf (restB b s r)) = RH at *
    generalize hb32 (acR l) = AH at *
    generalize hb32 z32 = Z at *
    generalize ldA va vr b s = LA at *
    generalize restB b s r = RB at *
    have HT0 := shut T0
    go_enter Tryz.func6, Tryz.ntmps6
    go_upto_region 1 with fail
    try rw [hw0]
    clear hw0
    go_upto_region 4 with (first | (guard_target =~ wpList _ _ _ ({ dst := _, op := Op.load 26 _, .. } :: _) _ _; refine wpList_load_row rfl 26 (.tmp 1) rfl w.heap.size rfl 26 LA _ _ RL Tryz.underlying26 rfl iL ?_) | (go_at_call 28; refine hsd.mono ?_; clear hsd; rintro e w1 ⟨rfl, t1⟩; have RL1 := RL.turn t1 (fun q => q); have hf := HF.out w1 t1))
    go_upto_region 5 with (first | (guard_target =~ wpList _ _ _ ({ dst := _, op := Op.load 26 _, .. } :: _) _ _; refine wpList_load_row rfl 26 (.tmp 1) rfl w.heap.size rfl 26 LA _ _ RL1 Tryz.underlying26 rfl iL ?_) | (go_at_call 9; refine hf.mono ?_; clear hf; rintro e w2 ⟨a2, c2, its, rfl, B2, q2, t2⟩; have T2 := t1.then_no t2; have hrt := HR.out w2 T2 a2 c2 its (B2 _ (Turn.refl _ _)) q2) | (go_at_call 8; refine hrt.mono ?_; clear hrt; rintro e w3 ⟨rfl, t3⟩; have T3 := T2.then_no t3) | (guard_target =~ wpList _ _ _ ({ dst := _, op := Op.store 29 _ _, .. } :: _) _ _; refine wpList_store_anyN rfl rfl 29 (.tmp 5) (.tmp 17) rfl _ AH rfl rfl 29 Z (Row.new _ Z 29) iA (by rw [hZ, sA]) oA ?_; intro w4 R4 t4))
    have T34 : Turn no w3 w4 := (((Turn.refl no w3).alloc _).of_no.trans t4 (fun _ _ e => e) : Turn (fun q => q = w3.heap.size) w3 w4).mono (fun i hi e => by
      have e' : i = w3.heap.size := e
      omega)
    have T4 := T3.then_no T34
    have RL4 := RL.turn T4 (fun q => q)
    have RZ4 := RZ.turn T4 (fun q => q)
    have ht := HT.out w4 T4
    clear RL1 T34 t1 t2 t3 t4 B2 q2 T2 T3 RL RZ
    generalize w3.heap.size = g4 at *
    go_upto_region 8 with (first | (guard_target =~ wpList _ _ _ ({ dst := _, op := Op.load 26 _, .. } :: _) _ _; refine wpList_load_row rfl 26 (.tmp 1) rfl w.heap.size rfl 26 LA _ _ RL4 Tryz.underlying26 rfl iL ?_) | (go_at_call 13; refine ht.mono ?_; clear ht; rintro e w5 ⟨v5, rfl, F5⟩; obtain ⟨a5, l5, c5, rfl⟩ := F5.form; have T5 := T4.then_no F5.turn; have hsu := HS.out w5 T5 _ F5.own.bs) | (go_at_call 12; refine hsu.mono ?_; clear hsu; rintro e w6 ⟨rfl, t6⟩) | (guard_target =~ wpList _ _ _ ({ dst := _, op := Op.store 29 _ _, .. } :: _) _ _; refine wpList_store_anyN rfl rfl 29 (.tmp 6) (.tmp 25) rfl _ RH rfl rfl 29 Z (Row.new _ Z 29) iR (by rw [hZ, sR]) oR ?_; intro w7 R7 t7))
    have T67 : Turn no w6 w7 := (((Turn.refl no w6).alloc _).of_no.trans t7 (fun _ _ e => e) : Turn (fun q => q = w6.heap.size) w6 w7).mono (fun i hi e => by
      have e' : i = w6.heap.size := e
      omega)
    have T47 : Turn no w4 w7 := (F5.turn.then_no t6).then_no T67
    have R47 := R4.turn T47 (fun q => q)
    have RZ7 := RZ4.turn T47 (fun q => q)
    have T7 := T4.then_no T47
    have hi := HI.out w7 T7
    clear T67 T47 F5 t6 t7 RL4 RZ4 R4
    generalize w6.heap.size = g6 at *
    go_wp2_with (first | (guard_target =~ wpList _ _ _ ({ dst := some 26, op := Op.load 29 _, .. } :: _) _ _; refine wpList_load_row rfl 29 (.tmp 5) rfl g4 rfl 29 AH _ _ R47 Tryz.underlying29 rfl iA ?_) | (guard_target =~ wpList _ _ _ ({ dst := some 27, op := Op.load 29 _, .. } :: _) _ _; refine wpList_load_row rfl 29 (.tmp 6) rfl g6 rfl 29 RH _ _ R7 Tryz.underlying29 rfl iR ?_) | (go_at_call 29; refine hi.mono ?_; clear hi; rintro e w8 ⟨rfl, t8⟩; have RZ8 := RZ7.turn t8 (fun q => q)) | (guard_target =~ wpList _ _ _ ({ dst := _, op := Op.store 29 _ _, .. } :: _) _ _; refine wpList_store_row rfl 29 (.tmp 2) (.tmp 28) rfl (w.heap.size + 1) IH rfl rfl 29 Z RZ8 iI (by rw [hZ, sI]) oI ?_))
    refine bodyPost_ret (v := .tuple #[.agg IH, .int .i64 0]) ?_ rfl ⟨rfl, ((HT0.out.then_no T7).then_no t8).setRow _ _ (fun q => by omega)⟩
    exact results_cell_row_tmp (P := Tryz.prog) Tryz.results6 _ _ (w.heap.size + 1) 29 IH (0, 0) _ rfl (setRow_heap _ _ _ _ _ _ RZ8) Tryz.underlying29 rfl iI
  · rw [show lrH b s l r = z32 from if_neg he]
    have n1 : (ledE b l r s != 0) = true := by simpa using he
    have hne := he
    generalize ledE b l r s = E at *
    clear ha hr hl h2 hb hs he
    generalize hb32 z32 = Z at *
    generalize ldA va vr b s = LA at *
    have HT0 := shut T0
    go_enter Tryz.func6, Tryz.ntmps6
    go_upto_region 1 with fail
    try rw [hw0]
    clear hw0 hzv
    go_wp2_with (first | (guard_target =~ wpList _ _ _ ({ dst := _, op := Op.load 26 _, .. } :: _) _ _; refine wpList_load_row rfl 26 (.tmp 1) rfl w.heap.size rfl 26 LA _ _ RL Tryz.underlying26 rfl iL ?_) | (go_at_call 28; refine hsd.mono ?_; clear hsd; rintro e w1 ⟨rfl, t1⟩; have RZ1 := RZ.turn t1 (fun q => q)) | (guard_target =~ wpList _ _ _ ({ dst := _, op := Op.build 29 _, .. } :: _) _ _; refine wpList_buildG (by kernel_rfl) 29 rfl _ (hbd.out _) ?_) | (guard_target =~ wpList _ _ _ ({ dst := _, op := Op.store 29 _ _, .. } :: _) _ _; refine wpList_store_row rfl 29 (.tmp 2) (.tmp 11) rfl (w.heap.size + 1) Z rfl rfl 29 Z RZ1 iZ rfl oZ ?_))
    refine bodyPost_ret (v := .tuple #[.agg Z, .int .i64 E]) ?_ rfl ⟨rfl, (HT0.out.then_no t1).setRow _ _ (fun q => by omega)⟩
    exact results_cell_row_tmp (P := Tryz.prog) Tryz.results6 _ _ (w.heap.size + 1) 29 Z (0, 0) _ rfl (setRow_heap _ _ _ _ _ _ RZ1) Tryz.underlying29 rfl iZ
end Go.Proofs.YtlacfenenbblaaaGreatDoor

