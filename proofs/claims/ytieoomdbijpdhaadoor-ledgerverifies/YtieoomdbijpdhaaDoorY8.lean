/- Verify of the document. -/
import Derived.Test.YtieoomdbijpdhaaDoorY7
import Derived.Test.YtieoomdbijpdhaaDoorY4
namespace Go.Proofs.YtieoomdbijpdhaaDoor
open Go.RowKit
set_option linter.unusedVariables false

def dgE (X R : List UInt8) (a : Nat) (m n : Ac) (q s : Pf) : Int := if btB a m n q s = true then 20 else if tpE X R q m = 0 then verE (pathH q.t q.i q.A (formB m)) s.t s.i s.A (formB n) else tpE X R q m
set_option maxRecDepth 100000 in
set_option maxHeartbeats 16000000 in
theorem rver6_bad (w : World) (X R : List UInt8) (hX : X.length = 32) (hR : R.length = 32) (a : Nat) (a1 p1 : Option Addr) (na ca np cp : Nat) (hb : 2 < na ∨ np ≠ na) (hna : na ≤ 9223372036854775807) (hnp : np ≤ 9223372036854775807) :
    Calls Tryd.prog 6 #[.agg (hb32 X), .int .u64 a, .agg (wtL R (.slice a1 na ca) (.slice p1 np cp)).toArray] w fun e w' => e = .returned (.tuple #[.agg AZ, .bool false, .int .i64 20]) ∧ Turn no w w' := by
  have lW := wtL_len hR (.slice a1 na ca) (.slice p1 np cp)
  obtain ⟨w0, hw0⟩ : ∃ w0, ((w.alloc (.cells (hb32 X) 23)).alloc (.cells (wtL R (.slice a1 na ca) (.slice p1 np cp)).toArray 29)).alloc (.cells AZ 32) = w0 := ⟨_, rfl⟩
  have T0 : Turn no w w0 := by rw [← hw0]; exact (((Turn.refl no w).alloc _).alloc _).alloc _
  have RX : Row w0 w.heap.size (hb32 X) 23 := by rw [← hw0]; exact ((Row.new w _ 23).alloc _).alloc _
  have RW : Row w0 (w.heap.size + 1) (wtL R (.slice a1 na ca) (.slice p1 np cp)).toArray 29 := by rw [← hw0]; exact (Row.newAt _ _ _ _ (by simp)).alloc _
  have RZ : Row w0 (w.heap.size + 2) AZ 32 := by rw [← hw0]; exact Row.newAt _ _ _ _ (by simp)
  have y32 := RW.cell 32 _ (wtL_32 hR _ _)
  have y33 := RW.cell 33 _ (wtL_33 hR _ _)
  have iA0 := acs_info ac0
  have oA0 := acs_one ac0
  rw [show (acs ac0).toArray = AZ from rfl] at iA0 oA0
  have hz32 := zero32v
  have hbd := shut bld32v
  have HT0 := shut T0
  generalize AZ = AZ0 at *
  generalize hb32 X = XA at *
  generalize (wtL R (.slice a1 na ca) (.slice p1 np cp)).toArray = WA at *
  clear lW hR hX T0
  go_enter Tryd.func6, Tryd.ntmps6
  go_upto_region 1 with fail
  try rw [hw0]
  clear hw0
  by_cases h : 2 < na
  · have h' : (2 : Int) < (na : Int) := by omega
    clear hb
    go_wp2_with (first | (guard_target =~ wpList _ _ _ ({ dst := _, op := Op.build 32 _, .. } :: _) _ _; refine wpList_buildG (by kernel_rfl) 32 rfl _ (hbd.out _) ?_) | (guard_target =~ wpList _ _ _ ({ dst := _, op := Op.store 32 _ _, .. } :: _) _ _; refine wpList_store_anyN rfl rfl 32 (.tmp 6) (.tmp 29) rfl (w.heap.size + 2) AZ0 rfl rfl 32 AZ0 RZ iA0 rfl oA0 ?_; intro w9 R9 T9))
    refine bodyPost_ret (v := .tuple #[.agg AZ0, .bool false, .int .i64 20]) (results_c3 (P := Tryd.prog) Tryd.results6 _ _ (w.heap.size + 2) 32 AZ0 (0, 0) _ rfl R9 Tryd.underlying32 rfl iA0) rfl ⟨rfl, HT0.out.trans T9 (fun i hi q => by have q2 : i = w.heap.size + 2 := q; omega)⟩
  · have h' : ¬ (2 : Int) < (na : Int) := by omega
    have h2 : ((np : Int) != (na : Int)) = true := by
      have : np ≠ na := by omega
      simp
      omega
    clear hb
    go_wp2_with (first | (guard_target =~ wpList _ _ _ ({ dst := _, op := Op.build 32 _, .. } :: _) _ _; refine wpList_buildG (by kernel_rfl) 32 rfl _ (hbd.out _) ?_) | (guard_target =~ wpList _ _ _ ({ dst := _, op := Op.store 32 _ _, .. } :: _) _ _; refine wpList_store_anyN rfl rfl 32 (.tmp 6) (.tmp 29) rfl (w.heap.size + 2) AZ0 rfl rfl 32 AZ0 RZ iA0 rfl oA0 ?_; intro w9 R9 T9))
    refine bodyPost_ret (v := .tuple #[.agg AZ0, .bool false, .int .i64 20]) (results_c3 (P := Tryd.prog) Tryd.results6 _ _ (w.heap.size + 2) 32 AZ0 (0, 0) _ rfl R9 Tryd.underlying32 rfl iA0) rfl ⟨rfl, HT0.out.trans T9 (fun i hi q => by have q2 : i = w.heap.size + 2 := q; omega)⟩
set_option maxRecDepth 100000 in
set_option maxHeartbeats 16000000 in
theorem rver6_none (w : World) (hl : Laid0 w) (h2 : 2 ≤ w.heap.size) (X R : List UInt8) (hX : X.length = 32) (hR : R.length = 32) (a : Nat) (a1 p1 : Option Addr) (ca cp : Nat) :
    Calls Tryd.prog 6 #[.agg (hb32 X), .int .u64 a, .agg (wtL R (.slice a1 0 ca) (.slice p1 0 cp)).toArray] w fun e w' => e = .returned (.tuple #[.agg AZ, .bool false, .int .i64 (noE X R)]) ∧ Turn no w w' := by
  have lW := wtL_len hR (.slice a1 0 ca) (.slice p1 0 cp)
  obtain ⟨w0, hw0⟩ : ∃ w0, ((w.alloc (.cells (hb32 X) 23)).alloc (.cells (wtL R (.slice a1 0 ca) (.slice p1 0 cp)).toArray 29)).alloc (.cells AZ 32) = w0 := ⟨_, rfl⟩
  have T0 : Turn no w w0 := by rw [← hw0]; exact (((Turn.refl no w).alloc _).alloc _).alloc _
  have RX : Row w0 w.heap.size (hb32 X) 23 := by rw [← hw0]; exact ((Row.new w _ 23).alloc _).alloc _
  have RW : Row w0 (w.heap.size + 1) (wtL R (.slice a1 0 ca) (.slice p1 0 cp)).toArray 29 := by rw [← hw0]; exact (Row.newAt _ _ _ _ (by simp)).alloc _
  have RZ : Row w0 (w.heap.size + 2) AZ 32 := by rw [← hw0]; exact Row.newAt _ _ _ _ (by simp)
  have y32 := RW.cell 32 _ (wtL_32 hR _ _)
  have y33 := RW.cell 33 _ (wtL_33 hR _ _)
  have iA0 := acs_info ac0
  have oA0 := acs_one ac0
  rw [show (acs ac0).toArray = AZ from rfl] at iA0 oA0
  have hz32 := zero32v
  have hbd := shut bld32v
  have HT0 := shut T0
  have hlw : ∀ W, Turn no w0 W → Laid0 W ∧ 2 ≤ W.heap.size := fun W t => ⟨hl.turn (T0.then_no t) (fun q => q), by have := (T0.then_no t).size; omega⟩
  have lP := rootH_len []
  have HI : Shut (∀ W, Turn no w0 W → Calls Tryd.prog 14 #[.agg (hb32 (rootH [])), .agg (hb32 R)] W fun e w' => e = .returned (.agg (hb32 (inH (rootH []) R))) ∧ Turn no W w') := fun W t => inner14 W _ R lP hR (hlw W t).1 (hlw W t).2
  have lI : (inH (rootH []) R).length = 32 := hashOf_len _
  have HQ : Shut (∀ W, (Op.equalIn 10000 23 (.agg (hb32 (inH (rootH []) R))) (.agg (hb32 X))).run Tryd.prog W = .ok (inH (rootH []) R == X) W) := fun W => eqIn35 W _ _ lI hX
  have sZ := hb32_size z32_len
  have sP := hb32_size lP
  have oP := hb32_one ((rootH []))
  have iP := hb32_info lP
  have HPR : Shut (hb32 ((rootH [])) = (((rootH [])).map bv).toArray ∧ (Tryd.prog.info? 23).map (·.size) = some (((rootH [])).map bv).length) := ⟨rfl, by rw [List.length_map, lP]; exact size35⟩
  have iX : (Tryd.prog.info? 23).map (·.size) = some (X.map bv).length := by rw [List.length_map, hX]; exact size35
  have iR : (Tryd.prog.info? 23).map (·.size) = some (R.map bv).length := by rw [List.length_map, hR]; exact size35
  have HXR : Shut (hb32 X = (X.map bv).toArray ∧ hb32 R = (R.map bv).toArray) := ⟨rfl, rfl⟩
  have sZP : (hb32 z32).size = (hb32 ((rootH []))).size := by rw [sZ, sP]
  have hzv := zero35v
  have HCR : Shut (∀ W, Turn no w0 W → W.rangeAt (w.heap.size + 1) 0 (R.map bv) ∧ W.rangeAt w.heap.size 0 (X.map bv)) := fun W t =>
    ⟨fun j u hu => t.keep (RW.cell (0 + j) _ (wtL_R R _ _ j u hu)) (fun q => q), fun j u hu => by rw [Nat.zero_add]; exact t.keep (RX.cell j _ (by simpa [hb32] using hu)) (fun q => q)⟩
  have hr := rroot_nil w0 (hlw w0 (Turn.refl _ _)).1 (hlw w0 (Turn.refl _ _)).2
  have HE : Shut (noE X R = if (inH (rootH []) R == X) = true then 0 else 21) := rfl
  have HRZ := shut RZ
  clear hlw lP lI sZ sP hl h2
  generalize noE X R = NE at *
  generalize (inH (rootH []) R == X) = bb at *
  generalize hb32 (inH (rootH []) R) = IH at *
  generalize hb32 ((rootH [])) = PH at *
  generalize ((rootH [])).map bv = PHl at *
  generalize hb32 z32 = Z at *
  generalize AZ = AZ0 at *
  generalize hb32 X = XA at *
  generalize hb32 R = RA at *
  generalize X.map bv = XL at *
  generalize R.map bv = RL at *
  generalize (wtL R (.slice a1 0 ca) (.slice p1 0 cp)).toArray = WA at *
  clear lW hR hX T0 RX RW
  go_enter Tryd.func6, Tryd.ntmps6
  go_upto_region 1 with fail
  try rw [hw0]
  clear hw0
  go_upto_region 4 with fail
  go_upto_region 5 with (first | (go_at_call 13; refine hr.mono ?_; clear hr; rintro e w1 ⟨rfl, t1⟩) | (guard_target =~ wpList _ _ _ ({ dst := _, op := Op.store 23 _ _, .. } :: _) _ _; refine wpList_store_anyN rfl rfl 23 (.tmp 9) (.tmp 36) rfl w1.heap.size PH rfl rfl 23 Z (Row.new w1 Z 23) iP sZP oP ?_; intro w2 R2 t2))
  have T2 : Turn no w0 w2 := t1.trans (((Turn.refl (fun z => z = w1.heap.size) w1).alloc _).trans t2 (fun _ _ q => q)) (fun i hi q => by have q2 : i = w1.heap.size := q; have := t1.size; omega)
  generalize w1.heap.size = g at *
  have HT2 := shut T2
  clear t1 t2 T2 y32 y33 RZ
  have rP : w2.rangeAt g 0 PHl := by
    have := Row.rng R2
    rw [HPR.out.1] at this
    simpa using this
  have HR4 : Shut (∀ W, Turn no w2 W → W.rangeAt g 0 PHl ∧ W.rangeAt (w.heap.size + 1) 0 RL ∧ W.rangeAt w.heap.size 0 XL) := fun W t => ⟨fun j u hu => t.keep (rP j u hu) (fun q => q), (HCR.out W ((HT2.out).then_no t)).1, (HCR.out W ((HT2.out).then_no t)).2⟩
  have HIW : Shut (∀ W, Turn no w2 W → Calls Tryd.prog 14 #[.agg PH, .agg RA] W fun e w' => e = .returned (.agg IH) ∧ Turn no W w') := fun W t => HI.out W ((HT2.out).then_no t)
  have iPl := HPR.out.2
  have hQ := HQ.out
  clear rP
  go_upto_region 5 with fail
  refine wp_region_held_drew (S := fun W => Turn no w2 W) (by kernel_rfl) (Turn.refl no w2).drew (fun hHeld => ?_)
  refine' wpAnyH_take (i := 0) (v := .agg PH) rfl (by kernel_rfl) (by kernel_rfl) (by kernel_rfl) (fun _ _ _ h => h) (by rw [HPR.out.1]; exact yieldsIf_load_mid (by kernel_rfl) 23 (.tmp 9) rfl g (0) (by kernel_rfl) PHl _ (fun W h => (HR4.out W h).1) Tryd.underlying23 rfl iPl) hHeld ?q0
  refine' wpAnyH_take (i := 1) (v := .pointer (some ⟨w.heap.size + 1, 0, none⟩)) rfl (by kernel_rfl) (by kernel_rfl) (by kernel_rfl) (fun _ _ _ h => h) (Or.inl ⟨by kernel_rfl, fun W hW => ?y1⟩) hHeld ?r1
  · go_simp
  refine' wpAnyH_take (i := 2) (v := .agg RA) rfl (by kernel_rfl) (by kernel_rfl) (by kernel_rfl) (fun _ _ _ h => h) (by rw [HXR.out.2]; exact yieldsIf_load_mid (by kernel_rfl) 23 (.tmp 39) rfl (w.heap.size + 1) (0) (by kernel_rfl) RL _ (fun W h => (HR4.out W h).2.1) Tryd.underlying23 rfl iR) hHeld ?q2
  refine' wpAnyH_take (i := 4) (v := .agg XA) rfl (by kernel_rfl) (by kernel_rfl) (by kernel_rfl) (fun _ _ _ h => h) (by rw [HXR.out.1]; exact yieldsIf_load_mid (by kernel_rfl) 23 (.tmp 3) rfl w.heap.size (0) (by kernel_rfl) XL _ (fun W h => (HR4.out W h).2.2) Tryd.underlying23 rfl iX) hHeld ?q4
  refine wpAnyH_ready (rs := [3]) (by kernel_rfl) (by simp) ?_
  refine AllReadyH.cons rfl (fun K hK => ?_) AllReadyH.nil
  go_simp
  refine (HIW.out _ hHeld).mono ?_
  rintro e wd ⟨rfl, td⟩
  refine hK.out _ _ (hHeld.then_no td) (fun hHeld => ?_)
  clear hK
  refine' wpAnyH_take (i := 5) (v := .bool (!bb)) rfl (by kernel_rfl) (by kernel_rfl) (by kernel_rfl) (fun _ _ _ h => h) (Or.inl ⟨by kernel_rfl, fun W hW => ?y2⟩) hHeld ?r2
  · go_simp
  refine wpAnyH_done (by kernel_rfl) ?_ _
  go_simp
  have HD := shut hHeld
  clear hHeld HR4 HIW hQ
  have RZd := Row.turn HRZ.out (HT2.out.then_no HD.out) (fun q => q)
  cases bb with
  | true =>
    go_wp2_with (first | (guard_target =~ wpList _ _ _ ({ dst := _, op := Op.build 32 _, .. } :: _) _ _; refine wpList_buildG (by kernel_rfl) 32 rfl _ (hbd.out _) ?_) | (guard_target =~ wpList _ _ _ ({ dst := _, op := Op.store 32 _ _, .. } :: _) _ _; refine wpList_store_anyN rfl rfl 32 (.tmp 6) (.tmp 45) rfl (w.heap.size + 2) AZ0 rfl rfl 32 AZ0 RZd iA0 rfl oA0 ?_; intro w9 R9 T9))
    refine bodyPost_ret (v := .tuple #[.agg AZ0, .bool false, .int .i64 0]) (results_c3 (P := Tryd.prog) Tryd.results6 _ _ (w.heap.size + 2) 32 AZ0 (0, 0) _ rfl R9 Tryd.underlying32 rfl iA0) rfl ⟨by rw [HE.out]; rfl, (HT0.out.then_no (HT2.out.then_no HD.out)).trans T9 (fun i hi q => by have q2 : i = w.heap.size + 2 := q; omega)⟩
  | false =>
    go_wp2_with (first | (guard_target =~ wpList _ _ _ ({ dst := _, op := Op.build 32 _, .. } :: _) _ _; refine wpList_buildG (by kernel_rfl) 32 rfl _ (hbd.out _) ?_) | (guard_target =~ wpList _ _ _ ({ dst := _, op := Op.store 32 _ _, .. } :: _) _ _; refine wpList_store_anyN rfl rfl 32 (.tmp 6) (.tmp 44) rfl (w.heap.size + 2) AZ0 rfl rfl 32 AZ0 RZd iA0 rfl oA0 ?_; intro w9 R9 T9))
    refine bodyPost_ret (v := .tuple #[.agg AZ0, .bool false, .int .i64 21]) (results_c3 (P := Tryd.prog) Tryd.results6 _ _ (w.heap.size + 2) 32 AZ0 (0, 0) _ rfl R9 Tryd.underlying32 rfl iA0) rfl ⟨by rw [HE.out]; rfl, (HT0.out.then_no (HT2.out.then_no HD.out)).trans T9 (fun i hi q => by have q2 : i = w.heap.size + 2 := q; omega)⟩
end Go.Proofs.YtieoomdbijpdhaaDoor
