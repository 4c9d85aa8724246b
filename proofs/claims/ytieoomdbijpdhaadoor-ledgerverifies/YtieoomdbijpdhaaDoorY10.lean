/- Verify of the document, two accounts. -/
import Derived.Test.YtieoomdbijpdhaaDoorY8
namespace Go.Proofs.YtieoomdbijpdhaaDoor
open Go.RowKit
set_option linter.unusedVariables false

set_option maxRecDepth 100000 in
set_option maxHeartbeats 16000000 in
theorem rver6_two (w : World) (hl : Laid0 w) (h2 : 2 ≤ w.heap.size) (X R : List UInt8) (hX : X.length = 32) (hR : R.length = 32) (a : Nat) (va vp : Value) (m n : Ac) (q s : Pf) (ha : As w va [m, n]) (hq : Qs w vp [q, s]) :
    Calls Tryd.prog 6 #[.agg (hb32 X), .int .u64 a, .agg (wtL R va vp).toArray] w fun e w' => e = .returned (.tuple #[.agg AZ, .bool false, .int .i64 (dgE X R a m n q s)]) ∧ Turn no w w' := by
  have HBT : Shut (∀ W, Turn no w W → Calls Tryd.prog 15 #[.agg (wtL R va vp).toArray, .int .u64 a] W fun e w' => e = .returned (.int .i64 (btE a m n q s)) ∧ Turn no W w') := fun W t => between15 W R hR a va vp m n [] q s [] (ha.turn_no t) (by obtain ⟨p, c, e, h⟩ := hq; exact ⟨p, c, e, h.turn_no t⟩)
  obtain ⟨a0, ca, rfl, hA⟩ := ha
  obtain ⟨p0, cp, rfl, hQ⟩ := hq
  have HO : Shut m.ok := hA.ok m (by simp)
  obtain ⟨ab, ao, rfl, ra⟩ := hA.range 0 m rfl
  obtain ⟨pb, po, a', c', e1, hs, rp⟩ := hQ.cells 0 q rfl
  cases e1
  rw [Nat.zero_mul, Nat.add_zero] at ra rp
  have HON : Shut n.ok := hA.ok n (by simp)
  obtain ⟨ab1, ao1, e0, rn⟩ := hA.range 1 n rfl
  cases e0
  obtain ⟨pb1, po1, b', d', e2, hs2, rs⟩ := hQ.cells 1 s rfl
  cases e2
  rw [Nat.one_mul] at rn rs
  rw [show ([m, n] : List Ac).length = 2 from rfl, show ([q, s] : List Pf).length = 2 from rfl] at HBT ⊢
  have lW := wtL_len hR (.slice (some ⟨ab, ao, none⟩) 2 ca) (.slice (some ⟨pb, po, none⟩) 2 cp)
  obtain ⟨w0, hw0⟩ : ∃ w0, ((w.alloc (.cells (hb32 X) 23)).alloc (.cells (wtL R (.slice (some ⟨ab, ao, none⟩) 2 ca) (.slice (some ⟨pb, po, none⟩) 2 cp)).toArray 29)).alloc (.cells AZ 32) = w0 := ⟨_, rfl⟩
  have T0 : Turn no w w0 := by rw [← hw0]; exact (((Turn.refl no w).alloc _).alloc _).alloc _
  have RX : Row w0 w.heap.size (hb32 X) 23 := by rw [← hw0]; exact ((Row.new w _ 23).alloc _).alloc _
  have RW : Row w0 (w.heap.size + 1) (wtL R (.slice (some ⟨ab, ao, none⟩) 2 ca) (.slice (some ⟨pb, po, none⟩) 2 cp)).toArray 29 := by rw [← hw0]; exact (Row.newAt _ _ _ _ (by simp)).alloc _
  have RZ : Row w0 (w.heap.size + 2) AZ 32 := by rw [← hw0]; exact Row.newAt _ _ _ _ (by simp)
  have y32 := RW.cell 32 _ (wtL_32 hR _ _)
  have y33 := RW.cell 33 _ (wtL_33 hR _ _)
  have iA0 := acs_info ac0
  have oA0 := acs_one ac0
  rw [show (acs ac0).toArray = AZ from rfl] at iA0 oA0
  have hz32 := zero32v
  have hbd := shut bld32v
  have HT0 := shut T0
  have hlw : ∀ W, Turn no w0 W → Laid0 W ∧ 2 ≤ W.heap.size := fun W t => ⟨hl.turn (T0.then_no t) (fun q => q), by have := (T0.then_no t).size; omega⟩
  have lP := pathH_len q.t q.i q.A (formB m)
  have HI : Shut (∀ W, Turn no w0 W → Calls Tryd.prog 14 #[.agg (hb32 (pathH q.t q.i q.A (formB m))), .agg (hb32 R)] W fun e w' => e = .returned (.agg (hb32 (inH (pathH q.t q.i q.A (formB m)) R))) ∧ Turn no W w') := fun W t => inner14 W _ R lP hR (hlw W t).1 (hlw W t).2
  have lI : (inH (pathH q.t q.i q.A (formB m)) R).length = 32 := hashOf_len _
  have HQ : Shut (∀ W, (Op.equalIn 10000 23 (.agg (hb32 (inH (pathH q.t q.i q.A (formB m)) R))) (.agg (hb32 X))).run Tryd.prog W = .ok (inH (pathH q.t q.i q.A (formB m)) R == X) W) := fun W => eqIn35 W _ _ lI hX
  have sZ := hb32_size z32_len
  have sP := hb32_size lP
  have oP := hb32_one ((pathH q.t q.i q.A (formB m)))
  have iP := hb32_info lP
  have HPR : Shut (hb32 ((pathH q.t q.i q.A (formB m))) = (((pathH q.t q.i q.A (formB m))).map bv).toArray ∧ (Tryd.prog.info? 23).map (·.size) = some (((pathH q.t q.i q.A (formB m))).map bv).length) := ⟨rfl, by rw [List.length_map, lP]; exact size35⟩
  have iX : (Tryd.prog.info? 23).map (·.size) = some (X.map bv).length := by rw [List.length_map, hX]; exact size35
  have iR : (Tryd.prog.info? 23).map (·.size) = some (R.map bv).length := by rw [List.length_map, hR]; exact size35
  have HXR : Shut (hb32 X = (X.map bv).toArray ∧ hb32 R = (R.map bv).toArray) := ⟨rfl, rfl⟩
  have sZP : (hb32 z32).size = (hb32 ((pathH q.t q.i q.A (formB m)))).size := by rw [sZ, sP]
  have hzv := zero35v
  have HCR : Shut (∀ W, Turn no w0 W → W.rangeAt (w.heap.size + 1) 0 (R.map bv) ∧ W.rangeAt w.heap.size 0 (X.map bv)) := fun W t =>
    ⟨fun j u hu => t.keep (RW.cell (0 + j) _ (wtL_R R _ _ j u hu)) (fun q => q), fun j u hu => by rw [Nat.zero_add]; exact t.keep (RX.cell j _ (by simpa [hb32] using hu)) (fun q => q)⟩
  have HP : Shut (∀ W v, Turn no w0 W → Bs W v (formB m) → Calls Tryd.prog 16 #[.agg (pfC q a' c').toArray, v] W fun e w' => e = .returned (.tuple #[.agg (hb32 (pathH q.t q.i q.A (formB m))), .int .i64 (pathE q.t q.i q.A.length 33)]) ∧ Turn no W w') := fun W v t hb => by
    have := rpath27 W q.t q.i q.A a' c' (hs.turn_no (T0.then_no t)) v (formB m) hb (hlw W t).1 (hlw W t).2
    rw [formB_len] at this
    exact this
  have F17 : Shut (∀ W, Calls Tryd.prog 17 #[.agg (acs m).toArray] W fun e w' => ∃ v, e = .returned v ∧ Fr W w' v (formB m)) := fun W => rform17 W m HO.out
  have HTE : Shut (tpE X R q m = if pathE q.t q.i q.A.length 33 = 0 then (if (inH (pathH q.t q.i q.A (formB m)) R == X) = true then 0 else 21) else pathE q.t q.i q.A.length 33) := rfl
  have HV : Shut (∀ W v, Turn no w0 W → Bs W v (formB n) → Calls Tryd.prog 18 #[.agg (hb32 (pathH q.t q.i q.A (formB m))), .agg (pfC s b' d').toArray, v] W fun e w' => e = .returned (.int .i64 (verE (pathH q.t q.i q.A (formB m)) s.t s.i s.A (formB n))) ∧ Turn no W w') := fun W v t hb => rverify28 W (pathH q.t q.i q.A (formB m)) lP s.t s.i s.A b' d' (hs2.turn_no (T0.then_no t)) v (formB n) hb (hlw W t).1 (hlw W t).2
  have G17 : Shut (∀ W, Calls Tryd.prog 17 #[.agg (acs n).toArray] W fun e w' => ∃ v, e = .returned v ∧ Fr W w' v (formB n)) := fun W => rform17 W n HON.out
  have HE : Shut (dgE X R a m n q s = if btB a m n q s = true then 20 else if tpE X R q m = 0 then verE (pathH q.t q.i q.A (formB m)) s.t s.i s.A (formB n) else tpE X R q m) := rfl
  have HBE : Shut (btE a m n q s = if btB a m n q s = true then 20 else 0) := rfl
  have HC2 : Shut (∀ W, Turn no w0 W → W.cell? ⟨w.heap.size + 1, 32, none⟩ = some (.slice (some ⟨ab, ao, none⟩) 2 ca) ∧ W.cell? ⟨w.heap.size + 1, 33, none⟩ = some (.slice (some ⟨pb, po, none⟩) 2 cp) ∧ W.rangeAt ab (ao + 5) (acs n) ∧ W.rangeAt pb (po + 3) (pfC s b' d')) := fun W t =>
    ⟨t.keep y32 (fun q => q), t.keep y33 (fun q => q), fun j u hu => (T0.then_no t).keep (rn j u hu) (fun q => q), fun j u hu => (T0.then_no t).keep (rs j u hu) (fun q => q)⟩
  have zS : (Tryd.prog.info? 57).map (·.size) = some (pfC s b' d').length := size57
  have zN : (Tryd.prog.info? 32).map (·.size) = some (acs n).length := size32a
  have cA : w0.rangeAt ab ao (acs m) := fun j u hu => T0.keep (ra j u hu) (fun q => q)
  have HcP : Shut (∀ W, Turn no w0 W → W.rangeAt pb po (pfC q a' c')) := fun W t j u hu => (T0.then_no t).keep (rp j u hu) (fun q => q)
  have iW : (Tryd.prog.info? 29).map (·.size) = some (wtL R (.slice (some ⟨ab, ao, none⟩) 2 ca) (.slice (some ⟨pb, po, none⟩) 2 cp)).toArray.size := by rw [List.size_toArray, lW]; exact size29w
  have iM := acs_info m
  have oM := acs_one m
  have sM : AZ.size = (acs m).toArray.size := rfl
  have iPf := pfC_info q a' c'
  have oPf := pfC_one q a' c'
  have sPf : ZQ.size = (pfC q a' c').toArray.size := rfl
  have zP : (Tryd.prog.info? 57).map (·.size) = some (pfC q a' c').length := size57
  have zM : (Tryd.prog.info? 32).map (·.size) = some (acs m).length := size32a
  have HM0 : Shut ((acs m).toArray[(0 : Nat)]? = some (.int .u64 m.ad)) := rfl
  have HP0 : Shut ((pfC q a' c').toArray[(0 : Nat)]? = some (.int .i64 q.t) ∧ (pfC q a' c').toArray[(1 : Nat)]? = some (.int .i64 q.i)) := ⟨rfl, rfl⟩
  have hz57 := zero57v
  have HRZ := shut RZ
  have HRW := shut RW
  have Y32 := HC2.out w0 (Turn.refl _ _)
  clear hs2 rn rs hs rp ra hA hQ hlw lP lI sZ sP hl h2 RZ
  generalize dgE X R a m n q s = EE at *
  generalize btE a m n q s = BE at *
  generalize btB a m n q s = BB at *
  generalize verE (pathH q.t q.i q.A (formB m)) s.t s.i s.A (formB n) = VE at *
  generalize pfC s b' d' = SL at *
  generalize acs n = NL at *
  generalize tpE X R q m = TE at *
  generalize pathE q.t q.i q.A.length 33 = pe at *
  generalize (inH (pathH q.t q.i q.A (formB m)) R == X) = bb at *
  generalize hb32 (inH (pathH q.t q.i q.A (formB m)) R) = IH at *
  generalize hb32 ((pathH q.t q.i q.A (formB m))) = PH at *
  generalize ((pathH q.t q.i q.A (formB m))).map bv = PHl at *
  generalize hb32 z32 = Z at *
  generalize AZ = AZ0 at *
  generalize hb32 X = XA at *
  generalize hb32 R = RA at *
  generalize X.map bv = XL at *
  generalize R.map bv = RL at *
  generalize ZQ = ZQ0 at *
  generalize q.i = qi at *
  generalize q.t = qt at *
  generalize pfC q a' c' = PL at *
  generalize acs m = ML at *
  generalize m.ad = md at *
  obtain ⟨P0, hP0⟩ : ∃ A, PL.toArray = A := ⟨_, rfl⟩
  obtain ⟨M0, hM0⟩ : ∃ A, ML.toArray = A := ⟨_, rfl⟩
  rw [hP0] at iPf oPf sPf HP0 HP
  rw [hM0] at iM oM sM HM0 F17
  have HPL := shut hP0
  have HML := shut hM0
  clear hP0 hM0
  obtain ⟨S0, hS0⟩ : ∃ A, SL.toArray = A := ⟨_, rfl⟩
  obtain ⟨N0, hN0⟩ : ∃ A, NL.toArray = A := ⟨_, rfl⟩
  rw [hS0] at HV
  rw [hN0] at G17
  have HSL := shut hS0
  have HNL := shut hN0
  clear hS0 hN0
  generalize (wtL R (.slice (some ⟨ab, ao, none⟩) 2 ca) (.slice (some ⟨pb, po, none⟩) 2 cp)).toArray = WA at *
  clear lW hR hX T0 RX RW
  go_enter Tryd.func6, Tryd.ntmps6
  go_upto_region 1 with fail
  try rw [hw0]
  clear hw0
  go_upto_region 8 with fail
  go_upto_region 9 with (first | (guard_target =~ wpList _ _ _ ({ dst := some 49, .. } :: _) _ _; refine wpList_load_mid rfl 32 (.tmp 48) rfl ab ao rfl ML _ cA Tryd.underlying32 rfl zM ?_; rw [HML.out]) | (guard_target =~ wpList _ _ _ ({ dst := _, op := Op.store 32 _ _, .. } :: _) _ _; refine wpList_store_anyN rfl rfl 32 (.tmp 11) (.tmp 49) rfl w0.heap.size M0 rfl rfl 32 AZ0 (Row.new w0 AZ0 32) iM sM oM ?_; intro u1 R1 t1))
  have T1 : Turn no w0 u1 := (((Turn.refl (fun z => z = w0.heap.size) w0).alloc _).trans t1 (fun _ _ q => q)).mono (fun i hi q => by have q2 : i = w0.heap.size := q; omega)
  have gm1 := R1.lt
  generalize w0.heap.size = gm at *
  have z33 := T1.keep y33 (fun q => q)
  have cP := HcP.out u1 T1
  clear t1 y33 cA
  go_upto_region 10 with (first | (guard_target =~ wpList _ _ _ ({ dst := some 53, .. } :: _) _ _; refine wpList_load_mid rfl 57 (.tmp 52) rfl pb po rfl PL _ cP Tryd.underlying57 rfl zP ?_; rw [HPL.out]) | (guard_target =~ wpList _ _ _ ({ dst := _, op := Op.store 57 _ _, .. } :: _) _ _; refine wpList_store_anyN rfl rfl 57 (.tmp 12) (.tmp 53) rfl u1.heap.size P0 rfl rfl 57 ZQ0 (Row.new u1 ZQ0 57) iPf sPf oPf ?_; intro u2 R2 t2))
  have T12 : Turn no u1 u2 := (((Turn.refl (fun z => z = u1.heap.size) u1).alloc _).trans t2 (fun _ _ q => q)).mono (fun i hi q => by have q2 : i = u1.heap.size := q; omega)
  have R1 := Row.turn R1 T12 (fun q => q)
  have T2 := T1.then_no T12
  generalize u1.heap.size = gp at *
  have x32 := T2.keep y32 (fun q => q)
  have HT2 := shut T2
  have HR := shut (And.intro R1 R2)
  have c0 := R1.cell 0 _ HM0.out
  have d0 := R2.cell 0 _ HP0.out.1
  have d1 := R2.cell 1 _ HP0.out.2
  clear t2 T12 T1 T2 R1 R2 z33 cP y32 gm1 sPf oPf iPf hz57 HcP Y32
  have RWu := Row.turn HRW.out HT2.out (fun q => q)
  have RZu := Row.turn HRZ.out HT2.out (fun q => q)
  have K15 := HBT.out u2 (HT0.out.then_no HT2.out)
  go_upto_region 12 with (first | (guard_target =~ wpList _ _ _ ({ dst := some 58, .. } :: _) _ _; refine wpList_load_row rfl 29 (.tmp 5) rfl (w.heap.size + 1) rfl 29 WA _ _ RWu Tryd.underlying29 rfl iW ?_) | (go_at_call 15; refine K15.mono ?_; clear K15; rintro e u3 ⟨rfl, t3⟩))
  have RZu := Row.turn RZu t3 (fun q => q)
  have HR := shut (And.intro (Row.turn HR.out.1 t3 (fun q => q)) (Row.turn HR.out.2 t3 (fun q => q)))
  have HT3 := shut (HT2.out.then_no t3)
  clear t3 RWu c0 d0 d1 x32 HT2
  cases BB with
  | true =>
    have eb : BE = 20 := by rw [HBE.out]; rfl
    rw [eb]
    go_wp2_with (first | (guard_target =~ wpList _ _ _ ({ dst := _, op := Op.build 32 _, .. } :: _) _ _; refine wpList_buildG (by kernel_rfl) 32 rfl _ (hbd.out _) ?_) | (guard_target =~ wpList _ _ _ ({ dst := _, op := Op.store 32 _ _, .. } :: _) _ _; refine wpList_store_anyN rfl rfl 32 (.tmp 6) (.tmp 63) rfl (w.heap.size + 2) AZ0 rfl rfl 32 AZ0 RZu iA0 rfl oA0 ?_; intro w9 R9 T9))
    refine bodyPost_ret (v := .tuple #[.agg AZ0, .bool false, .int .i64 20]) (results_c3 (P := Tryd.prog) Tryd.results6 _ _ (w.heap.size + 2) 32 AZ0 (0, 0) _ rfl R9 Tryd.underlying32 rfl iA0) rfl ⟨by rw [HE.out]; rfl, (HT0.out.then_no HT3.out).trans T9 (fun i hi q => by have q2 : i = w.heap.size + 2 := q; omega)⟩
  | false =>
    have eb : BE = 0 := by rw [HBE.out]; rfl
    rw [eb]
    go_upto_region 16 with fail
    go_cut [14, 15] from 89 to 95 (fun x y wx => ∃ g, x = .pointer (some ⟨g, 0, none⟩) ∧ y = .int .i64 pe ∧ Shut (Row wx g PH 23 ∧ Turn no u3 wx))
    case first =>
      have HRR : Shut (∀ W, Turn no u3 W → W.rangeAt gp 0 PL ∧ W.rangeAt gm 0 ML) := fun W t => by
        have h1 := Row.rng (Row.turn HR.out.2 t (fun q => q))
        have h2 := Row.rng (Row.turn HR.out.1 t (fun q => q))
        rw [← HPL.out] at h1
        rw [← HML.out] at h2
        exact ⟨by simpa using h1, by simpa using h2⟩
      refine wp_region_held_drew (S := fun W => Turn no u3 W) (by kernel_rfl) (Turn.refl no u3).drew (fun hHeld => ?_)
      refine' wpAnyH_take (i := 0) (v := .agg P0) rfl (by kernel_rfl) (by kernel_rfl) (by kernel_rfl) (fun _ _ _ h => h) (by rw [← HPL.out]; exact yieldsIf_load_mid (by kernel_rfl) 57 (.tmp 12) rfl gp (0) (by kernel_rfl) PL _ (fun W h => (HRR.out W h).1) Tryd.underlying57 rfl zP) hHeld ?s0
      refine' wpAnyH_take (i := 1) (v := .agg M0) rfl (by kernel_rfl) (by kernel_rfl) (by kernel_rfl) (fun _ _ _ h => h) (by rw [← HML.out]; exact yieldsIf_load_mid (by kernel_rfl) 32 (.tmp 11) rfl gm (0) (by kernel_rfl) ML _ (fun W h => (HRR.out W h).2) Tryd.underlying32 rfl zM) hHeld ?s1
      obtain ⟨X0, hX0⟩ : ∃ X, u3.drew = X := ⟨_, rfl⟩
      rw [hX0] at hHeld ⊢
      clear hX0
      refine wpAnyH_ready (rs := [2, 7]) (by kernel_rfl) (by simp) ?_
      refine AllReadyH.cons rfl (fun K hK => ?_) (AllReadyH.cons rfl (fun K hK => ?_) AllReadyH.nil)
      · skip
        go_simp
        refine (F17.out _).mono ?_
        rintro e X1 ⟨v1, rfl, F1⟩
        have O1 := F1.own.bs
        obtain ⟨a1, l1, c1, rfl⟩ := F1.form
        refine hK.out _ _ (hHeld.then_no F1.turn) (fun hHeld => ?_)
        clear hK
        have O8 := O1
        refine wpAnyH_ready (rs := [3, 7]) (by kernel_rfl) (by simp) ?_
        refine AllReadyH.cons rfl (fun K hK => ?_) (AllReadyH.cons rfl (fun K hK => ?_) AllReadyH.nil)
        · skip
          go_simp
          refine (HP.out _ _ (HT3.out.then_no hHeld) O8).mono ?_
          rintro e X2 ⟨rfl, t2⟩
          refine hK.out _ _ (hHeld.then_no t2) (fun hHeld => ?_)
          clear hK
          have O8 := O8.turn_no t2
          refine' wpAnyH_take (i := 4) (v := .tuple #[.agg PH, .int .i64 pe]) rfl (by kernel_rfl) (by kernel_rfl) (by kernel_rfl) (fun _ _ _ h => h) (Or.inl ⟨by kernel_rfl, fun W hW => ?y1⟩) hHeld ?r1
          · go_simp
          refine' wpAnyH_take (i := 5) (v := .agg PH) rfl (by kernel_rfl) (by kernel_rfl) (by kernel_rfl) (fun _ _ _ h => h) (Or.inl ⟨by kernel_rfl, fun W hW => ?y2⟩) hHeld ?r2
          · go_simp
          refine' wpAnyH_take (i := 6) (v := .int .i64 pe) rfl (by kernel_rfl) (by kernel_rfl) (by kernel_rfl) (fun _ _ _ h => h) (Or.inl ⟨by kernel_rfl, fun W hW => ?y3⟩) hHeld ?r3
          · go_simp
          refine wpAnyH_ready (rs := [7]) (by kernel_rfl) (by simp) ?_
          refine AllReadyH.cons rfl (fun K hK => ?_) AllReadyH.nil
          go_simp
          have hs3 := hHeld.size
          refine hK.out _ _ (hHeld.alloc _) (fun hHeld => ?_)
          clear hK
          obtain ⟨X3, hX3⟩ : ∃ X, X2.alloc (.cells Z 23) = X := ⟨_, rfl⟩
          have r3 : Row X3 X2.heap.size Z 23 := by rw [← hX3]; exact Row.new X2 _ _
          have O8 := O8.turn_no ((Turn.refl no X2).alloc (.cells Z 23))
          rw [hX3] at O8
          rw [hX3] at hHeld ⊢
          clear hX3
          generalize X2.heap.size = g3 at *
          refine wpAnyH_ready (rs := [8]) (by kernel_rfl) (by simp) ?_
          refine AllReadyH.cons rfl (fun K hK => ?_) AllReadyH.nil
          rw [if_pos (by rfl)]
          refine wp_store_row 23 _ _ rfl g3 PH rfl rfl 23 Z r3 iP sZP oP ?_
          have r3 : Row (X3.setRow g3 PH) g3 PH 23 := setRow_heap X3 g3 _ PH 23 _ r3
          have T4 : Turn no u3 (X3.setRow g3 PH) := hHeld.setRow g3 PH (fun q => by omega)
          refine hK.out _ _ T4 (fun hHeld => ?_)
          clear hK
          clear T4
          obtain ⟨Y4, hY4⟩ : ∃ X, X3.setRow g3 PH = X := ⟨_, rfl⟩
          rw [hY4] at r3 hHeld ⊢
          clear hY4
          refine' wpAnyH_take (i := 9) (v := .int .i64 pe) rfl (by kernel_rfl) (by kernel_rfl) (by kernel_rfl) (fun _ _ _ h => h) (Or.inl ⟨by kernel_rfl, fun W hW => ?y4⟩) hHeld ?r4
          · go_simp
          refine wpAnyH_done (by kernel_rfl) ?_ _
          go_simp
          go_wp2_with fail
          go_meet
          case rel => exact ⟨g3, rfl, rfl, ⟨r3, hHeld⟩⟩
        · skip
          go_simp
          have hs5 := hHeld.size
          refine hK.out _ _ (hHeld.alloc _) (fun hHeld => ?_)
          clear hK
          obtain ⟨X5, hX5⟩ : ∃ X, X1.alloc (.cells Z 23) = X := ⟨_, rfl⟩
          have r5 : Row X5 X1.heap.size Z 23 := by rw [← hX5]; exact Row.new X1 _ _
          have O8 := O8.turn_no ((Turn.refl no X1).alloc (.cells Z 23))
          rw [hX5] at O8
          rw [hX5] at hHeld ⊢
          clear hX5
          generalize X1.heap.size = g5 at *
          refine wpAnyH_ready (rs := [3]) (by kernel_rfl) (by simp) ?_
          refine AllReadyH.cons rfl (fun K hK => ?_) AllReadyH.nil
          go_simp
          refine (HP.out _ _ (HT3.out.then_no hHeld) O8).mono ?_
          rintro e X6 ⟨rfl, t6⟩
          refine hK.out _ _ (hHeld.then_no t6) (fun hHeld => ?_)
          clear hK
          have r5 := Row.turn r5 t6 (fun q => q)
          have O8 := O8.turn_no t6
          refine' wpAnyH_take (i := 4) (v := .tuple #[.agg PH, .int .i64 pe]) rfl (by kernel_rfl) (by kernel_rfl) (by kernel_rfl) (fun _ _ _ h => h) (Or.inl ⟨by kernel_rfl, fun W hW => ?y5⟩) hHeld ?r5
          · go_simp
          refine' wpAnyH_take (i := 5) (v := .agg PH) rfl (by kernel_rfl) (by kernel_rfl) (by kernel_rfl) (fun _ _ _ h => h) (Or.inl ⟨by kernel_rfl, fun W hW => ?y6⟩) hHeld ?r6
          · go_simp
          refine' wpAnyH_take (i := 6) (v := .int .i64 pe) rfl (by kernel_rfl) (by kernel_rfl) (by kernel_rfl) (fun _ _ _ h => h) (Or.inl ⟨by kernel_rfl, fun W hW => ?y7⟩) hHeld ?r7
          · go_simp
          refine wpAnyH_ready (rs := [8]) (by kernel_rfl) (by simp) ?_
          refine AllReadyH.cons rfl (fun K hK => ?_) AllReadyH.nil
          rw [if_pos (by rfl)]
          refine wp_store_row 23 _ _ rfl g5 PH rfl rfl 23 Z r5 iP sZP oP ?_
          have r5 : Row (X6.setRow g5 PH) g5 PH 23 := setRow_heap X6 g5 _ PH 23 _ r5
          have T7 : Turn no u3 (X6.setRow g5 PH) := hHeld.setRow g5 PH (fun q => by omega)
          refine hK.out _ _ T7 (fun hHeld => ?_)
          clear hK
          clear T7
          obtain ⟨Y7, hY7⟩ : ∃ X, X6.setRow g5 PH = X := ⟨_, rfl⟩
          rw [hY7] at r5 hHeld ⊢
          clear hY7
          refine' wpAnyH_take (i := 9) (v := .int .i64 pe) rfl (by kernel_rfl) (by kernel_rfl) (by kernel_rfl) (fun _ _ _ h => h) (Or.inl ⟨by kernel_rfl, fun W hW => ?y8⟩) hHeld ?r8
          · go_simp
          refine wpAnyH_done (by kernel_rfl) ?_ _
          go_simp
          go_wp2_with fail
          go_meet
          case rel => exact ⟨g5, rfl, rfl, ⟨r5, hHeld⟩⟩
      · skip
        go_simp
        have hs8 := hHeld.size
        refine hK.out _ _ (hHeld.alloc _) (fun hHeld => ?_)
        clear hK
        obtain ⟨X8, hX8⟩ : ∃ X, X0.alloc (.cells Z 23) = X := ⟨_, rfl⟩
        have r8 : Row X8 X0.heap.size Z 23 := by rw [← hX8]; exact Row.new X0 _ _
        rw [hX8] at hHeld ⊢
        clear hX8
        generalize X0.heap.size = g8 at *
        refine wpAnyH_ready (rs := [2]) (by kernel_rfl) (by simp) ?_
        refine AllReadyH.cons rfl (fun K hK => ?_) AllReadyH.nil
        go_simp
        refine (F17.out _).mono ?_
        rintro e X9 ⟨v9, rfl, F9⟩
        have O9 := F9.own.bs
        obtain ⟨a9, l9, c9, rfl⟩ := F9.form
        refine hK.out _ _ (hHeld.then_no F9.turn) (fun hHeld => ?_)
        clear hK
        have r8 := Row.turn r8 F9.turn (fun q => q)
        have O8 := O9
        refine wpAnyH_ready (rs := [3]) (by kernel_rfl) (by simp) ?_
        refine AllReadyH.cons rfl (fun K hK => ?_) AllReadyH.nil
        go_simp
        refine (HP.out _ _ (HT3.out.then_no hHeld) O8).mono ?_
        rintro e X10 ⟨rfl, t10⟩
        refine hK.out _ _ (hHeld.then_no t10) (fun hHeld => ?_)
        clear hK
        have r8 := Row.turn r8 t10 (fun q => q)
        have O8 := O8.turn_no t10
        refine' wpAnyH_take (i := 4) (v := .tuple #[.agg PH, .int .i64 pe]) rfl (by kernel_rfl) (by kernel_rfl) (by kernel_rfl) (fun _ _ _ h => h) (Or.inl ⟨by kernel_rfl, fun W hW => ?y9⟩) hHeld ?r9
        · go_simp
        refine' wpAnyH_take (i := 5) (v := .agg PH) rfl (by kernel_rfl) (by kernel_rfl) (by kernel_rfl) (fun _ _ _ h => h) (Or.inl ⟨by kernel_rfl, fun W hW => ?y10⟩) hHeld ?r10
        · go_simp
        refine' wpAnyH_take (i := 6) (v := .int .i64 pe) rfl (by kernel_rfl) (by kernel_rfl) (by kernel_rfl) (fun _ _ _ h => h) (Or.inl ⟨by kernel_rfl, fun W hW => ?y11⟩) hHeld ?r11
        · go_simp
        refine wpAnyH_ready (rs := [8]) (by kernel_rfl) (by simp) ?_
        refine AllReadyH.cons rfl (fun K hK => ?_) AllReadyH.nil
        rw [if_pos (by rfl)]
        refine wp_store_row 23 _ _ rfl g8 PH rfl rfl 23 Z r8 iP sZP oP ?_
        have r8 : Row (X10.setRow g8 PH) g8 PH 23 := setRow_heap X10 g8 _ PH 23 _ r8
        have T11 : Turn no u3 (X10.setRow g8 PH) := hHeld.setRow g8 PH (fun q => by omega)
        refine hK.out _ _ T11 (fun hHeld => ?_)
        clear hK
        clear T11
        obtain ⟨Y11, hY11⟩ : ∃ X, X10.setRow g8 PH = X := ⟨_, rfl⟩
        rw [hY11] at r8 hHeld ⊢
        clear hY11
        refine' wpAnyH_take (i := 9) (v := .int .i64 pe) rfl (by kernel_rfl) (by kernel_rfl) (by kernel_rfl) (fun _ _ _ h => h) (Or.inl ⟨by kernel_rfl, fun W hW => ?y12⟩) hHeld ?r12
        · go_simp
        refine wpAnyH_done (by kernel_rfl) ?_ _
        go_simp
        go_wp2_with fail
        go_meet
        case rel => exact ⟨g8, rfl, rfl, ⟨r8, hHeld⟩⟩
    case rest =>
      obtain ⟨g, rfl, rfl, HK⟩ := hcut
      have HTc := shut (HT3.out.then_no HK.out.2)
      have RZc := Row.turn HRZ.out HTc.out (fun q => q)
      by_cases hpe : pe = 0
      · subst hpe
        have rP : wc.rangeAt g 0 PHl := by
          have := Row.rng HK.out.1
          rw [HPR.out.1] at this
          simpa using this
        have HR4 : Shut (∀ W, Turn no wc W → W.rangeAt g 0 PHl ∧ W.rangeAt (w.heap.size + 1) 0 RL ∧ W.rangeAt w.heap.size 0 XL) := fun W t => ⟨fun j u hu => t.keep (rP j u hu) (fun q => q), (HCR.out W ((HTc.out).then_no t)).1, (HCR.out W ((HTc.out).then_no t)).2⟩
        have HIW : Shut (∀ W, Turn no wc W → Calls Tryd.prog 14 #[.agg PH, .agg RA] W fun e w' => e = .returned (.agg IH) ∧ Turn no W w') := fun W t => HI.out W ((HTc.out).then_no t)
        have iPl := HPR.out.2
        have hQ := HQ.out
        clear rP
        go_upto_region 19 with fail
        refine wp_region_held_drew (S := fun W => Turn no wc W) (by kernel_rfl) (Turn.refl no wc).drew (fun hHeld => ?_)
        refine' wpAnyH_take (i := 0) (v := .agg PH) rfl (by kernel_rfl) (by kernel_rfl) (by kernel_rfl) (fun _ _ _ h => h) (by rw [HPR.out.1]; exact yieldsIf_load_mid (by kernel_rfl) 23 (.tmp 14) rfl g (0) (by kernel_rfl) PHl _ (fun W h => (HR4.out W h).1) Tryd.underlying23 rfl iPl) hHeld ?q0
        refine' wpAnyH_take (i := 1) (v := .pointer (some ⟨w.heap.size + 1, 0, none⟩)) rfl (by kernel_rfl) (by kernel_rfl) (by kernel_rfl) (fun _ _ _ h => h) (Or.inl ⟨by kernel_rfl, fun W hW => ?y13⟩) hHeld ?r13
        · go_simp
        refine' wpAnyH_take (i := 2) (v := .agg RA) rfl (by kernel_rfl) (by kernel_rfl) (by kernel_rfl) (fun _ _ _ h => h) (by rw [HXR.out.2]; exact yieldsIf_load_mid (by kernel_rfl) 23 (.tmp 101) rfl (w.heap.size + 1) (0) (by kernel_rfl) RL _ (fun W h => (HR4.out W h).2.1) Tryd.underlying23 rfl iR) hHeld ?q2
        refine' wpAnyH_take (i := 4) (v := .agg XA) rfl (by kernel_rfl) (by kernel_rfl) (by kernel_rfl) (fun _ _ _ h => h) (by rw [HXR.out.1]; exact yieldsIf_load_mid (by kernel_rfl) 23 (.tmp 3) rfl w.heap.size (0) (by kernel_rfl) XL _ (fun W h => (HR4.out W h).2.2) Tryd.underlying23 rfl iX) hHeld ?q4
        refine wpAnyH_ready (rs := [3]) (by kernel_rfl) (by simp) ?_
        refine AllReadyH.cons rfl (fun K hK => ?_) AllReadyH.nil
        go_simp
        refine (HIW.out _ hHeld).mono ?_
        rintro e wd ⟨rfl, td⟩
        refine hK.out _ _ (hHeld.then_no td) (fun hHeld => ?_)
        clear hK
        refine' wpAnyH_take (i := 5) (v := .bool (!bb)) rfl (by kernel_rfl) (by kernel_rfl) (by kernel_rfl) (fun _ _ _ h => h) (Or.inl ⟨by kernel_rfl, fun W hW => ?y14⟩) hHeld ?r14
        · go_simp
        refine wpAnyH_done (by kernel_rfl) ?_ _
        go_simp
        have HD := shut hHeld
        clear hHeld HR4 HIW hQ
        have HTd := shut (HTc.out.then_no HD.out)
        have RZd := Row.turn HRZ.out HTd.out (fun q => q)
        have RMd := Row.turn HR.out.1 (HK.out.2.then_no HD.out) (fun q => q)
        have cd := RMd.cell 0 _ HM0.out
        cases bb with
        | false =>
          have e1 : TE = 21 := by rw [HTE.out]; rfl
          go_wp2_with (first | (guard_target =~ wpList _ _ _ ({ dst := _, op := Op.build 32 _, .. } :: _) _ _; refine wpList_buildG (by kernel_rfl) 32 rfl _ (hbd.out _) ?_) | (guard_target =~ wpList _ _ _ ({ dst := _, op := Op.store 32 _ _, .. } :: _) _ _; refine wpList_store_anyN rfl rfl 32 (.tmp 6) (.tmp 106) rfl (w.heap.size + 2) AZ0 rfl rfl 32 AZ0 RZd iA0 rfl oA0 ?_; intro w9 R9 T9))
          refine bodyPost_ret (v := .tuple #[.agg AZ0, .bool false, .int .i64 21]) (results_c3 (P := Tryd.prog) Tryd.results6 _ _ (w.heap.size + 2) 32 AZ0 (0, 0) _ rfl R9 Tryd.underlying32 rfl iA0) rfl ⟨by rw [HE.out, if_neg (by decide), e1]; rfl, (HT0.out.then_no HTd.out).trans T9 (fun i hi q => by have q2 : i = w.heap.size + 2 := q; omega)⟩
        | true =>
          have e1 : TE = 0 := by rw [HTE.out]; rfl
          have y1 := (HC2.out wd HTd.out).1
          have RPd := Row.turn HK.out.1 HD.out (fun q => q)
          have rPd : wd.rangeAt g 0 PHl := by
            have := Row.rng RPd
            rw [HPR.out.1] at this
            simpa using this
          have HR7 : Shut (∀ W, Turn no wd W → W.rangeAt g 0 PHl) := fun W t j u hu => t.keep (rPd j u hu) (fun q => q)
          have iPl2 := HPR.out.2
          clear rPd RPd
          go_upto_region 22 with fail
          clear y1
          refine wp_region_held_drew (S := fun W => Turn no wd W) (by kernel_rfl) (Turn.refl no wd).drew (fun hHeld => ?_)
          refine' wpAnyH_take (i := 0) (v := .agg PH) rfl (by kernel_rfl) (by kernel_rfl) (by kernel_rfl) (fun _ _ _ h => h) (by rw [HPR.out.1]; exact yieldsIf_load_mid (by kernel_rfl) 23 (.tmp 14) rfl g (0) (by kernel_rfl) PHl _ (fun W h => HR7.out W h) Tryd.underlying23 rfl iPl2) hHeld ?p0
          refine' wpAnyH_take (i := 1) (v := .pointer (some ⟨w.heap.size + 1, 33, none⟩)) rfl (by kernel_rfl) (by kernel_rfl) (by kernel_rfl) (fun _ _ _ h => h) (Or.inl ⟨by kernel_rfl, fun W hW => ?y15⟩) hHeld ?r15
          · go_simp
          refine' wpAnyH_take (i := 2) (v := .slice (some ⟨pb, po, none⟩) 2 cp) rfl (by kernel_rfl) (by kernel_rfl) (by kernel_rfl) (fun _ _ _ h => h) (Or.inl ⟨by kernel_rfl, fun W hW => ?y16⟩) hHeld ?r16
          · obtain ⟨z0, z1, _⟩ := HC2.out W (HTd.out.then_no hW)
            go_simp
          refine' wpAnyH_take (i := 3) (v := .pointer (some ⟨pb, po + 3, none⟩)) rfl (by kernel_rfl) (by kernel_rfl) (by kernel_rfl) (fun _ _ _ h => h) (Or.inl ⟨by kernel_rfl, fun W hW => ?y17⟩) hHeld ?r17
          · go_simp
          refine' wpAnyH_take (i := 4) (v := .agg S0) rfl (by kernel_rfl) (by kernel_rfl) (by kernel_rfl) (fun _ _ _ h => h) (by rw [← HSL.out]; exact yieldsIf_load_mid (by kernel_rfl) 57 (.tmp 114) rfl pb (po + 3) (by kernel_rfl) SL _ (fun W h => (HC2.out W (HTd.out.then_no h)).2.2.2) Tryd.underlying57 rfl zS) hHeld ?p4
          refine' wpAnyH_take (i := 5) (v := .pointer (some ⟨w.heap.size + 1, 32, none⟩)) rfl (by kernel_rfl) (by kernel_rfl) (by kernel_rfl) (fun _ _ _ h => h) (Or.inl ⟨by kernel_rfl, fun W hW => ?y18⟩) hHeld ?r18
          · go_simp
          refine' wpAnyH_take (i := 6) (v := .slice (some ⟨ab, ao, none⟩) 2 ca) rfl (by kernel_rfl) (by kernel_rfl) (by kernel_rfl) (fun _ _ _ h => h) (Or.inl ⟨by kernel_rfl, fun W hW => ?y19⟩) hHeld ?r19
          · obtain ⟨z0, z1, _⟩ := HC2.out W (HTd.out.then_no hW)
            go_simp
          refine' wpAnyH_take (i := 7) (v := .pointer (some ⟨ab, ao + 5, none⟩)) rfl (by kernel_rfl) (by kernel_rfl) (by kernel_rfl) (fun _ _ _ h => h) (Or.inl ⟨by kernel_rfl, fun W hW => ?y20⟩) hHeld ?r20
          · go_simp
          refine' wpAnyH_take (i := 8) (v := .agg N0) rfl (by kernel_rfl) (by kernel_rfl) (by kernel_rfl) (fun _ _ _ h => h) (by rw [← HNL.out]; exact yieldsIf_load_mid (by kernel_rfl) 32 (.tmp 118) rfl ab (ao + 5) (by kernel_rfl) NL _ (fun W h => (HC2.out W (HTd.out.then_no h)).2.2.1) Tryd.underlying32 rfl zN) hHeld ?p8
          refine wpAnyH_ready (rs := [9]) (by kernel_rfl) (by simp) ?_
          refine AllReadyH.cons rfl (fun K hK => ?_) AllReadyH.nil
          go_simp
          refine (G17.out _).mono ?_
          rintro e we ⟨v8, rfl, F8⟩
          have O8 := F8.own.bs
          obtain ⟨a8, l8, c8, rfl⟩ := F8.form
          refine hK.out _ _ (hHeld.then_no F8.turn) (fun hHeld => ?_)
          clear hK
          refine wpAnyH_ready (rs := [10]) (by kernel_rfl) (by simp) ?_
          refine AllReadyH.cons rfl (fun K hK => ?_) AllReadyH.nil
          go_simp
          refine (HV.out _ _ (HTd.out.then_no hHeld) O8).mono ?_
          rintro e wf ⟨rfl, tf⟩
          refine hK.out _ _ (hHeld.then_no tf) (fun hHeld => ?_)
          clear hK
          refine' wpAnyH_take (i := 11) (v := .int .i64 VE) rfl (by kernel_rfl) (by kernel_rfl) (by kernel_rfl) (fun _ _ _ h => h) (Or.inl ⟨by kernel_rfl, fun W hW => ?y21⟩) hHeld ?r21
          · go_simp
          refine wpAnyH_done (by kernel_rfl) ?_ _
          go_simp
          have HF := shut hHeld
          clear hHeld HR7
          have RZf := Row.turn HRZ.out (HTd.out.then_no HF.out) (fun q => q)
          go_wp2_with (first | (guard_target =~ wpList _ _ _ ({ dst := _, op := Op.build 32 _, .. } :: _) _ _; refine wpList_buildG (by kernel_rfl) 32 rfl _ (hbd.out _) ?_) | (guard_target =~ wpList _ _ _ ({ dst := _, op := Op.store 32 _ _, .. } :: _) _ _; refine wpList_store_anyN rfl rfl 32 (.tmp 6) (.tmp 122) rfl (w.heap.size + 2) AZ0 rfl rfl 32 AZ0 RZf iA0 rfl oA0 ?_; intro w9 R9 T9))
          refine bodyPost_ret (v := .tuple #[.agg AZ0, .bool false, .int .i64 VE]) (results_c3 (P := Tryd.prog) Tryd.results6 _ _ (w.heap.size + 2) 32 AZ0 (0, 0) _ rfl R9 Tryd.underlying32 rfl iA0) rfl ⟨by rw [HE.out, if_neg (by decide), if_pos e1], (HT0.out.then_no (HTd.out.then_no HF.out)).trans T9 (fun i hi q => by have q2 : i = w.heap.size + 2 := q; omega)⟩
      · have hpe' : (pe != 0) = true := by simpa using hpe
        have e1 : TE = pe := by rw [HTE.out, if_neg hpe]
        go_wp2_with (first | (guard_target =~ wpList _ _ _ ({ dst := _, op := Op.build 32 _, .. } :: _) _ _; refine wpList_buildG (by kernel_rfl) 32 rfl _ (hbd.out _) ?_) | (guard_target =~ wpList _ _ _ ({ dst := _, op := Op.store 32 _ _, .. } :: _) _ _; refine wpList_store_anyN rfl rfl 32 (.tmp 6) (.tmp 98) rfl (w.heap.size + 2) AZ0 rfl rfl 32 AZ0 RZc iA0 rfl oA0 ?_; intro w9 R9 T9))
        refine bodyPost_ret (v := .tuple #[.agg AZ0, .bool false, .int .i64 pe]) (results_c3 (P := Tryd.prog) Tryd.results6 _ _ (w.heap.size + 2) 32 AZ0 (0, 0) _ rfl R9 Tryd.underlying32 rfl iA0) rfl ⟨by rw [HE.out, if_neg (by decide), if_neg (by rw [e1]; exact hpe), e1], (HT0.out.then_no HTc.out).trans T9 (fun i hi q => by have q2 : i = w.heap.size + 2 := q; omega)⟩
end Go.Proofs.YtieoomdbijpdhaaDoor
