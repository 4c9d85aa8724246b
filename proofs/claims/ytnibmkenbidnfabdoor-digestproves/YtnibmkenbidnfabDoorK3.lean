/- halves, whole; Lists. -/
import Derived.Test.YtnibmkenbidnfabDoorK2
namespace Go.Proofs.YtnibmkenbidnfabDoor
open Go.RowKit
set_option linter.unusedVariables false

set_option maxRecDepth 100000 in
set_option maxHeartbeats 16000000 in
theorem halves27 (n : Nat) : ∀ (l m : Its) (b o ca b' o' cb : Nat) (w : World), l.length = n → m.length = n → Pcs w b o l → Pcs w b' o' m → n ≤ ca → n ≤ cb → ca ≤ maxLen → cb ≤ maxLen → 1 ≤ n → okL l → okL m → topH (txs l) = topH (txs m) → Laid0 w → 2 ≤ w.heap.size →
    Calls Tryd.prog 27 #[.slice (some ⟨b, o, none⟩) n ca, .slice (some ⟨b', o', none⟩) n cb] w fun e w' => Sc w e w' := by
  induction n using Nat.strongRecOn with
  | _ n ih =>
    intro l m b o ca b' o' cb w hln hmn hP hQ hca hcb hma hmb h1 hol hom ht hl h2
    by_cases h : n = 1
    · subst h
      match l, m, hln, hmn with
      | [(v, x)], [(u, y)], _, _ =>
        have p := hP 0 (v, x) rfl
        have q := hQ 0 (u, y) rfl
        simp only [Nat.add_zero] at p q
        have e1 : topH (txs [(v, x)]) = hashOf (0 :: x) := topH_one _ rfl
        have e2 : topH (txs [(u, y)]) = hashOf (0 :: y) := topH_one _ rfl
        rw [e1, e2] at ht
        exact halves_one w v u x y b o ca b' o' cb p.1 q.1 p.2 q.2 (hol.2 (v, x) (by simp)) (hom.2 (u, y) (by simp)) ht hl h2
    · have hk1 := splitN_lt n (by omega)
      have hk2 := splitN_pos n
      have h65 : n ≤ 65536 := by rw [← hln]; exact hol.1
      have hsp := fun W => rsplit_any W n (by omega) h65
      have tl := top_split l (by omega)
      have tm := top_split m (by omega)
      rw [hln] at tl
      rw [hmn] at tm
      have hh : hashOf (1 :: (topH (txs (l.take (splitN n))) ++ topH (txs (l.drop (splitN n))))) = hashOf (1 :: (topH (txs (m.take (splitN n))) ++ topH (txs (m.drop (splitN n))))) := by rw [← tl, ← tm]; exact ht
      have T1 : Shut (∀ W, Turn no w W → Calls Tryd.prog 23 #[.slice (some ⟨b, o, none⟩) (splitN n) ca] W fun e w' => e = .returned (.agg (hb32 (topH (txs (l.take (splitN n)))))) ∧ Turn no W w') := fun W T => rtop_any (splitN n) (l.take (splitN n)) b o ca W (by simp; omega) ((hP.turn_no T).take _) (by omega) hk2 (by omega) (hol.take _).2 (hl.turn T (fun q => q)) (by have := T.size; omega)
      have T2 : Shut (∀ W, Turn no w W → Calls Tryd.prog 23 #[.slice (some ⟨b, o + splitN n, none⟩) (n - splitN n) (ca - splitN n)] W fun e w' => e = .returned (.agg (hb32 (topH (txs (l.drop (splitN n)))))) ∧ Turn no W w') := fun W T => rtop_any (n - splitN n) (l.drop (splitN n)) b (o + splitN n) (ca - splitN n) W (by simp; omega) ((hP.turn_no T).drop _) (by omega) (by omega) (by omega) (hol.drop _).2 (hl.turn T (fun q => q)) (by have := T.size; omega)
      have T3 : Shut (∀ W, Turn no w W → Calls Tryd.prog 23 #[.slice (some ⟨b', o', none⟩) (splitN n) cb] W fun e w' => e = .returned (.agg (hb32 (topH (txs (m.take (splitN n)))))) ∧ Turn no W w') := fun W T => rtop_any (splitN n) (m.take (splitN n)) b' o' cb W (by simp; omega) ((hQ.turn_no T).take _) (by omega) hk2 (by omega) (hom.take _).2 (hl.turn T (fun q => q)) (by have := T.size; omega)
      have T4 : Shut (∀ W, Turn no w W → Calls Tryd.prog 23 #[.slice (some ⟨b', o' + splitN n, none⟩) (n - splitN n) (cb - splitN n)] W fun e w' => e = .returned (.agg (hb32 (topH (txs (m.drop (splitN n)))))) ∧ Turn no W w') := fun W T => rtop_any (n - splitN n) (m.drop (splitN n)) b' (o' + splitN n) (cb - splitN n) W (by simp; omega) ((hQ.turn_no T).drop _) (by omega) (by omega) (by omega) (hom.drop _).2 (hl.turn T (fun q => q)) (by have := T.size; omega)
      have R1 : Shut (topH (txs (l.take (splitN n))) = topH (txs (m.take (splitN n))) → ∀ W, Turn no w W → Calls Tryd.prog 27 #[.slice (some ⟨b, o, none⟩) (splitN n) ca, .slice (some ⟨b', o', none⟩) (splitN n) cb] W fun e w' => Sc W e w') := fun q W T => ih (splitN n) hk1 (l.take (splitN n)) (m.take (splitN n)) b o ca b' o' cb W (by simp; omega) (by simp; omega) ((hP.turn_no T).take _) ((hQ.turn_no T).take _) (by omega) (by omega) hma hmb hk2 (hol.take _) (hom.take _) q (hl.turn T (fun q => q)) (by have := T.size; omega)
      have R2 : Shut (topH (txs (l.drop (splitN n))) = topH (txs (m.drop (splitN n))) → ∀ W, Turn no w W → Calls Tryd.prog 27 #[.slice (some ⟨b, o + splitN n, none⟩) (n - splitN n) (ca - splitN n), .slice (some ⟨b', o' + splitN n, none⟩) (n - splitN n) (cb - splitN n)] W fun e w' => Sc W e w') := fun q W T => ih (n - splitN n) (by omega) (l.drop (splitN n)) (m.drop (splitN n)) b (o + splitN n) (ca - splitN n) b' (o' + splitN n) (cb - splitN n) W (by simp; omega) (by simp; omega) ((hP.turn_no T).drop _) ((hQ.turn_no T).drop _) (by omega) (by omega) (by omega) (by omega) (by omega) (hol.drop _) (hom.drop _) q (hl.turn T (fun q => q)) (by have := T.size; omega)
      have l1 := topH_len (txs (l.take (splitN n)))
      have l2 := topH_len (txs (l.drop (splitN n)))
      have l3 := topH_len (txs (m.take (splitN n)))
      have l4 := topH_len (txs (m.drop (splitN n)))
      clear ih tl tm ht hP hQ hol hom hln hmn
      generalize topH (txs (l.take (splitN n))) = L at *
      generalize topH (txs (l.drop (splitN n))) = R at *
      generalize topH (txs (m.take (splitN n))) = X at *
      generalize topH (txs (m.drop (splitN n))) = Y at *
      have I1 : Shut (∀ W, Turn no w W → Calls Tryd.prog 45 #[.agg (hb32 L), .agg (hb32 R)] W fun e w' => ∃ z, e = .returned z ∧ Bs w' z (1 :: (L ++ R)) ∧ Turn no W w') := fun W T => (innerText_any W L R l1 l2).mono (fun e w' ⟨z, e1, o, t⟩ => ⟨z, e1, o.bs, t⟩)
      have I2 : Shut (∀ W, Turn no w W → Calls Tryd.prog 45 #[.agg (hb32 X), .agg (hb32 Y)] W fun e w' => ∃ z, e = .returned z ∧ Bs w' z (1 :: (X ++ Y)) ∧ Turn no W w') := fun W T => (innerText_any W X Y l3 l4).mono (fun e w' ⟨z, e1, o, t⟩ => ⟨z, e1, o.bs, t⟩)
      have CL : Shut (∀ W, Turn no w W → ∀ z z', Bs W z (1 :: (L ++ R)) → Bs W z' (1 :: (X ++ Y)) → Calls Tryd.prog 26 #[z, z'] W fun e w' => e = .returned (.bool (clB (1 :: (L ++ R)) (1 :: (X ++ Y)))) ∧ Turn no W w') := fun W T z z' q1 q2 => clash26 W z z' _ _ q1 q2 (by simp [l1, l2]) (by simp [l3, l4]) (hl.turn T (fun q => q)) (by have := T.size; omega)
      have hcl : Shut (¬ (L = X ∧ R = Y) → clB (1 :: (L ++ R)) (1 :: (X ++ Y)) = true) := fun q => clB_inner (by omega) q hh
      have HE1 : Shut (∀ W, (Op.equalIn 10000 25 (.agg (hb32 L)) (.agg (hb32 X))).run Tryd.prog W = .ok (L == X) W) := fun W => eqIn35 W L X l1 l3
      have HE2 : Shut (∀ W, (Op.equalIn 10000 25 (.agg (hb32 R)) (.agg (hb32 Y))).run Tryd.prog W = .ok (R == Y) W) := fun W => eqIn35 W R Y l2 l4
      have q1 : Shut ((L == X) = true → L = X) := fun q => by simpa using q
      have q2 : Shut ((R == Y) = true → R = Y) := fun q => by simpa using q
      have q3 : Shut ((L == X) = false ∨ (R == Y) = false → ¬ (L = X ∧ R = Y)) := fun q e => by
        rcases q with q | q
        · rw [e.1] at q; simp at q
        · rw [e.2] at q; simp at q
      have hZ := hb32_size z32_len
      have hzv := zero35v
      have sLA := hb32_size l1
      have oLA := hb32_one L
      have iLA := hb32_info l1
      have sRA := hb32_size l2
      have oRA := hb32_one R
      have iRA := hb32_info l2
      have sXA := hb32_size l3
      have oXA := hb32_one X
      have iXA := hb32_info l3
      have sYA := hb32_size l4
      have oYA := hb32_one Y
      have iYA := hb32_info l4
      generalize clB (1 :: (L ++ R)) (1 :: (X ++ Y)) = cl at *
      generalize 1 :: (L ++ R) = TX at *
      generalize 1 :: (X ++ Y) = TY at *
      generalize (L == X) = e1 at *
      generalize (R == Y) = e2 at *
      have R1' : Shut (e1 = true → ∀ W, Turn no w W → Calls Tryd.prog 27 #[.slice (some ⟨b, o, none⟩) (splitN n) ca, .slice (some ⟨b', o', none⟩) (splitN n) cb] W fun e w' => Sc W e w') := fun q => R1.out (q1.out q)
      have R2' : Shut (e2 = true → ∀ W, Turn no w W → Calls Tryd.prog 27 #[.slice (some ⟨b, o + splitN n, none⟩) (n - splitN n) (ca - splitN n), .slice (some ⟨b', o' + splitN n, none⟩) (n - splitN n) (cb - splitN n)] W fun e w' => Sc W e w') := fun q => R2.out (q2.out q)
      have hcl' : Shut (e1 = false ∨ e2 = false → cl = true) := fun q => hcl.out (q3.out q)
      clear R1 R2 q1 q2 q3 hcl hh l1 l2 l3 l4 hl
      generalize hb32 L = LA at *
      generalize hb32 R = RA at *
      generalize hb32 X = XA at *
      generalize hb32 Y = YA at *
      generalize hb32 z32 = Z at *
      generalize splitN n = k at *
      have hn0 : ((n : Int) == 0) = false := by simp; omega
      have hn1 : ((n : Int) == 1) = false := by simp; omega
      have hkc : (k : Int) ≤ (ca : Int) := by omega
      have hkc' : (k : Int) ≤ (cb : Int) := by omega
      have hkn : (k : Int) ≤ (n : Int) := by omega
      have hkne : ¬ ca = k := by omega
      have hkne' : ¬ cb = k := by omega
      have t1 := T1.out w (Turn.refl no w)
      clear T1 hma hmb
      go_enter Tryd.func27, Tryd.ntmps27
      go_upto_region 10 with (first | (go_at_call 41; refine (hsp _).mono ?_; clear hsp; rintro e w' ⟨rfl, hw'⟩; subst hw') | (go_at_call 23; refine t1.mono ?_; clear t1; rintro e wa ⟨rfl, ta⟩) | (guard_target =~ wpList _ _ _ ({ dst := _, op := Op.store 25 _ _, .. } :: _) _ _; refine wpList_store_anyN rfl rfl 25 (.tmp 8) (.tmp 46) rfl _ LA rfl rfl 25 Z (Row.new _ Z 25) iLA (by rw [hZ, sLA]) oLA ?_; intro wb RL tb))
      have TAB : Turn (fun q => q = wa.heap.size) wa wb := ((Turn.refl no wa).alloc _).of_no.trans tb (fun _ _ e => e)
      have TB := ta.trans TAB (fun i hi e => by have := ta.size; omega)
      have t2 := T2.out wb TB
      clear T2 TAB ta tb
      generalize wa.heap.size = g8 at *
      go_upto_region 11 with (first | (go_at_call 23; refine t2.mono ?_; clear t2; rintro e wc ⟨rfl, tc⟩) | (guard_target =~ wpList _ _ _ ({ dst := _, op := Op.store 25 _ _, .. } :: _) _ _; refine wpList_store_anyN rfl rfl 25 (.tmp 9) (.tmp 50) rfl _ RA rfl rfl 25 Z (Row.new _ Z 25) iRA (by rw [hZ, sRA]) oRA ?_; intro wd RR td))
      have TCD : Turn (fun q => q = wc.heap.size) wc wd := ((Turn.refl no wc).alloc _).of_no.trans td (fun _ _ e => e)
      have TBD := tc.trans TCD (fun i hi e => by have := tc.size; omega)
      have RL2 := Row.turn RL TBD (fun q => q)
      have TD := TB.then_no TBD
      have t3 := T3.out wd TD
      clear T3 TCD tc td TBD RL TB
      generalize wc.heap.size = g9 at *
      go_upto_region 12 with (first | (go_at_call 23; refine t3.mono ?_; clear t3; rintro e we ⟨rfl, te⟩) | (guard_target =~ wpList _ _ _ ({ dst := _, op := Op.store 25 _ _, .. } :: _) _ _; refine wpList_store_anyN rfl rfl 25 (.tmp 10) (.tmp 54) rfl _ XA rfl rfl 25 Z (Row.new _ Z 25) iXA (by rw [hZ, sXA]) oXA ?_; intro wf RX tf))
      have TEF : Turn (fun q => q = we.heap.size) we wf := ((Turn.refl no we).alloc _).of_no.trans tf (fun _ _ e => e)
      have TDF := te.trans TEF (fun i hi e => by have := te.size; omega)
      have RL3 := Row.turn RL2 TDF (fun q => q)
      have RR3 := Row.turn RR TDF (fun q => q)
      have TF := TD.then_no TDF
      have t4 := T4.out wf TF
      clear T4 TEF te tf TDF RL2 RR TD
      generalize we.heap.size = g10 at *
      go_upto_region 13 with (first | (go_at_call 23; refine t4.mono ?_; clear t4; rintro e wg ⟨rfl, tg⟩) | (guard_target =~ wpList _ _ _ ({ dst := _, op := Op.store 25 _ _, .. } :: _) _ _; refine wpList_store_anyN rfl rfl 25 (.tmp 11) (.tmp 58) rfl _ YA rfl rfl 25 Z (Row.new _ Z 25) iYA (by rw [hZ, sYA]) oYA ?_; intro wh RY th))
      have TGH : Turn (fun q => q = wg.heap.size) wg wh := ((Turn.refl no wg).alloc _).of_no.trans th (fun _ _ e => e)
      have TFH := tg.trans TGH (fun i hi e => by have := tg.size; omega)
      have HR : Shut (∀ W, Turn no wh W → Row W g8 LA 25 ∧ Row W g9 RA 25 ∧ Row W g10 XA 25 ∧ Row W wg.heap.size YA 25) := fun W T => ⟨Row.turn (Row.turn RL3 TFH (fun q => q)) T (fun q => q), Row.turn (Row.turn RR3 TFH (fun q => q)) T (fun q => q), Row.turn (Row.turn RX TFH (fun q => q)) T (fun q => q), Row.turn RY T (fun q => q)⟩
      have HTH := shut (TF.then_no TFH)
      clear TGH tg th TFH RL3 RR3 RX RY TF hzv
      generalize wg.heap.size = g11 at *
      have rL := Row.rng (HR.out wh (Turn.refl no wh)).1
      have rR := Row.rng (HR.out wh (Turn.refl no wh)).2.1
      have rX := Row.rng (HR.out wh (Turn.refl no wh)).2.2.1
      have rY := Row.rng (HR.out wh (Turn.refl no wh)).2.2.2
      have jL : (Tryd.prog.info? 25).map (·.size) = some LA.toList.length := by rw [Array.length_toList]; exact iLA
      have jR : (Tryd.prog.info? 25).map (·.size) = some RA.toList.length := by rw [Array.length_toList]; exact iRA
      have jX : (Tryd.prog.info? 25).map (·.size) = some XA.toList.length := by rw [Array.length_toList]; exact iXA
      have jY : (Tryd.prog.info? 25).map (·.size) = some YA.toList.length := by rw [Array.length_toList]; exact iYA
      have he1 := HE1.out
      have he2 := HE2.out
      cases e1 with
      | false =>
        have hc1 := shut (hcl'.out (Or.inl rfl))
        go_upto_region 14 with (first | (guard_target =~ wpList _ _ _ ({ dst := some 59, op := Op.load 25 _, .. } :: _) _ _; refine wpList_load_midG (by kernel_rfl) 25 (.tmp 8) rfl g8 0 rfl LA.toList _ rL Tryd.underlying25 rfl jL ?_) | (guard_target =~ wpList _ _ _ ({ dst := some 60, op := Op.load 25 _, .. } :: _) _ _; refine wpList_load_midG (by kernel_rfl) 25 (.tmp 10) rfl g10 0 rfl XA.toList _ rX Tryd.underlying25 rfl jX ?_))
        refine wp_region_held_drew (S := fun W => Turn no wh W) (by kernel_rfl) (Turn.refl no wh).drew (fun hHeld => ?_)
        refine' wpAnyH_take (i := 0) (v := .agg LA) rfl (by kernel_rfl) (by kernel_rfl) (by kernel_rfl) (fun _ _ _ h => h) (yieldsIf_load_mid (by kernel_rfl) 25 (.tmp 8) rfl g8 0 (by kernel_rfl) LA.toList _ (fun W h => Row.rng (HR.out W h).1) Tryd.underlying25 rfl jL) hHeld ?a0
        refine' wpAnyH_take (i := 1) (v := .agg RA) rfl (by kernel_rfl) (by kernel_rfl) (by kernel_rfl) (fun _ _ _ h => h) (yieldsIf_load_mid (by kernel_rfl) 25 (.tmp 9) rfl g9 0 (by kernel_rfl) RA.toList _ (fun W h => Row.rng (HR.out W h).2.1) Tryd.underlying25 rfl jR) hHeld ?a1
        refine' wpAnyH_take (i := 3) (v := .agg XA) rfl (by kernel_rfl) (by kernel_rfl) (by kernel_rfl) (fun _ _ _ h => h) (yieldsIf_load_mid (by kernel_rfl) 25 (.tmp 10) rfl g10 0 (by kernel_rfl) XA.toList _ (fun W h => Row.rng (HR.out W h).2.2.1) Tryd.underlying25 rfl jX) hHeld ?a2
        refine' wpAnyH_take (i := 4) (v := .agg YA) rfl (by kernel_rfl) (by kernel_rfl) (by kernel_rfl) (fun _ _ _ h => h) (yieldsIf_load_mid (by kernel_rfl) 25 (.tmp 11) rfl g11 0 (by kernel_rfl) YA.toList _ (fun W h => Row.rng (HR.out W h).2.2.2) Tryd.underlying25 rfl jY) hHeld ?a3
        refine wpAnyH_ready (rs := [2]) (by kernel_rfl) (by simp) ?_
        refine AllReadyH.cons rfl (fun K hK => ?_) AllReadyH.nil
        go_simp
        refine (I1.out _ (HTH.out.then_no hHeld)).mono ?_
        rintro e w3 ⟨z3, rfl, b3, t3⟩
        refine hK.out _ _ (hHeld.then_no t3) (fun hHeld => ?_)
        clear hK
        refine wpAnyH_ready (rs := [5]) (by kernel_rfl) (by simp) ?_
        refine AllReadyH.cons rfl (fun K hK => ?_) AllReadyH.nil
        go_simp
        refine (I2.out _ (HTH.out.then_no hHeld)).mono ?_
        rintro e w4 ⟨z4, rfl, b4, t4⟩
        refine hK.out _ _ (hHeld.then_no t4) (fun hHeld => ?_)
        clear hK
        refine wpAnyH_ready (rs := [6]) (by kernel_rfl) (by simp) ?_
        refine AllReadyH.cons rfl (fun K hK => ?_) AllReadyH.nil
        go_simp
        refine (CL.out _ (HTH.out.then_no hHeld) z3 z4 (b3.turn_no t4) b4).mono ?_
        rintro e w5 ⟨rfl, t5⟩
        refine hK.out _ _ (hHeld.then_no t5) (fun hHeld => ?_)
        clear hK
        refine' wpAnyH_take (i := 7) (v := .bool cl) rfl (by kernel_rfl) (by kernel_rfl) (by kernel_rfl) (fun _ _ _ h => h) (Or.inl ⟨by kernel_rfl, fun W hW => ?y1⟩) hHeld ?r1
        · go_simp
        refine wpAnyH_done (by kernel_rfl) ?_ _
        go_simp
        have HT5 := shut (HTH.out.then_no hHeld)
        clear hHeld
        go_wp2_with fail
        go_ret2
        exact Sc.mk false cl rfl (by rw [hc1.out]; rfl) HT5.out
      | true =>
        cases e2 with
        | false =>
          have hc1 := shut (hcl'.out (Or.inr rfl))
          go_upto_region 14 with (first | (guard_target =~ wpList _ _ _ ({ dst := some 59, op := Op.load 25 _, .. } :: _) _ _; refine wpList_load_midG (by kernel_rfl) 25 (.tmp 8) rfl g8 0 rfl LA.toList _ rL Tryd.underlying25 rfl jL ?_) | (guard_target =~ wpList _ _ _ ({ dst := some 60, op := Op.load 25 _, .. } :: _) _ _; refine wpList_load_midG (by kernel_rfl) 25 (.tmp 10) rfl g10 0 rfl XA.toList _ rX Tryd.underlying25 rfl jX ?_) | (guard_target =~ wpList _ _ _ ({ dst := some 63, op := Op.load 25 _, .. } :: _) _ _; refine wpList_load_midG (by kernel_rfl) 25 (.tmp 9) rfl g9 0 rfl RA.toList _ rR Tryd.underlying25 rfl jR ?_) | (guard_target =~ wpList _ _ _ ({ dst := some 64, op := Op.load 25 _, .. } :: _) _ _; refine wpList_load_midG (by kernel_rfl) 25 (.tmp 11) rfl g11 0 rfl YA.toList _ rY Tryd.underlying25 rfl jY ?_))
          refine wp_region_held_drew (S := fun W => Turn no wh W) (by kernel_rfl) (Turn.refl no wh).drew (fun hHeld => ?_)
          refine' wpAnyH_take (i := 0) (v := .agg LA) rfl (by kernel_rfl) (by kernel_rfl) (by kernel_rfl) (fun _ _ _ h => h) (yieldsIf_load_mid (by kernel_rfl) 25 (.tmp 8) rfl g8 0 (by kernel_rfl) LA.toList _ (fun W h => Row.rng (HR.out W h).1) Tryd.underlying25 rfl jL) hHeld ?b0
          refine' wpAnyH_take (i := 1) (v := .agg RA) rfl (by kernel_rfl) (by kernel_rfl) (by kernel_rfl) (fun _ _ _ h => h) (yieldsIf_load_mid (by kernel_rfl) 25 (.tmp 9) rfl g9 0 (by kernel_rfl) RA.toList _ (fun W h => Row.rng (HR.out W h).2.1) Tryd.underlying25 rfl jR) hHeld ?b1
          refine' wpAnyH_take (i := 3) (v := .agg XA) rfl (by kernel_rfl) (by kernel_rfl) (by kernel_rfl) (fun _ _ _ h => h) (yieldsIf_load_mid (by kernel_rfl) 25 (.tmp 10) rfl g10 0 (by kernel_rfl) XA.toList _ (fun W h => Row.rng (HR.out W h).2.2.1) Tryd.underlying25 rfl jX) hHeld ?b2
          refine' wpAnyH_take (i := 4) (v := .agg YA) rfl (by kernel_rfl) (by kernel_rfl) (by kernel_rfl) (fun _ _ _ h => h) (yieldsIf_load_mid (by kernel_rfl) 25 (.tmp 11) rfl g11 0 (by kernel_rfl) YA.toList _ (fun W h => Row.rng (HR.out W h).2.2.2) Tryd.underlying25 rfl jY) hHeld ?b3
          refine wpAnyH_ready (rs := [2]) (by kernel_rfl) (by simp) ?_
          refine AllReadyH.cons rfl (fun K hK => ?_) AllReadyH.nil
          go_simp
          refine (I1.out _ (HTH.out.then_no hHeld)).mono ?_
          rintro e w3 ⟨z3, rfl, b3, t3⟩
          refine hK.out _ _ (hHeld.then_no t3) (fun hHeld => ?_)
          clear hK
          refine wpAnyH_ready (rs := [5]) (by kernel_rfl) (by simp) ?_
          refine AllReadyH.cons rfl (fun K hK => ?_) AllReadyH.nil
          go_simp
          refine (I2.out _ (HTH.out.then_no hHeld)).mono ?_
          rintro e w4 ⟨z4, rfl, b4, t4⟩
          refine hK.out _ _ (hHeld.then_no t4) (fun hHeld => ?_)
          clear hK
          refine wpAnyH_ready (rs := [6]) (by kernel_rfl) (by simp) ?_
          refine AllReadyH.cons rfl (fun K hK => ?_) AllReadyH.nil
          go_simp
          refine (CL.out _ (HTH.out.then_no hHeld) z3 z4 (b3.turn_no t4) b4).mono ?_
          rintro e w5 ⟨rfl, t5⟩
          refine hK.out _ _ (hHeld.then_no t5) (fun hHeld => ?_)
          clear hK
          refine' wpAnyH_take (i := 7) (v := .bool cl) rfl (by kernel_rfl) (by kernel_rfl) (by kernel_rfl) (fun _ _ _ h => h) (Or.inl ⟨by kernel_rfl, fun W hW => ?y2⟩) hHeld ?r2
          · go_simp
          refine wpAnyH_done (by kernel_rfl) ?_ _
          go_simp
          have HT5 := shut (HTH.out.then_no hHeld)
          clear hHeld
          go_wp2_with fail
          go_ret2
          exact Sc.mk false cl rfl (by rw [hc1.out]; rfl) HT5.out
        | true =>
          have r1 := R1'.out rfl
          have r2 := R2'.out rfl
          have HR1 := shut r1
          have HR2 := shut r2
          clear r1 r2
          go_upto_region 16 with (first | (guard_target =~ wpList _ _ _ ({ dst := some 59, op := Op.load 25 _, .. } :: _) _ _; refine wpList_load_midG (by kernel_rfl) 25 (.tmp 8) rfl g8 0 rfl LA.toList _ rL Tryd.underlying25 rfl jL ?_) | (guard_target =~ wpList _ _ _ ({ dst := some 60, op := Op.load 25 _, .. } :: _) _ _; refine wpList_load_midG (by kernel_rfl) 25 (.tmp 10) rfl g10 0 rfl XA.toList _ rX Tryd.underlying25 rfl jX ?_) | (guard_target =~ wpList _ _ _ ({ dst := some 63, op := Op.load 25 _, .. } :: _) _ _; refine wpList_load_midG (by kernel_rfl) 25 (.tmp 9) rfl g9 0 rfl RA.toList _ rR Tryd.underlying25 rfl jR ?_) | (guard_target =~ wpList _ _ _ ({ dst := some 64, op := Op.load 25 _, .. } :: _) _ _; refine wpList_load_midG (by kernel_rfl) 25 (.tmp 11) rfl g11 0 rfl YA.toList _ rY Tryd.underlying25 rfl jY ?_))
          refine wp_region_held_drew (S := fun W => Turn no wh W) (by kernel_rfl) (Turn.refl no wh).drew (fun hHeld => ?_)
          refine' wpAnyH_take (i := 0) (v := .slice (some ⟨b, o, none⟩) n ca) rfl (by kernel_rfl) (by kernel_rfl) (by kernel_rfl) (fun _ _ _ h => h) (Or.inl ⟨by kernel_rfl, fun W hW => ?y3⟩) hHeld ?r3
          · go_simp
          refine' wpAnyH_take (i := 1) (v := .int .i64 k) rfl (by kernel_rfl) (by kernel_rfl) (by kernel_rfl) (fun _ _ _ h => h) (Or.inl ⟨by kernel_rfl, fun W hW => ?y4⟩) hHeld ?r4
          · go_simp
          refine' wpAnyH_take (i := 2) (v := .slice (some ⟨b, o, none⟩) k ca) rfl (by kernel_rfl) (by kernel_rfl) (by kernel_rfl) (fun _ _ _ h => h) (Or.inl ⟨by kernel_rfl, fun W hW => ?y5⟩) hHeld ?r5
          · go_simp
          refine' wpAnyH_take (i := 3) (v := .slice (some ⟨b', o', none⟩) n cb) rfl (by kernel_rfl) (by kernel_rfl) (by kernel_rfl) (fun _ _ _ h => h) (Or.inl ⟨by kernel_rfl, fun W hW => ?y6⟩) hHeld ?r6
          · go_simp
          refine' wpAnyH_take (i := 4) (v := .int .i64 k) rfl (by kernel_rfl) (by kernel_rfl) (by kernel_rfl) (fun _ _ _ h => h) (Or.inl ⟨by kernel_rfl, fun W hW => ?y7⟩) hHeld ?r7
          · go_simp
          refine' wpAnyH_take (i := 5) (v := .slice (some ⟨b', o', none⟩) k cb) rfl (by kernel_rfl) (by kernel_rfl) (by kernel_rfl) (fun _ _ _ h => h) (Or.inl ⟨by kernel_rfl, fun W hW => ?y8⟩) hHeld ?r8
          · go_simp
          refine wpAnyH_ready (rs := [6]) (by kernel_rfl) (by simp) ?_
          refine AllReadyH.cons rfl (fun K hK => ?_) AllReadyH.nil
          go_simp
          refine (HR1.out _ (HTH.out.then_no hHeld)).mono ?_
          rintro e w3 hsc0
          obtain ⟨s1, c1, rfl, hsc, t3⟩ := hsc0
          refine hK.out _ _ (hHeld.then_no t3) (fun hHeld => ?_)
          clear hK
          refine' wpAnyH_take (i := 7) (v := .tuple #[.bool s1, .bool c1]) rfl (by kernel_rfl) (by kernel_rfl) (by kernel_rfl) (fun _ _ _ h => h) (Or.inl ⟨by kernel_rfl, fun W hW => ?y9⟩) hHeld ?r9
          · go_simp
          refine' wpAnyH_take (i := 8) (v := .bool s1) rfl (by kernel_rfl) (by kernel_rfl) (by kernel_rfl) (fun _ _ _ h => h) (Or.inl ⟨by kernel_rfl, fun W hW => ?y10⟩) hHeld ?r10
          · go_simp
          refine' wpAnyH_take (i := 9) (v := .bool c1) rfl (by kernel_rfl) (by kernel_rfl) (by kernel_rfl) (fun _ _ _ h => h) (Or.inl ⟨by kernel_rfl, fun W hW => ?y11⟩) hHeld ?r11
          · go_simp
          refine' wpAnyH_take (i := 10) (v := .bool s1) rfl (by kernel_rfl) (by kernel_rfl) (by kernel_rfl) (fun _ _ _ h => h) (Or.inl ⟨by kernel_rfl, fun W hW => ?y12⟩) hHeld ?r12
          · go_simp
          refine' wpAnyH_take (i := 11) (v := .bool c1) rfl (by kernel_rfl) (by kernel_rfl) (by kernel_rfl) (fun _ _ _ h => h) (Or.inl ⟨by kernel_rfl, fun W hW => ?y13⟩) hHeld ?r13
          · go_simp
          refine wpAnyH_done (by kernel_rfl) ?_ _
          go_simp
          have HT3 := shut hHeld
          clear hHeld t3
          cases s1 with
          | false =>
            have HSC := shut hsc
            clear hsc
            go_wp2_with fail
            go_ret2
            exact Sc.mk false c1 rfl HSC.out (HTH.out.then_no HT3.out)
          | true =>
            clear hsc
            go_upto_region 19 with fail
            refine wp_region_held_drew (S := fun W => Turn no wh W) (by kernel_rfl) HT3.out.drew (fun hHeld => ?_)
            refine' wpAnyH_take (i := 0) (v := .slice (some ⟨b, o, none⟩) n ca) rfl (by kernel_rfl) (by kernel_rfl) (by kernel_rfl) (fun _ _ _ h => h) (Or.inl ⟨by kernel_rfl, fun W hW => ?y14⟩) hHeld ?r14
            · go_simp
            refine' wpAnyH_take (i := 1) (v := .int .i64 k) rfl (by kernel_rfl) (by kernel_rfl) (by kernel_rfl) (fun _ _ _ h => h) (Or.inl ⟨by kernel_rfl, fun W hW => ?y15⟩) hHeld ?r15
            · go_simp
            refine' wpAnyH_take (i := 2) (v := .slice (some ⟨b, o + k, none⟩) (n - k) (ca - k)) rfl (by kernel_rfl) (by kernel_rfl) (by kernel_rfl) (fun _ _ _ h => h) (Or.inl ⟨by kernel_rfl, fun W hW => ?y16⟩) hHeld ?r16
            · go_simp
            refine' wpAnyH_take (i := 3) (v := .slice (some ⟨b', o', none⟩) n cb) rfl (by kernel_rfl) (by kernel_rfl) (by kernel_rfl) (fun _ _ _ h => h) (Or.inl ⟨by kernel_rfl, fun W hW => ?y17⟩) hHeld ?r17
            · go_simp
            refine' wpAnyH_take (i := 4) (v := .int .i64 k) rfl (by kernel_rfl) (by kernel_rfl) (by kernel_rfl) (fun _ _ _ h => h) (Or.inl ⟨by kernel_rfl, fun W hW => ?y18⟩) hHeld ?r18
            · go_simp
            refine' wpAnyH_take (i := 5) (v := .slice (some ⟨b', o' + k, none⟩) (n - k) (cb - k)) rfl (by kernel_rfl) (by kernel_rfl) (by kernel_rfl) (fun _ _ _ h => h) (Or.inl ⟨by kernel_rfl, fun W hW => ?y19⟩) hHeld ?r19
            · go_simp
            refine wpAnyH_ready (rs := [6]) (by kernel_rfl) (by simp) ?_
            refine AllReadyH.cons rfl (fun K hK => ?_) AllReadyH.nil
            go_simp
            refine (HR2.out _ (HTH.out.then_no hHeld)).mono ?_
            rintro e w4 hsc0
            obtain ⟨s2, c2, rfl, hsc, t4⟩ := hsc0
            refine hK.out _ _ (hHeld.then_no t4) (fun hHeld => ?_)
            clear hK
            refine' wpAnyH_take (i := 7) (v := .bool s2) rfl (by kernel_rfl) (by kernel_rfl) (by kernel_rfl) (fun _ _ _ h => h) (Or.inl ⟨by kernel_rfl, fun W hW => ?y20⟩) hHeld ?r20
            · go_simp
            refine' wpAnyH_take (i := 8) (v := .bool c2) rfl (by kernel_rfl) (by kernel_rfl) (by kernel_rfl) (fun _ _ _ h => h) (Or.inl ⟨by kernel_rfl, fun W hW => ?y21⟩) hHeld ?r21
            · go_simp
            refine' wpAnyH_take (i := 9) (v := .bool s2) rfl (by kernel_rfl) (by kernel_rfl) (by kernel_rfl) (fun _ _ _ h => h) (Or.inl ⟨by kernel_rfl, fun W hW => ?y22⟩) hHeld ?r22
            · go_simp
            refine' wpAnyH_take (i := 10) (v := .bool c2) rfl (by kernel_rfl) (by kernel_rfl) (by kernel_rfl) (fun _ _ _ h => h) (Or.inl ⟨by kernel_rfl, fun W hW => ?y23⟩) hHeld ?r23
            · go_simp
            refine wpAnyH_done (by kernel_rfl) ?_ _
            go_simp
            have HT4 := shut hHeld
            have HSC := shut hsc
            clear hHeld t4 hsc
            go_wp2_with fail
            go_ret2
            exact Sc.mk s2 c2 rfl HSC.out (HTH.out.then_no HT4.out)
end Go.Proofs.YtnibmkenbidnfabDoor
