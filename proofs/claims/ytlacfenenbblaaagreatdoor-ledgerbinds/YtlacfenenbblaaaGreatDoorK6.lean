/- down, whole. -/
import Derived.Test.YtlacfenenbblaaaGreatDoorK5
namespace Go.Proofs.YtlacfenenbblaaaGreatDoor
open Go.RowKit
set_option linter.unusedVariables false

theorem leadH_left (n a : Nat) (A : List (List UInt8)) (x : List UInt8) (h : 2 ≤ n) (ha : a < splitN n) : leadH n a A x = hashOf (1 :: (leadH (splitN n) a A.dropLast x ++ A.getLastD [])) := upH_left n a A _ h ha
theorem leadH_right (n a : Nat) (A : List (List UInt8)) (x : List UInt8) (h : 2 ≤ n) (ha : ¬ a < splitN n) : leadH n a A x = hashOf (1 :: (A.getLastD [] ++ leadH (n - splitN n) (a - splitN n) A.dropLast x)) := upH_right n a A _ h ha
set_option maxRecDepth 100000 in
set_option maxHeartbeats 16000000 in
theorem down31 (n : Nat) : ∀ (l : Its) (b o ca a' : Nat) (A : List (List UInt8)) (a : Option Addr) (cap : Nat) (u : Value) (y : List UInt8) (w : World), l.length = n → Pcs w b o l → n ≤ ca → ca ≤ maxLen → 1 ≤ n → okL l → a' < n → A.length = stepsN n a' → HsAt w a cap A → Bs w u y → y.length ≤ 1048576 → topH (txs l) = leadH n a' A y → Laid0 w → 2 ≤ w.heap.size →
    Calls Tryz.prog 71 #[.slice (some ⟨b, o, none⟩) n ca, .int .i64 a', .slice a A.length cap, u] w fun e w' => Sc ((txs l)[a']? = some y) w e w' := by
  induction n using Nat.strongRecOn with
  | _ n ih =>
    intro l b o ca a' A a cap u y w hln hP hca hma h1 hol ha hA hH hb hy ht hl h2
    by_cases h : n = 1
    · subst h
      match l, hln with
      | [(v, x)], _ =>
        have p := hP 0 (v, x) rfl
        simp only [Nat.add_zero] at p
        have e1 : topH (txs [(v, x)]) = hashOf (0 :: x) := topH_one _ rfl
        rw [e1] at ht
        rw [stepsN_one] at hA
        rw [hA]
        have ha0 : a' = 0 := by omega
        subst ha0
        exact (down_one w v u x y b o ca 0 a cap p.1 p.2 hb (hol.2 (v, x) (by simp)) hy ht hl h2).mono (fun e w' q => q.imp (fun h => by rw [← h]; rfl))
    · obtain ⟨PX, hPX⟩ : ∃ P : Prop, P = ((txs l)[a']? = some y) := ⟨_, rfl⟩
      rw [← hPX]
      have hk1 := splitN_lt n (by omega)
      have hk2 := splitN_pos n
      have h65 : n ≤ 65536 := by rw [← hln]; exact hol.1
      have hsp := fun W => rsplit_any W n (by omega) h65
      have tl := top_split l (by omega)
      rw [hln] at tl
      have hle : A.length ≤ 65537 := by rw [hA]; have := stepsN_le n a'; omega
      have T1 : Shut (∀ W, Turn no w W → Calls Tryz.prog 17 #[.slice (some ⟨b, o, none⟩) (splitN n) ca] W fun e w' => e = .returned (.agg (hb32 (topH (txs (l.take (splitN n)))))) ∧ Turn no W w') := fun W T => rtop_any (splitN n) (l.take (splitN n)) b o ca W (by simp; omega) ((hP.turn_no T).take _) (by omega) hk2 (by omega) (hol.take _).2 (hl.turn T (fun q => q)) (by have := T.size; omega)
      have T2 : Shut (∀ W, Turn no w W → Calls Tryz.prog 17 #[.slice (some ⟨b, o + splitN n, none⟩) (n - splitN n) (ca - splitN n)] W fun e w' => e = .returned (.agg (hb32 (topH (txs (l.drop (splitN n)))))) ∧ Turn no W w') := fun W T => rtop_any (n - splitN n) (l.drop (splitN n)) b (o + splitN n) (ca - splitN n) W (by simp; omega) ((hP.turn_no T).drop _) (by omega) (by omega) (by omega) (hol.drop _).2 (hl.turn T (fun q => q)) (by have := T.size; omega)
      have l1 := topH_len (txs (l.take (splitN n)))
      have l2 := topH_len (txs (l.drop (splitN n)))
      by_cases hak : a' < splitN n
      · have hst := stepsN_left n a' (by omega) hak
        have hA0 : 0 < A.length := by omega
        obtain ⟨ba, oa, rfl, cl0, ll⟩ := hH.last hA0
        have hll : A.length ≤ cap := hH.le
        have hcm := hH.cap
        have hdl : A.dropLast.length = A.length - 1 := List.length_dropLast
        have tr := leadH_left n a' A y (by omega) hak
        have LD0 := fun W (T : Turn no w W) => lead30 W (splitN n) a' A.dropLast (some ⟨ba, oa, none⟩) cap u y (by omega) (by omega) (by omega) (by rw [hdl]; omega) (hH.turn_no T).init (hb.turn_no T) hy (hl.turn T (fun q => q)) (by have := T.size; omega)
        have RC0 := fun (q : topH (txs (l.take (splitN n))) = leadH (splitN n) a' A.dropLast y) W (T : Turn no w W) => (ih (splitN n) (by omega) (l.take (splitN n)) b (o) ca a' A.dropLast (some ⟨ba, oa, none⟩) cap u y W (by simp; omega) ((hP.turn_no T).take _) (by omega) (by omega) (by omega) (hol.take _) (by omega) (by rw [hdl]; omega) (hH.turn_no T).init (hb.turn_no T) hy q (hl.turn T (fun q => q)) (by have := T.size; omega)).mono (fun e w' z => Sc.imp (P' := PX) z (fun h => by rw [hPX, ← h, txs_take, List.getElem?_take, if_pos hak]))
        rw [hdl] at LD0 RC0
        have l3 := leadH_len (splitN n) a' A.dropLast y
        have hh : hashOf (1 :: (topH (txs (l.take (splitN n))) ++ topH (txs (l.drop (splitN n))))) = hashOf (1 :: (leadH (splitN n) a' A.dropLast y ++ A.getLastD [])) := by rw [← tl, ht, tr]
        have HL : Shut (∀ W, Turn no w W → W.rangeAt ba (oa + (A.length - 1) * 32) (hb32 (A.getLastD [])).toList) := fun W T => by
          have e : (hb32 (A.getLastD [])).toList = (A.getLastD []).map bv := by simp [hb32]
          rw [e]
          exact fun i v hi => T.keep (cl0 i v hi) (fun q => q)
        have hlx := hl
        clear ih tl ht hP hol hln hH hb hA hst cl0 tr hdl
        generalize leadH (splitN n) a' A.dropLast y = X at *
        generalize topH (txs (l.take (splitN n))) = L at *
        generalize topH (txs (l.drop (splitN n))) = R at *
        generalize A.getLastD [] = la at *
        have LD := shut LD0
        have RC := shut RC0
        clear LD0 RC0
        have I1 : Shut (∀ W, Turn no w W → Calls Tryz.prog 14 #[.agg (hb32 L), .agg (hb32 R)] W fun e w' => ∃ z, e = .returned z ∧ Bs w' z (1 :: (L ++ R)) ∧ Turn no W w') := fun W T => (innerText_any W L R l1 l2).mono (fun e w' ⟨z, e1, o, t⟩ => ⟨z, e1, o.bs, t⟩)
        have I2 : Shut (∀ W, Turn no w W → Calls Tryz.prog 14 #[.agg (hb32 X), .agg (hb32 la)] W fun e w' => ∃ z, e = .returned z ∧ Bs w' z (1 :: (X ++ la)) ∧ Turn no W w') := fun W T => (innerText_any W X la l3 ll).mono (fun e w' ⟨z, e1, o, t⟩ => ⟨z, e1, o.bs, t⟩)
        have CL : Shut (∀ W, Turn no w W → ∀ z z', Bs W z (1 :: (L ++ R)) → Bs W z' (1 :: (X ++ la)) → Calls Tryz.prog 15 #[z, z'] W fun e w' => e = .returned (.bool (clB (1 :: (L ++ R)) (1 :: (X ++ la)))) ∧ Turn no W w') := fun W T z z' q1 q2 => clash26 W z z' _ _ q1 q2 (by simp [l1, l2]) (by simp [l3, ll]) (hlx.turn T (fun q => q)) (by have := T.size; omega)
        have HE1 : Shut (∀ W, (Op.equalIn 10000 29 (.agg (hb32 X)) (.agg (hb32 L))).run Tryz.prog W = .ok (X == L) W) := fun W => eqIn35 W X L l3 l1
        have HE2 : Shut (∀ W, (Op.equalIn 10000 29 (.agg (hb32 la)) (.agg (hb32 R))).run Tryz.prog W = .ok (la == R) W) := fun W => eqIn35 W la R ll l2
        have hcl' : Shut ((X == L) = false ∨ (la == R) = false → clB (1 :: (L ++ R)) (1 :: (X ++ la)) = true) := fun q => clB_inner (by omega) (fun e => by
          rcases q with q | q
          · rw [e.1] at q; simp at q
          · rw [e.2] at q; simp at q) hh
        have RC' : Shut ((X == L) = true → (la == R) = true → ∀ W, Turn no w W → Calls Tryz.prog 71 #[.slice (some ⟨b, o, none⟩) (splitN n) ca, .int .i64 ((a' : Nat) : Int), .slice (some ⟨ba, oa, none⟩) (A.length - 1) cap, u] W fun e w' => Sc PX W e w') := fun q1 q2 => RC.out (by have : X = L := (by simpa using q1); exact this.symm)
        have hZ := hb32_size z32_len
        have hzv := zero35v
        have sLA := hb32_size l1
        have oLA := hb32_one L
        have iLA := hb32_info l1
        have sRA := hb32_size l2
        have oRA := hb32_one R
        have iRA := hb32_info l2
        have sXA := hb32_size l3
        have oXA := hb32_one X
        have iXA := hb32_info l3
        have sYA := hb32_size ll
        have oYA := hb32_one la
        have iYA := hb32_info ll
        generalize clB (1 :: (L ++ R)) (1 :: (X ++ la)) = cl at *
        generalize 1 :: (L ++ R) = TX at *
        generalize 1 :: (X ++ la) = TY at *
        generalize (X == L) = e1 at *
        generalize (la == R) = e2 at *
        clear RC hh l1 l2 l3 ll hl hlx hy
        generalize hb32 L = LA at *
        generalize hb32 R = RA at *
        generalize hb32 X = XA at *
        generalize hb32 la = YA at *
        generalize hb32 z32 = Z at *
        obtain ⟨k, hk⟩ : ∃ k, splitN n = k := ⟨_, rfl⟩
        rw [hk] at T1 T2 LD RC' hk1 hk2 hsp hak
        clear hk
        obtain ⟨Q, hQ⟩ : ∃ Q, A.length = Q + 1 := ⟨A.length - 1, by omega⟩
        rw [hQ] at LD RC' HL hle hll ⊢
        rw [Nat.add_sub_cancel] at LD RC' HL
        clear hQ hA0
        have hwr : IntKind.i64.wrap (((Q + 1 : Nat) : Int) - 1) = (Q : Int) := by rw [IntKind.wrap_i64]; omega
        have hlt : (Q : Int) < ((Q + 1 : Nat) : Int) := by omega
        have hcap : ¬ cap < Q := by omega
        have hcm' : cap ≤ 9223372036854775807 := by simp only [maxLen] at hcm; omega
        have hn1 : ((n : Int) == 1) = false := by simp; omega
        have hkc : (k : Int) ≤ (ca : Int) := by omega
        have hkn : (k : Int) ≤ (n : Int) := by omega
        have hkne : ¬ ca = k := by omega
        have hak' : (a' : Int) < (k : Int) := by omega
        have t1 := T1.out w (Turn.refl no w)
        clear T1 hcm hma ha
        go_enter Tryz.func71, Tryz.ntmps71
        go_upto_region 8 with (first | (go_at_call 40; refine (hsp _).mono ?_; clear hsp; rintro e w' ⟨rfl, hw'⟩; subst hw') | (go_at_call 17; refine t1.mono ?_; clear t1; rintro e wa ⟨rfl, ta⟩) | (guard_target =~ wpList _ _ _ ({ dst := _, op := Op.store 29 _ _, .. } :: _) _ _; refine wpList_store_anyN rfl rfl 29 (.tmp 12) (.tmp 49) rfl _ LA rfl rfl 29 Z (Row.new _ Z 29) iLA (by rw [hZ, sLA]) oLA ?_; intro wb RL tb))
        have TAB : Turn (fun q => q = wa.heap.size) wa wb := ((Turn.refl no wa).alloc _).of_no.trans tb (fun _ _ e => e)
        have TB := ta.trans TAB (fun i hi e => by have := ta.size; omega)
        have t2 := T2.out wb TB
        clear T2 TAB ta tb
        generalize wa.heap.size = g12 at *
        go_upto_region 9 with (first | (go_at_call 17; refine t2.mono ?_; clear t2; rintro e wc ⟨rfl, tc⟩) | (guard_target =~ wpList _ _ _ ({ dst := _, op := Op.store 29 _ _, .. } :: _) _ _; refine wpList_store_anyN rfl rfl 29 (.tmp 13) (.tmp 53) rfl _ RA rfl rfl 29 Z (Row.new _ Z 29) iRA (by rw [hZ, sRA]) oRA ?_; intro wd RR td))
        have TCD : Turn (fun q => q = wc.heap.size) wc wd := ((Turn.refl no wc).alloc _).of_no.trans td (fun _ _ e => e)
        have TBD := tc.trans TCD (fun i hi e => by have := tc.size; omega)
        have RL2 := Row.turn RL TBD (fun q => q)
        have TD := TB.then_no TBD
        have rLast := HL.out wd TD
        clear TCD tc td TBD RL TB HL
        generalize wc.heap.size = g13 at *
        have jYA : (Tryz.prog.info? 29).map (·.size) = some YA.toList.length := by rw [Array.length_toList]; exact iYA
        go_upto_region 10 with (first | (guard_target =~ wpList _ _ _ ({ dst := _, op := Op.load 29 _, .. } :: _) _ _; refine wpList_load_mid rfl 29 (.tmp 58) rfl ba (oa + Q * 32) rfl YA.toList _ rLast Tryz.underlying29 rfl jYA ?_) | (guard_target =~ wpList _ _ _ ({ dst := _, op := Op.store 29 _ _, .. } :: _) _ _; refine wpList_store_anyN rfl rfl 29 (.tmp 14) (.tmp 59) rfl _ YA rfl rfl 29 Z (Row.new _ Z 29) iYA (by rw [hZ, sYA]) oYA ?_; intro we RY te))
        have TDE : Turn (fun q => q = wd.heap.size) wd we := ((Turn.refl no wd).alloc _).of_no.trans te (fun _ _ e => e)
        have gl := RL2.lt
        have gr := RR.lt
        have RL3 := Row.turn RL2 TDE (fun e => by omega)
        have RR3 := Row.turn RR TDE (fun e => by omega)
        have TE := TD.trans TDE (fun i hi e => by have := TD.size; omega)
        have ld := LD.out we TE
        clear TDE te RL2 RR TD gl gr LD rLast
        generalize wd.heap.size = g14 at *
        go_upto_region 13 with (first | (go_at_call 70; refine ld.mono ?_; clear ld; rintro e wf ⟨rfl, tf⟩) | (guard_target =~ wpList _ _ _ ({ dst := _, op := Op.store 29 _ _, .. } :: _) _ _; refine wpList_store_anyN rfl rfl 29 (.tmp 16) (.tmp 72) rfl _ XA rfl rfl 29 Z (Row.new _ Z 29) iXA (by rw [hZ, sXA]) oXA ?_; intro wh RX th))
        have TGH : Turn (fun q => q = wf.heap.size) wf wh := ((Turn.refl no wf).alloc _).of_no.trans th (fun _ _ e => e)
        have TFH := tf.trans TGH (fun i hi e => by have := tf.size; omega)
        have HR : Shut (∀ W, Turn no wh W → Row W g12 LA 29 ∧ Row W g13 RA 29 ∧ Row W wf.heap.size XA 29 ∧ Row W g14 YA 29) := fun W T => ⟨Row.turn (Row.turn RL3 TFH (fun q => q)) T (fun q => q), Row.turn (Row.turn RR3 TFH (fun q => q)) T (fun q => q), Row.turn RX T (fun q => q), Row.turn (Row.turn RY TFH (fun q => q)) T (fun q => q)⟩
        have HTH := shut (TE.then_no TFH)
        have TH := HTH.out
        clear TGH tf th TFH RL3 RR3 RX RY TE hzv
        generalize wf.heap.size = gx at *
        have rL := Row.rng (HR.out wh (Turn.refl no wh)).1
        have rR := Row.rng (HR.out wh (Turn.refl no wh)).2.1
        have rX := Row.rng (HR.out wh (Turn.refl no wh)).2.2.1
        have rY := Row.rng (HR.out wh (Turn.refl no wh)).2.2.2
        have jL : (Tryz.prog.info? 29).map (·.size) = some LA.toList.length := by rw [Array.length_toList]; exact iLA
        have jR : (Tryz.prog.info? 29).map (·.size) = some RA.toList.length := by rw [Array.length_toList]; exact iRA
        have jX : (Tryz.prog.info? 29).map (·.size) = some XA.toList.length := by rw [Array.length_toList]; exact iXA
        have he1 := HE1.out
        have he2 := HE2.out
        cases e1 with
        | false =>
          have hc1 := shut (hcl'.out (Or.inl rfl))
          go_upto_region 14 with (first | (guard_target =~ wpList _ _ _ ({ dst := some 73, op := Op.load 29 _, .. } :: _) _ _; refine wpList_load_midG (by kernel_rfl) 29 (.tmp 16) rfl gx 0 rfl XA.toList _ rX Tryz.underlying29 rfl jX ?_) | (guard_target =~ wpList _ _ _ ({ dst := some 74, op := Op.load 29 _, .. } :: _) _ _; refine wpList_load_midG (by kernel_rfl) 29 (.tmp 12) rfl g12 0 rfl LA.toList _ rL Tryz.underlying29 rfl jL ?_))
          refine wp_region_held_drew (S := fun W => Turn no wh W) (by kernel_rfl) (Turn.refl no wh).drew (fun hHeld => ?_)
          refine' wpAnyH_take (i := 0) (v := .agg LA) rfl (by kernel_rfl) (by kernel_rfl) (by kernel_rfl) (fun _ _ _ h => h) (yieldsIf_load_mid (by kernel_rfl) 29 (.tmp 12) rfl g12 0 (by kernel_rfl) LA.toList _ (fun W h => Row.rng (HR.out W h).1) Tryz.underlying29 rfl jL) hHeld ?a0
          refine' wpAnyH_take (i := 1) (v := .agg RA) rfl (by kernel_rfl) (by kernel_rfl) (by kernel_rfl) (fun _ _ _ h => h) (yieldsIf_load_mid (by kernel_rfl) 29 (.tmp 13) rfl g13 0 (by kernel_rfl) RA.toList _ (fun W h => Row.rng (HR.out W h).2.1) Tryz.underlying29 rfl jR) hHeld ?a1
          refine' wpAnyH_take (i := 3) (v := .agg XA) rfl (by kernel_rfl) (by kernel_rfl) (by kernel_rfl) (fun _ _ _ h => h) (yieldsIf_load_mid (by kernel_rfl) 29 (.tmp 16) rfl gx 0 (by kernel_rfl) XA.toList _ (fun W h => Row.rng (HR.out W h).2.2.1) Tryz.underlying29 rfl jX) hHeld ?a2
          refine' wpAnyH_take (i := 4) (v := .agg YA) rfl (by kernel_rfl) (by kernel_rfl) (by kernel_rfl) (fun _ _ _ h => h) (yieldsIf_load_mid (by kernel_rfl) 29 (.tmp 14) rfl g14 0 (by kernel_rfl) YA.toList _ (fun W h => Row.rng (HR.out W h).2.2.2) Tryz.underlying29 rfl jYA) hHeld ?a3
          refine wpAnyH_ready (rs := [2]) (by kernel_rfl) (by simp) ?_
          refine AllReadyH.cons rfl (fun K hK => ?_) AllReadyH.nil
          go_simp
          refine (I1.out _ (HTH.out.then_no hHeld)).mono ?_
          rintro e w3 ⟨z3, rfl, b3, t3⟩
          refine hK.out _ _ (hHeld.then_no t3) (fun hHeld => ?_)
          clear hK
          refine wpAnyH_ready (rs := [5]) (by kernel_rfl) (by simp) ?_
          refine AllReadyH.cons rfl (fun K hK => ?_) AllReadyH.nil
          go_simp
          refine (I2.out _ (HTH.out.then_no hHeld)).mono ?_
          rintro e w4 ⟨z4, rfl, b4, t4⟩
          refine hK.out _ _ (hHeld.then_no t4) (fun hHeld => ?_)
          clear hK
          refine wpAnyH_ready (rs := [6]) (by kernel_rfl) (by simp) ?_
          refine AllReadyH.cons rfl (fun K hK => ?_) AllReadyH.nil
          go_simp
          refine (CL.out _ (HTH.out.then_no hHeld) z3 z4 (b3.turn_no t4) b4).mono ?_
          rintro e w5 ⟨rfl, t5⟩
          refine hK.out _ _ (hHeld.then_no t5) (fun hHeld => ?_)
          clear hK
          refine' wpAnyH_take (i := 7) (v := .bool cl) rfl (by kernel_rfl) (by kernel_rfl) (by kernel_rfl) (fun _ _ _ h => h) (Or.inl ⟨by kernel_rfl, fun W hW => ?y1⟩) hHeld ?r1
          · go_simp
          refine wpAnyH_done (by kernel_rfl) ?_ _
          go_simp
          have HT5 := shut (HTH.out.then_no hHeld)
          clear hHeld
          go_wp2_with fail
          go_ret2
          exact Sc.mk false cl rfl ⟨by rw [hc1.out]; rfl, fun h => by cases h⟩ HT5.out
        | true =>
          cases e2 with
          | false =>
            have hc1 := shut (hcl'.out (Or.inr rfl))
            go_upto_region 14 with (first | (guard_target =~ wpList _ _ _ ({ dst := some 73, op := Op.load 29 _, .. } :: _) _ _; refine wpList_load_midG (by kernel_rfl) 29 (.tmp 16) rfl gx 0 rfl XA.toList _ rX Tryz.underlying29 rfl jX ?_) | (guard_target =~ wpList _ _ _ ({ dst := some 74, op := Op.load 29 _, .. } :: _) _ _; refine wpList_load_midG (by kernel_rfl) 29 (.tmp 12) rfl g12 0 rfl LA.toList _ rL Tryz.underlying29 rfl jL ?_) | (guard_target =~ wpList _ _ _ ({ dst := some 77, op := Op.load 29 _, .. } :: _) _ _; refine wpList_load_midG (by kernel_rfl) 29 (.tmp 14) rfl g14 0 rfl YA.toList _ rY Tryz.underlying29 rfl jYA ?_) | (guard_target =~ wpList _ _ _ ({ dst := some 78, op := Op.load 29 _, .. } :: _) _ _; refine wpList_load_midG (by kernel_rfl) 29 (.tmp 13) rfl g13 0 rfl RA.toList _ rR Tryz.underlying29 rfl jR ?_))
            refine wp_region_held_drew (S := fun W => Turn no wh W) (by kernel_rfl) (Turn.refl no wh).drew (fun hHeld => ?_)
            refine' wpAnyH_take (i := 0) (v := .agg LA) rfl (by kernel_rfl) (by kernel_rfl) (by kernel_rfl) (fun _ _ _ h => h) (yieldsIf_load_mid (by kernel_rfl) 29 (.tmp 12) rfl g12 0 (by kernel_rfl) LA.toList _ (fun W h => Row.rng (HR.out W h).1) Tryz.underlying29 rfl jL) hHeld ?b0
            refine' wpAnyH_take (i := 1) (v := .agg RA) rfl (by kernel_rfl) (by kernel_rfl) (by kernel_rfl) (fun _ _ _ h => h) (yieldsIf_load_mid (by kernel_rfl) 29 (.tmp 13) rfl g13 0 (by kernel_rfl) RA.toList _ (fun W h => Row.rng (HR.out W h).2.1) Tryz.underlying29 rfl jR) hHeld ?b1
            refine' wpAnyH_take (i := 3) (v := .agg XA) rfl (by kernel_rfl) (by kernel_rfl) (by kernel_rfl) (fun _ _ _ h => h) (yieldsIf_load_mid (by kernel_rfl) 29 (.tmp 16) rfl gx 0 (by kernel_rfl) XA.toList _ (fun W h => Row.rng (HR.out W h).2.2.1) Tryz.underlying29 rfl jX) hHeld ?b2
            refine' wpAnyH_take (i := 4) (v := .agg YA) rfl (by kernel_rfl) (by kernel_rfl) (by kernel_rfl) (fun _ _ _ h => h) (yieldsIf_load_mid (by kernel_rfl) 29 (.tmp 14) rfl g14 0 (by kernel_rfl) YA.toList _ (fun W h => Row.rng (HR.out W h).2.2.2) Tryz.underlying29 rfl jYA) hHeld ?b3
            refine wpAnyH_ready (rs := [2]) (by kernel_rfl) (by simp) ?_
            refine AllReadyH.cons rfl (fun K hK => ?_) AllReadyH.nil
            go_simp
            refine (I1.out _ (HTH.out.then_no hHeld)).mono ?_
            rintro e w3 ⟨z3, rfl, b3, t3⟩
            refine hK.out _ _ (hHeld.then_no t3) (fun hHeld => ?_)
            clear hK
            refine wpAnyH_ready (rs := [5]) (by kernel_rfl) (by simp) ?_
            refine AllReadyH.cons rfl (fun K hK => ?_) AllReadyH.nil
            go_simp
            refine (I2.out _ (HTH.out.then_no hHeld)).mono ?_
            rintro e w4 ⟨z4, rfl, b4, t4⟩
            refine hK.out _ _ (hHeld.then_no t4) (fun hHeld => ?_)
            clear hK
            refine wpAnyH_ready (rs := [6]) (by kernel_rfl) (by simp) ?_
            refine AllReadyH.cons rfl (fun K hK => ?_) AllReadyH.nil
            go_simp
            refine (CL.out _ (HTH.out.then_no hHeld) z3 z4 (b3.turn_no t4) b4).mono ?_
            rintro e w5 ⟨rfl, t5⟩
            refine hK.out _ _ (hHeld.then_no t5) (fun hHeld => ?_)
            clear hK
            refine' wpAnyH_take (i := 7) (v := .bool cl) rfl (by kernel_rfl) (by kernel_rfl) (by kernel_rfl) (fun _ _ _ h => h) (Or.inl ⟨by kernel_rfl, fun W hW => ?y2⟩) hHeld ?r2
            · go_simp
            refine wpAnyH_done (by kernel_rfl) ?_ _
            go_simp
            have HT5 := shut (HTH.out.then_no hHeld)
            clear hHeld
            go_wp2_with fail
            go_ret2
            exact Sc.mk false cl rfl ⟨by rw [hc1.out]; rfl, fun h => by cases h⟩ HT5.out
          | true =>
            have rc := RC'.out rfl rfl wh TH
            clear HE1 HE2 I1 I2 CL
            go_wp2_with (first | (guard_target =~ wpList _ _ _ ({ dst := some 73, op := Op.load 29 _, .. } :: _) _ _; refine wpList_load_midG (by kernel_rfl) 29 (.tmp 16) rfl gx 0 rfl XA.toList _ rX Tryz.underlying29 rfl jX ?_) | (guard_target =~ wpList _ _ _ ({ dst := some 74, op := Op.load 29 _, .. } :: _) _ _; refine wpList_load_midG (by kernel_rfl) 29 (.tmp 12) rfl g12 0 rfl LA.toList _ rL Tryz.underlying29 rfl jL ?_) | (guard_target =~ wpList _ _ _ ({ dst := some 77, op := Op.load 29 _, .. } :: _) _ _; refine wpList_load_midG (by kernel_rfl) 29 (.tmp 14) rfl g14 0 rfl YA.toList _ rY Tryz.underlying29 rfl jYA ?_) | (guard_target =~ wpList _ _ _ ({ dst := some 78, op := Op.load 29 _, .. } :: _) _ _; refine wpList_load_midG (by kernel_rfl) 29 (.tmp 13) rfl g13 0 rfl RA.toList _ rR Tryz.underlying29 rfl jR ?_) | (go_at_call 71; refine rc.mono ?_; clear rc; rintro e w6 h6; obtain ⟨s, c, rfl, hsc, t6⟩ := h6; have HSC := shut hsc; clear hsc))
            go_ret2
            exact Sc.mk s c rfl HSC.out (TH.then_no t6)
      · have hst := stepsN_right n a' (by omega) hak
        have hA0 : 0 < A.length := by omega
        obtain ⟨ba, oa, rfl, cl0, ll⟩ := hH.last hA0
        have hll : A.length ≤ cap := hH.le
        have hcm := hH.cap
        have hdl : A.dropLast.length = A.length - 1 := List.length_dropLast
        have tr := leadH_right n a' A y (by omega) hak
        have LD0 := fun W (T : Turn no w W) => lead30 W (n - splitN n) (a' - splitN n) A.dropLast (some ⟨ba, oa, none⟩) cap u y (by omega) (by omega) (by omega) (by rw [hdl]; omega) (hH.turn_no T).init (hb.turn_no T) hy (hl.turn T (fun q => q)) (by have := T.size; omega)
        have RC0 := fun (q : topH (txs (l.drop (splitN n))) = leadH (n - splitN n) (a' - splitN n) A.dropLast y) W (T : Turn no w W) => (ih (n - splitN n) (by omega) (l.drop (splitN n)) b (o + splitN n) (ca - splitN n) (a' - splitN n) A.dropLast (some ⟨ba, oa, none⟩) cap u y W (by simp; omega) ((hP.turn_no T).drop _) (by omega) (by omega) (by omega) (hol.drop _) (by omega) (by rw [hdl]; omega) (hH.turn_no T).init (hb.turn_no T) hy q (hl.turn T (fun q => q)) (by have := T.size; omega)).mono (fun e w' z => Sc.imp (P' := PX) z (fun h => by rw [hPX, ← h, txs_drop, List.getElem?_drop, show splitN n + (a' - splitN n) = a' by omega]))
        rw [hdl] at LD0 RC0
        have l3 := leadH_len (n - splitN n) (a' - splitN n) A.dropLast y
        have hh : hashOf (1 :: (topH (txs (l.take (splitN n))) ++ topH (txs (l.drop (splitN n))))) = hashOf (1 :: (A.getLastD [] ++ leadH (n - splitN n) (a' - splitN n) A.dropLast y)) := by rw [← tl, ht, tr]
        have HL : Shut (∀ W, Turn no w W → W.rangeAt ba (oa + (A.length - 1) * 32) (hb32 (A.getLastD [])).toList) := fun W T => by
          have e : (hb32 (A.getLastD [])).toList = (A.getLastD []).map bv := by simp [hb32]
          rw [e]
          exact fun i v hi => T.keep (cl0 i v hi) (fun q => q)
        have hlx := hl
        clear ih tl ht hP hol hln hH hb hA hst cl0 tr hdl
        generalize leadH (n - splitN n) (a' - splitN n) A.dropLast y = X at *
        generalize topH (txs (l.take (splitN n))) = L at *
        generalize topH (txs (l.drop (splitN n))) = R at *
        generalize A.getLastD [] = la at *
        have LD := shut LD0
        have RC := shut RC0
        clear LD0 RC0
        have I1 : Shut (∀ W, Turn no w W → Calls Tryz.prog 14 #[.agg (hb32 L), .agg (hb32 R)] W fun e w' => ∃ z, e = .returned z ∧ Bs w' z (1 :: (L ++ R)) ∧ Turn no W w') := fun W T => (innerText_any W L R l1 l2).mono (fun e w' ⟨z, e1, o, t⟩ => ⟨z, e1, o.bs, t⟩)
        have I2 : Shut (∀ W, Turn no w W → Calls Tryz.prog 14 #[.agg (hb32 la), .agg (hb32 X)] W fun e w' => ∃ z, e = .returned z ∧ Bs w' z (1 :: (la ++ X)) ∧ Turn no W w') := fun W T => (innerText_any W la X ll l3).mono (fun e w' ⟨z, e1, o, t⟩ => ⟨z, e1, o.bs, t⟩)
        have CL : Shut (∀ W, Turn no w W → ∀ z z', Bs W z (1 :: (L ++ R)) → Bs W z' (1 :: (la ++ X)) → Calls Tryz.prog 15 #[z, z'] W fun e w' => e = .returned (.bool (clB (1 :: (L ++ R)) (1 :: (la ++ X)))) ∧ Turn no W w') := fun W T z z' q1 q2 => clash26 W z z' _ _ q1 q2 (by simp [l1, l2]) (by simp [ll, l3]) (hlx.turn T (fun q => q)) (by have := T.size; omega)
        have HE1 : Shut (∀ W, (Op.equalIn 10000 29 (.agg (hb32 la)) (.agg (hb32 L))).run Tryz.prog W = .ok (la == L) W) := fun W => eqIn35 W la L ll l1
        have HE2 : Shut (∀ W, (Op.equalIn 10000 29 (.agg (hb32 X)) (.agg (hb32 R))).run Tryz.prog W = .ok (X == R) W) := fun W => eqIn35 W X R l3 l2
        have hcl' : Shut ((la == L) = false ∨ (X == R) = false → clB (1 :: (L ++ R)) (1 :: (la ++ X)) = true) := fun q => clB_inner (by omega) (fun e => by
          rcases q with q | q
          · rw [e.1] at q; simp at q
          · rw [e.2] at q; simp at q) hh
        have RC' : Shut ((la == L) = true → (X == R) = true → ∀ W, Turn no w W → Calls Tryz.prog 71 #[.slice (some ⟨b, o + splitN n, none⟩) (n - splitN n) (ca - splitN n), .int .i64 (((a' - splitN n) : Nat) : Int), .slice (some ⟨ba, oa, none⟩) (A.length - 1) cap, u] W fun e w' => Sc PX W e w') := fun q1 q2 => RC.out (by have : X = R := (by simpa using q2); exact this.symm)
        have hZ := hb32_size z32_len
        have hzv := zero35v
        have sLA := hb32_size l1
        have oLA := hb32_one L
        have iLA := hb32_info l1
        have sRA := hb32_size l2
        have oRA := hb32_one R
        have iRA := hb32_info l2
        have sXA := hb32_size l3
        have oXA := hb32_one X
        have iXA := hb32_info l3
        have sYA := hb32_size ll
        have oYA := hb32_one la
        have iYA := hb32_info ll
        generalize clB (1 :: (L ++ R)) (1 :: (la ++ X)) = cl at *
        generalize 1 :: (L ++ R) = TX at *
        generalize 1 :: (la ++ X) = TY at *
        generalize (la == L) = e1 at *
        generalize (X == R) = e2 at *
        clear RC hh l1 l2 l3 ll hl hlx hy
        generalize hb32 L = LA at *
        generalize hb32 R = RA at *
        generalize hb32 X = XA at *
        generalize hb32 la = YA at *
        generalize hb32 z32 = Z at *
        obtain ⟨k, hk⟩ : ∃ k, splitN n = k := ⟨_, rfl⟩
        rw [hk] at T1 T2 LD RC' hk1 hk2 hsp hak
        clear hk
        obtain ⟨Q, hQ⟩ : ∃ Q, A.length = Q + 1 := ⟨A.length - 1, by omega⟩
        rw [hQ] at LD RC' HL hle hll ⊢
        rw [Nat.add_sub_cancel] at LD RC' HL
        clear hQ hA0
        have hwr : IntKind.i64.wrap (((Q + 1 : Nat) : Int) - 1) = (Q : Int) := by rw [IntKind.wrap_i64]; omega
        have hlt : (Q : Int) < ((Q + 1 : Nat) : Int) := by omega
        have hcap : ¬ cap < Q := by omega
        have hcm' : cap ≤ 9223372036854775807 := by simp only [maxLen] at hcm; omega
        have hn1 : ((n : Int) == 1) = false := by simp; omega
        have hkc : (k : Int) ≤ (ca : Int) := by omega
        have hkn : (k : Int) ≤ (n : Int) := by omega
        have hkne : ¬ ca = k := by omega
        have hak' : ¬ (a' : Int) < (k : Int) := by omega
        obtain ⟨nk, hnk⟩ : ∃ nk, n - k = nk := ⟨_, rfl⟩
        obtain ⟨ak, hak2⟩ : ∃ ak, a' - k = ak := ⟨_, rfl⟩
        have w1 : IntKind.i64.wrap ((n : Int) - (k : Int)) = (nk : Int) := by rw [IntKind.wrap_i64]; omega
        have w2 : IntKind.i64.wrap ((a' : Int) - (k : Int)) = (ak : Int) := by rw [IntKind.wrap_i64]; omega
        rw [hnk, hak2] at LD
        rw [hak2] at RC'
        clear hnk hak2
        have t1 := T1.out w (Turn.refl no w)
        clear T1 hcm hma ha
        go_enter Tryz.func71, Tryz.ntmps71
        go_upto_region 8 with (first | (go_at_call 40; refine (hsp _).mono ?_; clear hsp; rintro e w' ⟨rfl, hw'⟩; subst hw') | (go_at_call 17; refine t1.mono ?_; clear t1; rintro e wa ⟨rfl, ta⟩) | (guard_target =~ wpList _ _ _ ({ dst := _, op := Op.store 29 _ _, .. } :: _) _ _; refine wpList_store_anyN rfl rfl 29 (.tmp 12) (.tmp 49) rfl _ LA rfl rfl 29 Z (Row.new _ Z 29) iLA (by rw [hZ, sLA]) oLA ?_; intro wb RL tb))
        have TAB : Turn (fun q => q = wa.heap.size) wa wb := ((Turn.refl no wa).alloc _).of_no.trans tb (fun _ _ e => e)
        have TB := ta.trans TAB (fun i hi e => by have := ta.size; omega)
        have t2 := T2.out wb TB
        clear T2 TAB ta tb
        generalize wa.heap.size = g12 at *
        go_upto_region 9 with (first | (go_at_call 17; refine t2.mono ?_; clear t2; rintro e wc ⟨rfl, tc⟩) | (guard_target =~ wpList _ _ _ ({ dst := _, op := Op.store 29 _ _, .. } :: _) _ _; refine wpList_store_anyN rfl rfl 29 (.tmp 13) (.tmp 53) rfl _ RA rfl rfl 29 Z (Row.new _ Z 29) iRA (by rw [hZ, sRA]) oRA ?_; intro wd RR td))
        have TCD : Turn (fun q => q = wc.heap.size) wc wd := ((Turn.refl no wc).alloc _).of_no.trans td (fun _ _ e => e)
        have TBD := tc.trans TCD (fun i hi e => by have := tc.size; omega)
        have RL2 := Row.turn RL TBD (fun q => q)
        have TD := TB.then_no TBD
        have rLast := HL.out wd TD
        clear TCD tc td TBD RL TB HL
        generalize wc.heap.size = g13 at *
        have jYA : (Tryz.prog.info? 29).map (·.size) = some YA.toList.length := by rw [Array.length_toList]; exact iYA
        go_upto_region 10 with (first | (guard_target =~ wpList _ _ _ ({ dst := _, op := Op.load 29 _, .. } :: _) _ _; refine wpList_load_mid rfl 29 (.tmp 58) rfl ba (oa + Q * 32) rfl YA.toList _ rLast Tryz.underlying29 rfl jYA ?_) | (guard_target =~ wpList _ _ _ ({ dst := _, op := Op.store 29 _ _, .. } :: _) _ _; refine wpList_store_anyN rfl rfl 29 (.tmp 14) (.tmp 59) rfl _ YA rfl rfl 29 Z (Row.new _ Z 29) iYA (by rw [hZ, sYA]) oYA ?_; intro we RY te))
        have TDE : Turn (fun q => q = wd.heap.size) wd we := ((Turn.refl no wd).alloc _).of_no.trans te (fun _ _ e => e)
        have gl := RL2.lt
        have gr := RR.lt
        have RL3 := Row.turn RL2 TDE (fun e => by omega)
        have RR3 := Row.turn RR TDE (fun e => by omega)
        have TE := TD.trans TDE (fun i hi e => by have := TD.size; omega)
        have ld := LD.out we TE
        clear TDE te RL2 RR TD gl gr LD rLast
        generalize wd.heap.size = g14 at *
        go_upto_region 18 with (first | (go_at_call 70; refine ld.mono ?_; clear ld; rintro e wf ⟨rfl, tf⟩) | (guard_target =~ wpList _ _ _ ({ dst := _, op := Op.store 29 _ _, .. } :: _) _ _; refine wpList_store_anyN rfl rfl 29 (.tmp 18) (.tmp 107) rfl _ XA rfl rfl 29 Z (Row.new _ Z 29) iXA (by rw [hZ, sXA]) oXA ?_; intro wh RX th))
        have TGH : Turn (fun q => q = wf.heap.size) wf wh := ((Turn.refl no wf).alloc _).of_no.trans th (fun _ _ e => e)
        have TFH := tf.trans TGH (fun i hi e => by have := tf.size; omega)
        have HR : Shut (∀ W, Turn no wh W → Row W g12 LA 29 ∧ Row W g13 RA 29 ∧ Row W wf.heap.size XA 29 ∧ Row W g14 YA 29) := fun W T => ⟨Row.turn (Row.turn RL3 TFH (fun q => q)) T (fun q => q), Row.turn (Row.turn RR3 TFH (fun q => q)) T (fun q => q), Row.turn RX T (fun q => q), Row.turn (Row.turn RY TFH (fun q => q)) T (fun q => q)⟩
        have HTH := shut (TE.then_no TFH)
        have TH := HTH.out
        clear TGH tf th TFH RL3 RR3 RX RY TE hzv
        generalize wf.heap.size = gx at *
        have rL := Row.rng (HR.out wh (Turn.refl no wh)).1
        have rR := Row.rng (HR.out wh (Turn.refl no wh)).2.1
        have rX := Row.rng (HR.out wh (Turn.refl no wh)).2.2.1
        have rY := Row.rng (HR.out wh (Turn.refl no wh)).2.2.2
        have jL : (Tryz.prog.info? 29).map (·.size) = some LA.toList.length := by rw [Array.length_toList]; exact iLA
        have jR : (Tryz.prog.info? 29).map (·.size) = some RA.toList.length := by rw [Array.length_toList]; exact iRA
        have jX : (Tryz.prog.info? 29).map (·.size) = some XA.toList.length := by rw [Array.length_toList]; exact iXA
        have he1 := HE1.out
        have he2 := HE2.out
        cases e1 with
        | false =>
          have hc1 := shut (hcl'.out (Or.inl rfl))
          go_upto_region 19 with (first | (guard_target =~ wpList _ _ _ ({ dst := some 108, op := Op.load 29 _, .. } :: _) _ _; refine wpList_load_midG (by kernel_rfl) 29 (.tmp 14) rfl g14 0 rfl YA.toList _ rY Tryz.underlying29 rfl jYA ?_) | (guard_target =~ wpList _ _ _ ({ dst := some 109, op := Op.load 29 _, .. } :: _) _ _; refine wpList_load_midG (by kernel_rfl) 29 (.tmp 12) rfl g12 0 rfl LA.toList _ rL Tryz.underlying29 rfl jL ?_))
          refine wp_region_held_drew (S := fun W => Turn no wh W) (by kernel_rfl) (Turn.refl no wh).drew (fun hHeld => ?_)
          refine' wpAnyH_take (i := 0) (v := .agg LA) rfl (by kernel_rfl) (by kernel_rfl) (by kernel_rfl) (fun _ _ _ h => h) (yieldsIf_load_mid (by kernel_rfl) 29 (.tmp 12) rfl g12 0 (by kernel_rfl) LA.toList _ (fun W h => Row.rng (HR.out W h).1) Tryz.underlying29 rfl jL) hHeld ?c0
          refine' wpAnyH_take (i := 1) (v := .agg RA) rfl (by kernel_rfl) (by kernel_rfl) (by kernel_rfl) (fun _ _ _ h => h) (yieldsIf_load_mid (by kernel_rfl) 29 (.tmp 13) rfl g13 0 (by kernel_rfl) RA.toList _ (fun W h => Row.rng (HR.out W h).2.1) Tryz.underlying29 rfl jR) hHeld ?c1
          refine' wpAnyH_take (i := 3) (v := .agg YA) rfl (by kernel_rfl) (by kernel_rfl) (by kernel_rfl) (fun _ _ _ h => h) (yieldsIf_load_mid (by kernel_rfl) 29 (.tmp 14) rfl g14 0 (by kernel_rfl) YA.toList _ (fun W h => Row.rng (HR.out W h).2.2.2) Tryz.underlying29 rfl jYA) hHeld ?c2
          refine' wpAnyH_take (i := 4) (v := .agg XA) rfl (by kernel_rfl) (by kernel_rfl) (by kernel_rfl) (fun _ _ _ h => h) (yieldsIf_load_mid (by kernel_rfl) 29 (.tmp 18) rfl gx 0 (by kernel_rfl) XA.toList _ (fun W h => Row.rng (HR.out W h).2.2.1) Tryz.underlying29 rfl jX) hHeld ?c3
          refine wpAnyH_ready (rs := [2]) (by kernel_rfl) (by simp) ?_
          refine AllReadyH.cons rfl (fun K hK => ?_) AllReadyH.nil
          go_simp
          refine (I1.out _ (HTH.out.then_no hHeld)).mono ?_
          rintro e w3 ⟨z3, rfl, b3, t3⟩
          refine hK.out _ _ (hHeld.then_no t3) (fun hHeld => ?_)
          clear hK
          refine wpAnyH_ready (rs := [5]) (by kernel_rfl) (by simp) ?_
          refine AllReadyH.cons rfl (fun K hK => ?_) AllReadyH.nil
          go_simp
          refine (I2.out _ (HTH.out.then_no hHeld)).mono ?_
          rintro e w4 ⟨z4, rfl, b4, t4⟩
          refine hK.out _ _ (hHeld.then_no t4) (fun hHeld => ?_)
          clear hK
          refine wpAnyH_ready (rs := [6]) (by kernel_rfl) (by simp) ?_
          refine AllReadyH.cons rfl (fun K hK => ?_) AllReadyH.nil
          go_simp
          refine (CL.out _ (HTH.out.then_no hHeld) z3 z4 (b3.turn_no t4) b4).mono ?_
          rintro e w5 ⟨rfl, t5⟩
          refine hK.out _ _ (hHeld.then_no t5) (fun hHeld => ?_)
          clear hK
          refine' wpAnyH_take (i := 7) (v := .bool cl) rfl (by kernel_rfl) (by kernel_rfl) (by kernel_rfl) (fun _ _ _ h => h) (Or.inl ⟨by kernel_rfl, fun W hW => ?y3⟩) hHeld ?r3
          · go_simp
          refine wpAnyH_done (by kernel_rfl) ?_ _
          go_simp
          have HT5 := shut (HTH.out.then_no hHeld)
          clear hHeld
          go_wp2_with fail
          go_ret2
          exact Sc.mk false cl rfl ⟨by rw [hc1.out]; rfl, fun h => by cases h⟩ HT5.out
        | true =>
          cases e2 with
          | false =>
            have hc1 := shut (hcl'.out (Or.inr rfl))
            go_upto_region 19 with (first | (guard_target =~ wpList _ _ _ ({ dst := some 108, op := Op.load 29 _, .. } :: _) _ _; refine wpList_load_midG (by kernel_rfl) 29 (.tmp 14) rfl g14 0 rfl YA.toList _ rY Tryz.underlying29 rfl jYA ?_) | (guard_target =~ wpList _ _ _ ({ dst := some 109, op := Op.load 29 _, .. } :: _) _ _; refine wpList_load_midG (by kernel_rfl) 29 (.tmp 12) rfl g12 0 rfl LA.toList _ rL Tryz.underlying29 rfl jL ?_) | (guard_target =~ wpList _ _ _ ({ dst := some 112, op := Op.load 29 _, .. } :: _) _ _; refine wpList_load_midG (by kernel_rfl) 29 (.tmp 18) rfl gx 0 rfl XA.toList _ rX Tryz.underlying29 rfl jX ?_) | (guard_target =~ wpList _ _ _ ({ dst := some 113, op := Op.load 29 _, .. } :: _) _ _; refine wpList_load_midG (by kernel_rfl) 29 (.tmp 13) rfl g13 0 rfl RA.toList _ rR Tryz.underlying29 rfl jR ?_))
            refine wp_region_held_drew (S := fun W => Turn no wh W) (by kernel_rfl) (Turn.refl no wh).drew (fun hHeld => ?_)
            refine' wpAnyH_take (i := 0) (v := .agg LA) rfl (by kernel_rfl) (by kernel_rfl) (by kernel_rfl) (fun _ _ _ h => h) (yieldsIf_load_mid (by kernel_rfl) 29 (.tmp 12) rfl g12 0 (by kernel_rfl) LA.toList _ (fun W h => Row.rng (HR.out W h).1) Tryz.underlying29 rfl jL) hHeld ?d0
            refine' wpAnyH_take (i := 1) (v := .agg RA) rfl (by kernel_rfl) (by kernel_rfl) (by kernel_rfl) (fun _ _ _ h => h) (yieldsIf_load_mid (by kernel_rfl) 29 (.tmp 13) rfl g13 0 (by kernel_rfl) RA.toList _ (fun W h => Row.rng (HR.out W h).2.1) Tryz.underlying29 rfl jR) hHeld ?d1
            refine' wpAnyH_take (i := 3) (v := .agg YA) rfl (by kernel_rfl) (by kernel_rfl) (by kernel_rfl) (fun _ _ _ h => h) (yieldsIf_load_mid (by kernel_rfl) 29 (.tmp 14) rfl g14 0 (by kernel_rfl) YA.toList _ (fun W h => Row.rng (HR.out W h).2.2.2) Tryz.underlying29 rfl jYA) hHeld ?d2
            refine' wpAnyH_take (i := 4) (v := .agg XA) rfl (by kernel_rfl) (by kernel_rfl) (by kernel_rfl) (fun _ _ _ h => h) (yieldsIf_load_mid (by kernel_rfl) 29 (.tmp 18) rfl gx 0 (by kernel_rfl) XA.toList _ (fun W h => Row.rng (HR.out W h).2.2.1) Tryz.underlying29 rfl jX) hHeld ?d3
            refine wpAnyH_ready (rs := [2]) (by kernel_rfl) (by simp) ?_
            refine AllReadyH.cons rfl (fun K hK => ?_) AllReadyH.nil
            go_simp
            refine (I1.out _ (HTH.out.then_no hHeld)).mono ?_
            rintro e w3 ⟨z3, rfl, b3, t3⟩
            refine hK.out _ _ (hHeld.then_no t3) (fun hHeld => ?_)
            clear hK
            refine wpAnyH_ready (rs := [5]) (by kernel_rfl) (by simp) ?_
            refine AllReadyH.cons rfl (fun K hK => ?_) AllReadyH.nil
            go_simp
            refine (I2.out _ (HTH.out.then_no hHeld)).mono ?_
            rintro e w4 ⟨z4, rfl, b4, t4⟩
            refine hK.out _ _ (hHeld.then_no t4) (fun hHeld => ?_)
            clear hK
            refine wpAnyH_ready (rs := [6]) (by kernel_rfl) (by simp) ?_
            refine AllReadyH.cons rfl (fun K hK => ?_) AllReadyH.nil
            go_simp
            refine (CL.out _ (HTH.out.then_no hHeld) z3 z4 (b3.turn_no t4) b4).mono ?_
            rintro e w5 ⟨rfl, t5⟩
            refine hK.out _ _ (hHeld.then_no t5) (fun hHeld => ?_)
            clear hK
            refine' wpAnyH_take (i := 7) (v := .bool cl) rfl (by kernel_rfl) (by kernel_rfl) (by kernel_rfl) (fun _ _ _ h => h) (Or.inl ⟨by kernel_rfl, fun W hW => ?y4⟩) hHeld ?r4
            · go_simp
            refine wpAnyH_done (by kernel_rfl) ?_ _
            go_simp
            have HT5 := shut (HTH.out.then_no hHeld)
            clear hHeld
            go_wp2_with fail
            go_ret2
            exact Sc.mk false cl rfl ⟨by rw [hc1.out]; rfl, fun h => by cases h⟩ HT5.out
          | true =>
            have rc := RC'.out rfl rfl wh TH
            clear HE1 HE2 I1 I2 CL
            go_wp2_with (first | (guard_target =~ wpList _ _ _ ({ dst := some 108, op := Op.load 29 _, .. } :: _) _ _; refine wpList_load_midG (by kernel_rfl) 29 (.tmp 14) rfl g14 0 rfl YA.toList _ rY Tryz.underlying29 rfl jYA ?_) | (guard_target =~ wpList _ _ _ ({ dst := some 109, op := Op.load 29 _, .. } :: _) _ _; refine wpList_load_midG (by kernel_rfl) 29 (.tmp 12) rfl g12 0 rfl LA.toList _ rL Tryz.underlying29 rfl jL ?_) | (guard_target =~ wpList _ _ _ ({ dst := some 112, op := Op.load 29 _, .. } :: _) _ _; refine wpList_load_midG (by kernel_rfl) 29 (.tmp 18) rfl gx 0 rfl XA.toList _ rX Tryz.underlying29 rfl jX ?_) | (guard_target =~ wpList _ _ _ ({ dst := some 113, op := Op.load 29 _, .. } :: _) _ _; refine wpList_load_midG (by kernel_rfl) 29 (.tmp 13) rfl g13 0 rfl RA.toList _ rR Tryz.underlying29 rfl jR ?_) | (go_at_call 71; refine rc.mono ?_; clear rc; rintro e w6 h6; obtain ⟨s, c, rfl, hsc, t6⟩ := h6; have HSC := shut hsc; clear hsc))
            go_ret2
            exact Sc.mk s c rfl HSC.out (TH.then_no t6)
end Go.Proofs.YtlacfenenbblaaaGreatDoor

