/- Verify, the document's. -/
import Derived.Test.YtgbcdjjnpadddaaGreatDoorSg
namespace Go.Proofs.YtgbcdjjnpadddaaGreatDoor
open Go.RowKit
set_option linter.unusedVariables false

theorem plainE_h {a : Vt} (hp : plainE a = 0) : 1 ≤ a.h.toNat := by
  have hb : ∀ b : Bool, fieldE (hB a.h && rB a.r && b && a.f != 0) = 0 → 1 ≤ a.h := fun b q => by
    unfold fieldE hB at q
    simp at q
    omega
  unfold plainE at hp
  split at hp
  · have := hb _ hp; omega
  · split at hp
    · have := hb _ hp; omega
    · cases hp
set_option maxRecDepth 100000 in
set_option maxHeartbeats 8000000 in
theorem rverify8 {w : World} {q : Nat} {ve vr : Value} {E : List UInt64} {R : List Rec} (h : Rf w q ve vr E R) (SA : Array Value) (c : ByteArray) (age hh : Nat) (pv ov : Value) (hS : StC SA c age hh pv ov) (hh64 : hh < 18446744073709551616) (P : List Pa) (hP : Pas w pv P) (O : List (Nat × Nat)) (hO : Ofs w ov O)
    (a b : Vt) (ha : a.fits) (hb : b.fits) (hl : Laid0 w) (h3 : 3 ≤ w.heap.size) :
    Calls Tryz.prog 40 #[.agg SA, .pointer (some ⟨q, 0, none⟩), .agg (evC a b)] w fun e w' => e = .returned (.int .i64 (verE c P O age hh R a b)) ∧ Turn no w w' := by
  obtain ⟨w0, hw0⟩ : ∃ w0, (w.alloc (.cells SA 37)).alloc (.cells (evC a b) 52) = w0 := ⟨_, rfl⟩
  have T0 : Turn no w w0 := by rw [← hw0]; exact ((Turn.refl no w).alloc _).alloc _
  have RS : Row w0 w.heap.size SA 37 := by rw [← hw0]; exact (Row.new w SA 37).alloc _
  have RE : Row w0 (w.heap.size + 1) (evC a b) 52 := by rw [← hw0]; exact Row.newAt _ _ _ _ (by simp)
  have hgo := good34 (h.turn_no T0)
  have hpr := rpair6 w0 a b ha.1 hb.1
  have fa : a.f = (a.f.toNat : Int) := by have := ha.2.2.2; omega
  have fh : a.h = (a.h.toNat : Int) := by have := ha.2.1; omega
  have iS := hS.size
  have iE : (Tryz.prog.info? 52).map (·.size) = some (evC a b).size := by rw [evC_size ha.1 hb.1]; exact size32
  have sPC : (pairC a b).size = 106 := by
    unfold pairC
    split
    · exact evC_size zvt_ok zvt_ok
    · split
      · exact evC_size hb.1 ha.1
      · exact evC_size ha.1 hb.1
  have oPC : (pairC a b).all (·.oneCell') = true := by
    unfold pairC
    split
    · exact evC_one _ _
    · split
      · exact evC_one _ _
      · exact evC_one _ _
  have iPC : (Tryz.prog.info? 52).map (·.size) = some (pairC a b).size := by rw [sPC]; exact size32
  have i43 : (Tryz.prog.info? 50).map (·.size) = some a.cs.length := by rw [a.len ha.1]; exact qsize29
  have j43 : (Tryz.prog.info? 50).map (·.size) = some b.cs.length := by rw [b.len hb.1]; exact qsize29
  have z32 := zero32
  have sZ : (evC zvt zvt).size = 106 := evC_size zvt_ok zvt_ok
  have hone : Hid (pairE a b = 0 → 1 ≤ a.h.toNat) := fun hp => plainE_h (pair_ids hp).2.2.2.2.2.1
  have HQ : Shut (pairE a b = 0 → ∀ W, (Op.equalIn 10000 52 (.agg (pairC a b)) (.agg (evC a b))).run Tryz.prog W = .ok (!(ltB b.id a.id)) W) := fun hp W => by
    have hne := (pair_ids hp).1
    cases hlt : ltB b.id a.id with
    | true =>
      have : pairC a b = evC b a := by unfold pairC; rw [if_neg (by simp [hp]), if_pos hlt]
      rw [this, eqEv W b a a b hb.1 ha.1 ha.1 hb.1]
      have : eqEvQ b a a b = false := by
        rw [Bool.eq_false_iff]
        intro q
        have := (eqEvQ_iff b a a b).1 q
        exact hne (by rw [this.1])
      rw [this]
      rfl
    | false =>
      have : pairC a b = evC a b := by unfold pairC; rw [if_neg (by simp [hp]), if_neg (by rw [hlt]; simp)]
      rw [this, eqEv W a b a b ha.1 hb.1 ha.1 hb.1]
      have : eqEvQ a b a b = true := (eqEvQ_iff a b a b).2 ⟨rfl, rfl⟩
      rw [this]
      rfl
  have HPA : Shut (∀ W, Turn no w W → Calls Tryz.prog 42 #[.agg SA, .int .u64 (a.h.toNat : Nat)] W fun e w' => e = .returned (.int .i64 (idxP P a.h.toNat)) ∧ Turn no W w') := fun W t => past29 W SA c age hh a.h.toNat pv ov hS P (hP.turn_no t)
  have HCU : Shut (∀ W, Turn no w W → Calls Tryz.prog 43 #[.agg SA, .int .u64 (a.h.toNat : Nat)] W fun e w' => e = .returned (.bool (decide (1 ≤ a.h.toNat ∧ a.h.toNat ≤ hh ∧ hh - a.h.toNat < age))) ∧ Turn no W w') := fun W t => counted30 W SA c age hh a.h.toNat pv ov hS hh64
  have HIX : Shut (∀ W v l, Ms W v l → Calls Tryz.prog 70 #[.agg #[v], .int .u64 (a.f.toNat : Nat)] W fun e w' => e = .returned (.int .i64 (idxE l a.f.toNat)) ∧ Turn no W w') := fun W v l h => rindex31 W v l h a.f.toNat
  have HPU : Shut (∀ W, Turn no w W → Calls Tryz.prog 41 #[.agg SA, .int .u64 (a.h.toNat : Nat), .int .u64 (a.f.toNat : Nat)] W fun e w' => e = .returned (.bool (hasO O a.h.toNat a.f.toNat)) ∧ Turn no W w') := fun W t => punished32 W SA c age hh a.h.toNat a.f.toNat pv ov hS O (hO.turn_no t)
  have HSA : Shut (∀ W, Turn no w W → Calls Tryz.prog 71 #[.agg SA, .pointer (some ⟨q, 0, none⟩), .agg a.cs.toArray] W fun e w' => e = .returned (.bool (sealQ c R a)) ∧ Turn no W w') := fun W t => rsealed33 (h.turn_no t) SA c age hh pv ov hS a ha (hl.turn t (fun q => q)) (by have := t.size; omega)
  have HSB : Shut (∀ W, Turn no w W → Calls Tryz.prog 71 #[.agg SA, .pointer (some ⟨q, 0, none⟩), .agg b.cs.toArray] W fun e w' => e = .returned (.bool (sealQ c R b)) ∧ Turn no W w') := fun W t => rsealed33 (h.turn_no t) SA c age hh pv ov hS b hb (hl.turn t (fun q => q)) (by have := t.size; omega)
  have HE : Shut (∀ W, Turn no w0 W → Row W w.heap.size SA 37 ∧ Row W (w.heap.size + 1) (evC a b) 52 ∧ W.cell? ⟨w.heap.size, 49, none⟩ = some pv ∧ W.cell? ⟨w.heap.size + 1, 1, none⟩ = some (.int .u64 (a.h.toNat : Nat)) ∧ W.cell? ⟨w.heap.size + 1, 36, none⟩ = some (.int .u64 (a.f.toNat : Nat)) ∧ W.rangeAt (w.heap.size + 1) 0 a.cs ∧ W.rangeAt (w.heap.size + 1) 53 b.cs) := fun W t => by
    have r1 := RS.turn t (fun q => q)
    have r2 := RE.turn t (fun q => q)
    exact ⟨r1, r2, r1.cell 49 _ hS.pa, by rw [← fh]; exact r2.cell 1 _ (evC_at ha.1).1, by rw [← fa]; exact r2.cell 36 _ (evC_at ha.1).2, evC_ra r2 ha.1⟩
  have HG : Shut (∀ W, Turn no w W → ∀ k m, P[k]? = some m → ∃ b off c, pv = .slice (some ⟨b, off, none⟩) P.length c ∧ P.length ≤ 9223372036854775807 ∧ W.cell? ⟨b, off + k * 3 + 2, none⟩ = some m.v ∧ Ms W m.v m.l) := fun W t k m hm => (hP.turn_no t).get hm
  have HT0 := shut T0
  unfold verE
  obtain ⟨r1, r2, cp, ch, cf, ra, rb⟩ := HE.out w0 (Turn.refl _ _)
  clear h hS hP hO hl h3 RS RE T0 ha hb fa fh hh64 r1
  generalize hPC : pairC a b = PC at *
  generalize evC a b = EC at *
  generalize evC zvt zvt = Z at *
  generalize pairE a b = pe at *
  generalize ltB b.id a.id = lt at *
  generalize sealQ c R a = sa at *
  generalize sealQ c R b = sb at *
  generalize a.h.toNat = xh at *
  generalize a.f.toNat = xf at *
  generalize a.cs = A at *
  generalize b.cs = B at *
  clear hPC
  obtain ⟨cb, hcb⟩ : ∃ cb, Hid (decide (1 ≤ xh ∧ xh ≤ hh ∧ hh - xh < age) = cb) := ⟨_, rfl⟩
  rw [show decide (1 ≤ xh ∧ xh ≤ hh ∧ hh - xh < age) = cb from hcb.out] at HCU
  obtain ⟨vE, hvE⟩ : ∃ vE, Hid (verX pe lt P O age hh xh xf sa sb = vE) := ⟨_, rfl⟩
  rw [show verX pe lt P O age hh xh xf sa sb = vE from hvE.out]
  go_enter Tryz.func40, Tryz.ntmps40
  go_upto_region 1 with fail
  try rw [hw0]
  clear hw0
  go_upto_region 4 with (go_at_call 47; refine hgo.mono ?_; clear hgo; rintro e w1 ⟨rfl, rfl⟩)
  go_upto_region 5 with (first | (guard_target =~ wpList _ _ _ ({ dst := some 18, .. } :: _) _ _; refine wpList_load_midG (by kernel_rfl) 50 (.tmp 17) rfl (w.heap.size + 1) 0 rfl A _ ra Tryz.underlying50 rfl i43 ?_) | (guard_target =~ wpList _ _ _ ({ dst := some 20, .. } :: _) _ _; refine wpList_load_midG (by kernel_rfl) 50 (.tmp 19) rfl (w.heap.size + 1) 53 rfl B _ rb Tryz.underlying50 rfl j43 ?_) | (go_at_call 69; refine hpr.mono ?_; clear hpr; rintro e w2 ⟨rfl, t2⟩) | (guard_target =~ wpList _ _ _ ({ dst := _, op := Op.store 52 _ _, .. } :: _) _ _; refine wpList_store_anyX rfl rfl 52 (.tmp 8) (.tmp 22) rfl w2.heap.size PC rfl rfl 52 Z (Row.new w2 Z 52) iPC (by rw [sZ, sPC]) oPC ?_; intro w3' R3 t3))
  have T23 : Turn no w2 w3' := ((((Turn.refl no w2).alloc _).of_no.trans t3 (fun _ _ e => e) : Turn (fun q => q = w2.heap.size) w2 w3').mono (fun i hi e => by
    have e' : i = w2.heap.size := e
    omega))
  have T13 := t2.then_no T23
  have T3 := HT0.out.then_no T13
  generalize w2.heap.size = g7 at *
  clear t2 t3 T23 cp ch cf ra rb r2
  obtain ⟨r1, r2, cp, ch, cf, ra, rb⟩ := HE.out w3' T13
  by_cases hp : pe = 0
  · have hq := HQ.out hp
    cases lt with
    | true =>
      have HV : Hid (vE = 110) := by show _ = _; rw [← hvE.out]; unfold verX; rw [if_neg (by simp [hp]), if_pos rfl]
      have HTz := shut T3
      clear HQ HPA HCU HIX HPU HSA HSB HG HE hvE T13 T3
      go_wp2_with (first | (guard_target =~ wpList _ _ _ ({ dst := some 27, .. } :: _) _ _; refine wpList_load_row rfl 52 (.tmp 8) rfl g7 rfl 52 PC _ _ R3 Tryz.underlying52 rfl iPC ?_) | (guard_target =~ wpList _ _ _ ({ dst := some 28, .. } :: _) _ _; refine wpList_load_row rfl 52 (.tmp 5) rfl (w.heap.size + 1) rfl 52 EC _ _ r2 Tryz.underlying52 rfl iE ?_))
      go_ret
      exact ⟨by rw [HV.out]; rfl, HTz.out⟩
    | false =>
      have HV0 : Hid (vE = if ¬ (xh ≤ hh ∧ hh - xh < age) ∨ idxP P xh = -1 then 111 else if idxE (lPa P xh) xf < 0 then 101 else if hasO O xh xf = true then 112 else if sa = true ∧ sb = true then 0 else 84) := by show _ = _; rw [← hvE.out]; unfold verX; rw [if_neg (by simp [hp]), if_neg (by simp)]
      have hpa := HPA.out w3' T3
      have hx1 : Hid (cb = decide (xh ≤ hh ∧ hh - xh < age)) := by
        show _ = _
        rw [← hcb.out]
        have := hone.out hp
        simp [this]
      clear HQ HPA hvE hcb hone
      subst hp
      obtain ⟨ip, hip⟩ : ∃ ip, Hid (idxP P xh = ip) := ⟨_, rfl⟩
      rw [show idxP P xh = ip from hip.out] at hpa
      go_upto_region 10 with (first | (guard_target =~ wpList _ _ _ ({ dst := some 27, .. } :: _) _ _; refine wpList_load_row rfl 52 (.tmp 8) rfl g7 rfl 52 PC _ _ R3 Tryz.underlying52 rfl iPC ?_) | (guard_target =~ wpList _ _ _ ({ dst := some 28, .. } :: _) _ _; refine wpList_load_row rfl 52 (.tmp 5) rfl (w.heap.size + 1) rfl 52 EC _ _ r2 Tryz.underlying52 rfl iE ?_) | (guard_target =~ wpList _ _ _ ({ dst := some 30, .. } :: _) _ _; refine wpList_load_row rfl 37 (.tmp 3) rfl w.heap.size rfl 37 SA _ _ r1 Tryz.underlying37 rfl iS ?_) | (go_at_call 42; refine hpa.mono ?_; clear hpa; rintro e w4 ⟨rfl, t4⟩))
      have T14 := T13.then_no t4
      have T4 := HT0.out.then_no T14
      have hcu := HCU.out w4 T4
      clear HCU T13 T3 t4 R3 r1 r2 cp ch cf ra rb hq
      obtain ⟨r1, r2, cp, ch, cf, ra, rb⟩ := HE.out w4 T14
      have hpi : Hid ((ip = -1 ∨ ∃ (k : Nat) (m : Pa), ip = k ∧ P[k]? = some m) ∧ idxP P xh = ip) := by
        show _ ∧ _
        refine ⟨?_, hip.out⟩
        rcases idxP_at P xh with e | ⟨k, m, e, hm, _⟩
        · exact .inl (hip.out.symm.trans e)
        · exact .inr ⟨k, m, hip.out.symm.trans e, hm⟩
      clear hip
      cases cb with
      | false =>
        have HV : Hid (vE = 111) := by
          show _ = _
          have := hx1.out
          have h1 : ¬ (xh ≤ hh ∧ hh - xh < age) := by simpa using this.symm
          rw [HV0.out, if_pos (Or.inl h1)]
        clear HV0 hx1 HIX HPU HSA HSB HG hpi T14
        go_wp2_with (first | (guard_target =~ wpList _ _ _ ({ dst := some 35, .. } :: _) _ _; refine wpList_load_row rfl 37 (.tmp 3) rfl w.heap.size rfl 37 SA _ _ r1 Tryz.underlying37 rfl iS ?_) | (go_at_call 43; refine hcu.mono ?_; clear hcu; rintro e w5 ⟨rfl, t5⟩))
        have T5 := T4.then_no t5
        go_ret
        exact ⟨by rw [HV.out]; rfl, T5⟩
      | true =>
        have hx2 : Hid (xh ≤ hh ∧ hh - xh < age) := by
          have := hx1.out
          have h1 : xh ≤ hh ∧ hh - xh < age := by simpa using this.symm
          exact h1
        clear hx1
        obtain ⟨e | ⟨k, m, e, hm⟩, hip⟩ := hpi.out
        · have HV : Hid (vE = 111) := by
            show _ = _
            rw [HV0.out, if_pos (Or.inr (hip.trans e))]
          subst e
          clear HV0 HIX HPU HSA HSB HG hpi T14 hip
          go_wp2_with (first | (guard_target =~ wpList _ _ _ ({ dst := some 35, .. } :: _) _ _; refine wpList_load_row rfl 37 (.tmp 3) rfl w.heap.size rfl 37 SA _ _ r1 Tryz.underlying37 rfl iS ?_) | (go_at_call 43; refine hcu.mono ?_; clear hcu; rintro e w5 ⟨rfl, t5⟩))
          have T5 := T4.then_no t5
          go_ret
          exact ⟨by rw [HV.out]; rfl, T5⟩
        · subst e
          have HV1 : Hid (vE = if idxE m.l xf < 0 then 101 else if hasO O xh xf = true then 112 else if sa = true ∧ sb = true then 0 else 84) := by
            have hlp : lPa P xh = m.l := by
              rw [lPa, hip, Int.toNat_natCast, List.getD_eq_getElem?_getD, hm]
              rfl
            show _ = _
            rw [HV0.out, if_neg (by rintro (q | q)
                                    · exact q hx2.out
                                    · rw [hip] at q; omega), hlp]
          have hk0 : ¬ (k : Int) < 0 := by omega
          have hkn0 : Hid (k < P.length) := (List.getElem?_eq_some_iff.1 hm).1
          clear HV0 hpi hip hx2
          go_upto_region 13 with (first | (guard_target =~ wpList _ _ _ ({ dst := some 35, .. } :: _) _ _; refine wpList_load_row rfl 37 (.tmp 3) rfl w.heap.size rfl 37 SA _ _ r1 Tryz.underlying37 rfl iS ?_) | (go_at_call 43; refine hcu.mono ?_; clear hcu; rintro e w5 ⟨rfl, t5⟩))
          have T15 := T14.then_no t5
          have T5 := HT0.out.then_no T15
          clear T14 T4 r1 r2 cp ch cf ra rb t5
          obtain ⟨bb, off, c3, e3, hl, c2, hms⟩ := HG.out w5 T5 k m hm
          cases e3
          obtain ⟨ma, mc, emv, -⟩ := id hms
          have HMS := shut hms
          rw [emv] at c2 HMS
          obtain ⟨nP, hnP⟩ : ∃ n, Hid (P.length = n) := ⟨_, rfl⟩
          rw [show P.length = nP from hnP.out] at HE hl
          have hkn : k < nP := by rw [← hnP.out]; exact hkn0.out
          have hkn' : (k : Int) < (nP : Int) := by omega
          have hix := HIX.out w5.drew _ _ (HMS.out.turn_no (Turn.refl no w5).drew)
          clear hm hms HIX HMS HG hkn0 hnP emv
          obtain ⟨nl, hnl⟩ : ∃ n, Hid (m.l.length = n) := ⟨_, rfl⟩
          rw [show m.l.length = nl from hnl.out] at hix c2
          clear hnl
          obtain ⟨ix, hix0⟩ : ∃ ix, Hid (idxE m.l xf = ix) := ⟨_, rfl⟩
          rw [show idxE m.l xf = ix from hix0.out] at HV1 hix
          clear hix0
          have HW5 : Shut (∀ W, Turn no w5 W → W.cell? ⟨w.heap.size, 49, none⟩ = some (.slice (some ⟨bb, off, none⟩) nP c3) ∧ W.cell? ⟨bb, off + k * 3 + 2, none⟩ = some (.slice ma nl mc) ∧ W.cell? ⟨w.heap.size + 1, 36, none⟩ = some (.int .u64 (xf : Nat))) := fun W t => by
            obtain ⟨_, _, cp, _, cf, _, _⟩ := HE.out W (T15.then_no t)
            exact ⟨cp, t.keep c2 (fun q => q), cf⟩
          clear c2
          by_cases hneg : ix < 0
          · have HV : Hid (vE = 101) := by show _ = _; rw [HV1.out, if_pos hneg]
            clear HV1 HPU HSA HSB
            refine wp_region_held_drew (S := fun W => Turn no w5 W) (by kernel_rfl) (Turn.refl _ w5).drew (fun hHeld => ?_)
            refine' wpAnyH_take (i := 0) (v := .pointer (some ⟨w.heap.size, 49, none⟩)) rfl (by kernel_rfl) (by kernel_rfl) (by kernel_rfl) (fun _ _ _ h => h) (Or.inl ⟨by kernel_rfl, fun W hW => ?ay0⟩) hHeld ?ar0
            · skip
              go_simp
            refine' wpAnyH_take (i := 1) (v := .slice (some ⟨bb, off, none⟩) nP c3) rfl (by kernel_rfl) (by kernel_rfl) (by kernel_rfl) (fun _ _ _ h => h) (Or.inl ⟨by kernel_rfl, fun W hW => ?ay1⟩) hHeld ?ar1
            · obtain ⟨q1, q2, q3⟩ := HW5.out W hW
              go_simp
            refine' wpAnyH_take (i := 2) (v := .int .i64 k) rfl (by kernel_rfl) (by kernel_rfl) (by kernel_rfl) (fun _ _ _ h => h) (Or.inl ⟨by kernel_rfl, fun W hW => ?ay2⟩) hHeld ?ar2
            · skip
              go_simp
            refine' wpAnyH_take (i := 3) (v := .pointer (some ⟨bb, off + k * 3, none⟩)) rfl (by kernel_rfl) (by kernel_rfl) (by kernel_rfl) (fun _ _ _ h => h) (Or.inl ⟨by kernel_rfl, fun W hW => ?ay3⟩) hHeld ?ar3
            · skip
              go_simp
            refine' wpAnyH_take (i := 4) (v := .pointer (some ⟨bb, off + k * 3 + 2, none⟩)) rfl (by kernel_rfl) (by kernel_rfl) (by kernel_rfl) (fun _ _ _ h => h) (Or.inl ⟨by kernel_rfl, fun W hW => ?ay4⟩) hHeld ?ar4
            · skip
              go_simp
            refine' wpAnyH_take (i := 5) (v := .agg #[.slice ma nl mc]) rfl (by kernel_rfl) (by kernel_rfl) (by kernel_rfl) (fun _ _ _ h => h) (Or.inl ⟨by kernel_rfl, fun W hW => ?ay5⟩) hHeld ?ar5
            · obtain ⟨q1, q2, q3⟩ := HW5.out W hW
              go_simp
            refine' wpAnyH_take (i := 6) (v := .pointer (some ⟨w.heap.size + 1, 0, none⟩)) rfl (by kernel_rfl) (by kernel_rfl) (by kernel_rfl) (fun _ _ _ h => h) (Or.inl ⟨by kernel_rfl, fun W hW => ?ay6⟩) hHeld ?ar6
            · skip
              go_simp
            refine' wpAnyH_take (i := 7) (v := .pointer (some ⟨w.heap.size + 1, 36, none⟩)) rfl (by kernel_rfl) (by kernel_rfl) (by kernel_rfl) (fun _ _ _ h => h) (Or.inl ⟨by kernel_rfl, fun W hW => ?ay7⟩) hHeld ?ar7
            · skip
              go_simp
            refine' wpAnyH_take (i := 8) (v := .int .u64 (xf : Nat)) rfl (by kernel_rfl) (by kernel_rfl) (by kernel_rfl) (fun _ _ _ h => h) (Or.inl ⟨by kernel_rfl, fun W hW => ?ay8⟩) hHeld ?ar8
            · obtain ⟨q1, q2, q3⟩ := HW5.out W hW
              go_simp
            refine wpAnyH_ready (rs := [9]) (by kernel_rfl) (by simp) ?_
            refine AllReadyH.cons rfl (fun K hK => ?_) AllReadyH.nil
            go_simp
            refine hix.mono ?_
            rintro e w7 ⟨rfl, t7⟩
            have T57 : Turn no w5 w7 := (Turn.refl no w5).drew.then_no t7
            go_wp2_with fail
            refine hK.out _ _ T57 (fun hHeld => ?_)
            clear hK
            refine wpAnyH_ready (rs := [10]) (by kernel_rfl) (by simp) ?_
            refine AllReadyH.cons rfl (fun K hK => ?_) AllReadyH.nil
            go_simp
            refine hK.out _ _ T57 (fun hHeld => ?_)
            clear hK
            refine wpAnyH_done (by kernel_rfl) ?_ _
            go_wp2_with fail
            go_ret
            exact ⟨by rw [HV.out]; rfl, T5.then_no T57⟩
          · have HV2 : Hid (vE = if hasO O xh xf = true then 112 else if sa = true ∧ sb = true then 0 else 84) := by show _ = _; rw [HV1.out, if_neg hneg]
            clear HV1
            refine wp_region_held_drew (S := fun W => Turn no w5 W) (by kernel_rfl) (Turn.refl _ w5).drew (fun hHeld => ?_)
            refine' wpAnyH_take (i := 0) (v := .pointer (some ⟨w.heap.size, 49, none⟩)) rfl (by kernel_rfl) (by kernel_rfl) (by kernel_rfl) (fun _ _ _ h => h) (Or.inl ⟨by kernel_rfl, fun W hW => ?by0⟩) hHeld ?br0
            · skip
              go_simp
            refine' wpAnyH_take (i := 1) (v := .slice (some ⟨bb, off, none⟩) nP c3) rfl (by kernel_rfl) (by kernel_rfl) (by kernel_rfl) (fun _ _ _ h => h) (Or.inl ⟨by kernel_rfl, fun W hW => ?by1⟩) hHeld ?br1
            · obtain ⟨q1, q2, q3⟩ := HW5.out W hW
              go_simp
            refine' wpAnyH_take (i := 2) (v := .int .i64 k) rfl (by kernel_rfl) (by kernel_rfl) (by kernel_rfl) (fun _ _ _ h => h) (Or.inl ⟨by kernel_rfl, fun W hW => ?by2⟩) hHeld ?br2
            · skip
              go_simp
            refine' wpAnyH_take (i := 3) (v := .pointer (some ⟨bb, off + k * 3, none⟩)) rfl (by kernel_rfl) (by kernel_rfl) (by kernel_rfl) (fun _ _ _ h => h) (Or.inl ⟨by kernel_rfl, fun W hW => ?by3⟩) hHeld ?br3
            · skip
              go_simp
            refine' wpAnyH_take (i := 4) (v := .pointer (some ⟨bb, off + k * 3 + 2, none⟩)) rfl (by kernel_rfl) (by kernel_rfl) (by kernel_rfl) (fun _ _ _ h => h) (Or.inl ⟨by kernel_rfl, fun W hW => ?by4⟩) hHeld ?br4
            · skip
              go_simp
            refine' wpAnyH_take (i := 5) (v := .agg #[.slice ma nl mc]) rfl (by kernel_rfl) (by kernel_rfl) (by kernel_rfl) (fun _ _ _ h => h) (Or.inl ⟨by kernel_rfl, fun W hW => ?by5⟩) hHeld ?br5
            · obtain ⟨q1, q2, q3⟩ := HW5.out W hW
              go_simp
            refine' wpAnyH_take (i := 6) (v := .pointer (some ⟨w.heap.size + 1, 0, none⟩)) rfl (by kernel_rfl) (by kernel_rfl) (by kernel_rfl) (fun _ _ _ h => h) (Or.inl ⟨by kernel_rfl, fun W hW => ?by6⟩) hHeld ?br6
            · skip
              go_simp
            refine' wpAnyH_take (i := 7) (v := .pointer (some ⟨w.heap.size + 1, 36, none⟩)) rfl (by kernel_rfl) (by kernel_rfl) (by kernel_rfl) (fun _ _ _ h => h) (Or.inl ⟨by kernel_rfl, fun W hW => ?by7⟩) hHeld ?br7
            · skip
              go_simp
            refine' wpAnyH_take (i := 8) (v := .int .u64 (xf : Nat)) rfl (by kernel_rfl) (by kernel_rfl) (by kernel_rfl) (fun _ _ _ h => h) (Or.inl ⟨by kernel_rfl, fun W hW => ?by8⟩) hHeld ?br8
            · obtain ⟨q1, q2, q3⟩ := HW5.out W hW
              go_simp
            refine wpAnyH_ready (rs := [9]) (by kernel_rfl) (by simp) ?_
            refine AllReadyH.cons rfl (fun K hK => ?_) AllReadyH.nil
            go_simp
            refine hix.mono ?_
            rintro e w7 ⟨rfl, t7⟩
            have T57 : Turn no w5 w7 := (Turn.refl no w5).drew.then_no t7
            go_wp2_with fail
            refine hK.out _ _ T57 (fun hHeld => ?_)
            clear hK
            refine wpAnyH_ready (rs := [10]) (by kernel_rfl) (by simp) ?_
            refine AllReadyH.cons rfl (fun K hK => ?_) AllReadyH.nil
            go_simp
            refine hK.out _ _ T57 (fun hHeld => ?_)
            clear hK
            refine wpAnyH_done (by kernel_rfl) ?_ _
            have T017 := T15.then_no T57
            have T7 := HT0.out.then_no T017
            obtain ⟨r1, r2, cp, ch, cf, ra, rb⟩ := HE.out w7 T017
            have hpu := HPU.out w7 T7
            clear HPU hix HW5 t7 T57 T5 T15
            obtain ⟨ho, hho⟩ : ∃ h, Hid (hasO O xh xf = h) := ⟨_, rfl⟩
            rw [show hasO O xh xf = ho from hho.out] at hpu HV2
            cases ho with
            | true =>
              have HV : Hid (vE = 112) := by show _ = _; rw [HV2.out, if_pos rfl]
              clear HV2 HSA HSB HE cp ra rb r2
              go_wp2_with (first | (guard_target =~ wpList _ _ _ ({ dst := some 57, .. } :: _) _ _; refine wpList_load_row rfl 37 (.tmp 3) rfl w.heap.size rfl 37 SA _ _ r1 Tryz.underlying37 rfl iS ?_) | (go_at_call 41; refine hpu.mono ?_; clear hpu; rintro e w8 ⟨rfl, t8⟩))
              go_ret
              exact ⟨by rw [HV.out]; rfl, T7.then_no t8⟩
            | false =>
              have HV3 : Hid (vE = if sa = true ∧ sb = true then 0 else 84) := by show _ = _; rw [HV2.out, if_neg (by simp)]
              clear HV2
              cases sa with
              | false =>                
                have HV : Hid (vE = 84) := by show _ = _; rw [HV3.out]; simp
                clear HV3 cp r2 rb
                go_wp2_with (first | (guard_target =~ wpList _ _ _ ({ dst := some 57, .. } :: _) _ _; refine wpList_load_row rfl 37 (.tmp 3) rfl w.heap.size rfl 37 SA _ _ r1 Tryz.underlying37 rfl iS ?_) | (go_at_call 41; refine hpu.mono ?_; clear hpu; rintro e w8 ⟨rfl, t8⟩; have T08 := T017.then_no t8; have T8 := HT0.out.then_no T08; have hsa := HSA.out w8 T8; obtain ⟨r1, _, _, _, _, ra, _⟩ := HE.out w8 T08) | (guard_target =~ wpList _ _ _ ({ dst := some 65, .. } :: _) _ _; refine wpList_load_row rfl 37 (.tmp 3) rfl w.heap.size rfl 37 SA _ _ r1 Tryz.underlying37 rfl iS ?_) | (guard_target =~ wpList _ _ _ ({ dst := some 68, .. } :: _) _ _; refine wpList_load_midG (by kernel_rfl) 50 (.tmp 67) rfl (w.heap.size + 1) 0 rfl A _ ra Tryz.underlying50 rfl i43 ?_) | (go_at_call 71; refine hsa.mono ?_; clear hsa; rintro e w9 ⟨rfl, t9⟩; have T09 := T08.then_no t9; have T9 := HT0.out.then_no T09; have hsb := HSB.out w9 T9; obtain ⟨r1, _, _, _, _, _, rb⟩ := HE.out w9 T09) | (guard_target =~ wpList _ _ _ ({ dst := some 70, .. } :: _) _ _; refine wpList_load_row rfl 37 (.tmp 3) rfl w.heap.size rfl 37 SA _ _ r1 Tryz.underlying37 rfl iS ?_) | (guard_target =~ wpList _ _ _ ({ dst := some 73, .. } :: _) _ _; refine wpList_load_midG (by kernel_rfl) 50 (.tmp 72) rfl (w.heap.size + 1) 53 rfl B _ rb Tryz.underlying50 rfl j43 ?_) | (go_at_call 71; refine hsb.mono ?_; clear hsb; rintro e w10 ⟨rfl, t10⟩))
                go_ret
                exact ⟨by rw [HV.out]; rfl, T9.then_no t10⟩
              | true => cases sb with
                | false =>                  
                  have HV : Hid (vE = 84) := by show _ = _; rw [HV3.out]; simp
                  clear HV3 cp r2 rb
                  go_wp2_with (first | (guard_target =~ wpList _ _ _ ({ dst := some 57, .. } :: _) _ _; refine wpList_load_row rfl 37 (.tmp 3) rfl w.heap.size rfl 37 SA _ _ r1 Tryz.underlying37 rfl iS ?_) | (go_at_call 41; refine hpu.mono ?_; clear hpu; rintro e w8 ⟨rfl, t8⟩; have T08 := T017.then_no t8; have T8 := HT0.out.then_no T08; have hsa := HSA.out w8 T8; obtain ⟨r1, _, _, _, _, ra, _⟩ := HE.out w8 T08) | (guard_target =~ wpList _ _ _ ({ dst := some 65, .. } :: _) _ _; refine wpList_load_row rfl 37 (.tmp 3) rfl w.heap.size rfl 37 SA _ _ r1 Tryz.underlying37 rfl iS ?_) | (guard_target =~ wpList _ _ _ ({ dst := some 68, .. } :: _) _ _; refine wpList_load_midG (by kernel_rfl) 50 (.tmp 67) rfl (w.heap.size + 1) 0 rfl A _ ra Tryz.underlying50 rfl i43 ?_) | (go_at_call 71; refine hsa.mono ?_; clear hsa; rintro e w9 ⟨rfl, t9⟩; have T09 := T08.then_no t9; have T9 := HT0.out.then_no T09; have hsb := HSB.out w9 T9; obtain ⟨r1, _, _, _, _, _, rb⟩ := HE.out w9 T09) | (guard_target =~ wpList _ _ _ ({ dst := some 70, .. } :: _) _ _; refine wpList_load_row rfl 37 (.tmp 3) rfl w.heap.size rfl 37 SA _ _ r1 Tryz.underlying37 rfl iS ?_) | (guard_target =~ wpList _ _ _ ({ dst := some 73, .. } :: _) _ _; refine wpList_load_midG (by kernel_rfl) 50 (.tmp 72) rfl (w.heap.size + 1) 53 rfl B _ rb Tryz.underlying50 rfl j43 ?_) | (go_at_call 71; refine hsb.mono ?_; clear hsb; rintro e w10 ⟨rfl, t10⟩))
                  go_ret
                  exact ⟨by rw [HV.out]; rfl, T9.then_no t10⟩
                | true =>                  
                  have HV : Hid (vE = 0) := by show _ = _; rw [HV3.out]; simp
                  clear HV3 cp r2 rb
                  go_wp2_with (first | (guard_target =~ wpList _ _ _ ({ dst := some 57, .. } :: _) _ _; refine wpList_load_row rfl 37 (.tmp 3) rfl w.heap.size rfl 37 SA _ _ r1 Tryz.underlying37 rfl iS ?_) | (go_at_call 41; refine hpu.mono ?_; clear hpu; rintro e w8 ⟨rfl, t8⟩; have T08 := T017.then_no t8; have T8 := HT0.out.then_no T08; have hsa := HSA.out w8 T8; obtain ⟨r1, _, _, _, _, ra, _⟩ := HE.out w8 T08) | (guard_target =~ wpList _ _ _ ({ dst := some 65, .. } :: _) _ _; refine wpList_load_row rfl 37 (.tmp 3) rfl w.heap.size rfl 37 SA _ _ r1 Tryz.underlying37 rfl iS ?_) | (guard_target =~ wpList _ _ _ ({ dst := some 68, .. } :: _) _ _; refine wpList_load_midG (by kernel_rfl) 50 (.tmp 67) rfl (w.heap.size + 1) 0 rfl A _ ra Tryz.underlying50 rfl i43 ?_) | (go_at_call 71; refine hsa.mono ?_; clear hsa; rintro e w9 ⟨rfl, t9⟩; have T09 := T08.then_no t9; have T9 := HT0.out.then_no T09; have hsb := HSB.out w9 T9; obtain ⟨r1, _, _, _, _, _, rb⟩ := HE.out w9 T09) | (guard_target =~ wpList _ _ _ ({ dst := some 70, .. } :: _) _ _; refine wpList_load_row rfl 37 (.tmp 3) rfl w.heap.size rfl 37 SA _ _ r1 Tryz.underlying37 rfl iS ?_) | (guard_target =~ wpList _ _ _ ({ dst := some 73, .. } :: _) _ _; refine wpList_load_midG (by kernel_rfl) 50 (.tmp 72) rfl (w.heap.size + 1) 53 rfl B _ rb Tryz.underlying50 rfl j43 ?_) | (go_at_call 71; refine hsb.mono ?_; clear hsb; rintro e w10 ⟨rfl, t10⟩))
                  go_ret
                  exact ⟨by rw [HV.out]; rfl, T9.then_no t10⟩
  · have hp' : (pe != 0) = true := by simpa using hp
    have HV : Hid (vE = pe) := by show _ = _; rw [← hvE.out]; unfold verX; rw [if_pos hp]
    have HTz := shut T3
    clear HQ HPA HCU HIX HPU HSA HSB HG HE hvE hp T13 T3
    go_wp2_with fail
    go_ret
    exact ⟨by rw [HV.out]; rfl, HTz.out⟩
end Go.Proofs.YtgbcdjjnpadddaaGreatDoor

