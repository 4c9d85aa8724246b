/- Verify, of a registry that New made. -/
import Derived.Test.YtgbcdjjnpadddaaGreatDoorSy
namespace Go.Proofs.YtgbcdjjnpadddaaGreatDoor
open Go.RowKit
set_option linter.unusedVariables false

/-- The council that decided a height. -/
def lPa (P : List Pa) (x : Nat) : List Mb := (P.getD (idxP P x).toNat ⟨0, 0, .slice none 0 0, []⟩).l
/-- What Verify tells. -/
def verX (pe : Int) (lt : Bool) (P : List Pa) (O : List (Nat × Nat)) (age hh xh xf : Nat) (sa sb : Bool) : Int :=
  if pe ≠ 0 then pe
  else if lt = true then 110
  else if ¬ (xh ≤ hh ∧ hh - xh < age) ∨ idxP P xh = -1 then 111
  else if idxE (lPa P xh) xf < 0 then 101
  else if hasO O xh xf = true then 112
  else if sa = true ∧ sb = true then 0 else 84
def verE (c : ByteArray) (P : List Pa) (O : List (Nat × Nat)) (age hh : Nat) (R : List Rec) (a b : Vt) : Int := verX (pairE a b) (ltB b.id a.id) P O age hh a.h.toNat a.f.toNat (sealQ c R a) (sealQ c R b)
theorem CoP.l {P : List Pa} {age hh x : Nat} {vv : Value} {l : List Mb} {bb : Bool} (h : CoP P age hh x vv l bb) : (bb = true ∧ ¬ (¬ (x ≤ hh ∧ hh - x < age) ∨ idxP P x = -1) ∧ l = lPa P x) ∨ (bb = false ∧ (¬ (x ≤ hh ∧ hh - x < age) ∨ idxP P x = -1)) := by
  rcases h with ⟨h1, h2, k, m, h3, h4, _, h5⟩ | ⟨h1, _, _, h2⟩
  · refine .inl ⟨h1, ?_, ?_⟩
    · rintro (q | q)
      · exact q h2
      · rw [h3] at q; omega
    · rw [h5, lPa, h3, Int.toNat_natCast, List.getD_eq_getElem?_getD, h4]
      rfl
  · exact .inr ⟨h1, h2⟩
theorem pair_ids {a b : Vt} (h : pairE a b = 0) : a.id ≠ b.id ∧ a.f = b.f ∧ a.h = b.h ∧ a.r = b.r ∧ a.k = b.k ∧ plainE a = 0 ∧ plainE b = 0 := by
  unfold pairE at h
  by_cases h1 : plainE a ≠ 0
  · rw [if_pos h1] at h; exact absurd h h1
  · rw [if_neg h1] at h
    by_cases h2 : plainE b ≠ 0
    · rw [if_pos h2] at h; exact absurd h h2
    · rw [if_neg h2] at h
      by_cases h3 : conB a b = true
      · simp only [conB, Bool.and_eq_true, beq_iff_eq, Bool.not_eq_true', beq_eq_false_iff_ne, ne_eq] at h3
        obtain ⟨⟨⟨⟨e1, e2⟩, e3⟩, e4⟩, e5⟩ := h3
        exact ⟨e5, e1, e2, e3, e4, Classical.not_not.1 h1, Classical.not_not.1 h2⟩
      · rw [if_neg h3] at h; cases h
set_option maxRecDepth 100000 in
set_option maxHeartbeats 8000000 in
theorem verify7 {w : World} {p br bt : Nat} {V : UInt64 → Value} {E : List UInt64} {R : List Rec} (h : Bk w p br bt V E R) (SA : Array Value) (c : ByteArray) (age hh : Nat) (pv ov : Value) (hS : StC SA c age hh pv ov) (hh64 : hh < 18446744073709551616) (P : List Pa) (hP : Pas w pv P) (O : List (Nat × Nat)) (hO : Ofs w ov O)
    (a b : Vt) (ha : a.fits) (hb : b.fits) (hl : Laid1 w) (h3 : 3 ≤ w.heap.size) (hp2 : p ≠ 2) :
    Calls Tryz.prog 12 #[.agg SA, .pointer (some ⟨p, 0, none⟩), .agg (evC a b)] w fun e w' => e = .returned (.int .i64 (verE c P O age hh R a b)) ∧ Bk w' p br bt V E R ∧ Turn (fun k => k = p) w w' := by
  obtain ⟨w0, hw0⟩ : ∃ w0, (w.alloc (.cells SA 37)).alloc (.cells (evC a b) 52) = w0 := ⟨_, rfl⟩
  have T0 : Turn no w w0 := by rw [← hw0]; exact ((Turn.refl no w).alloc _).alloc _
  have RS : Row w0 w.heap.size SA 37 := by rw [← hw0]; exact (Row.new w SA 37).alloc _
  have RE : Row w0 (w.heap.size + 1) (evC a b) 52 := by rw [← hw0]; exact Row.newAt _ _ _ _ (by simp)
  have hpw : p < w.heap.size := h.lt (.inl rfl)
  have hreg := isReg21 (h.turn_no T0)
  have hpr := pair5 w0 a b ha.1 hb.1
  have fa : a.f = (a.f.toNat : Int) := by have := ha.2.2.2; omega
  have fh : a.h = (a.h.toNat : Int) := by have := ha.2.1; omega
  have iS := hS.size
  have iE : (Tryz.prog.info? 52).map (·.size) = some (evC a b).size := by rw [evC_size ha.1 hb.1]; exact size32
  have sPC : (pairC a b).size = 106 := by
    unfold pairC
    split
    · exact evC_size zvt_ok zvt_ok
    · split
      · exact evC_size hb.1 ha.1
      · exact evC_size ha.1 hb.1
  have oPC : (pairC a b).all (·.oneCell') = true := by
    unfold pairC
    split
    · exact evC_one _ _
    · split
      · exact evC_one _ _
      · exact evC_one _ _
  have iPC : (Tryz.prog.info? 52).map (·.size) = some (pairC a b).size := by rw [sPC]; exact size32
  have i43 : (Tryz.prog.info? 50).map (·.size) = some a.cs.length := by rw [a.len ha.1]; exact qsize29
  have j43 : (Tryz.prog.info? 50).map (·.size) = some b.cs.length := by rw [b.len hb.1]; exact qsize29
  have z32 := zero32
  have sZ : (evC zvt zvt).size = 106 := evC_size zvt_ok zvt_ok
  have HQ : Shut (pairE a b = 0 → ∀ W, (Op.equalIn 10000 52 (.agg (pairC a b)) (.agg (evC a b))).run Tryz.prog W = .ok (!(ltB b.id a.id)) W) := fun hp W => by
    have hne := (pair_ids hp).1
    cases hlt : ltB b.id a.id with
    | true =>
      have : pairC a b = evC b a := by unfold pairC; rw [if_neg (by simp [hp]), if_pos hlt]
      rw [this, eqEv W b a a b hb.1 ha.1 ha.1 hb.1]
      have : eqEvQ b a a b = false := by
        rw [Bool.eq_false_iff]
        intro q
        have := (eqEvQ_iff b a a b).1 q
        exact hne (by rw [this.1])
      rw [this]
      rfl
    | false =>
      have : pairC a b = evC a b := by unfold pairC; rw [if_neg (by simp [hp]), if_neg (by rw [hlt]; simp)]
      rw [this, eqEv W a b a b ha.1 hb.1 ha.1 hb.1]
      have : eqEvQ a b a b = true := (eqEvQ_iff a b a b).2 ⟨rfl, rfl⟩
      rw [this]
      rfl
  have HCO : Shut (∀ W, Turn no w W → Calls Tryz.prog 35 #[.agg SA, .int .u64 (a.h.toNat : Nat)] W (CoRet P age hh a.h.toNat W)) := fun W t => council22 W SA c age hh a.h.toNat pv ov hS hh64 P (hP.turn_no t)
  have HIX : Shut (∀ W v l, Ms W v l → Calls Tryz.prog 36 #[.agg #[v], .int .u64 (a.f.toNat : Nat)] W fun e w' => e = .returned (.int .i64 (idxE l a.f.toNat)) ∧ Turn no W w') := fun W v l h => index20 W v l h a.f.toNat
  have HPO : Shut (∀ W, Calls Tryz.prog 30 #[.agg (evC a b)] W fun e w' => e = .returned (.agg #[.int .u64 (a.h.toNat : Nat), .int .u64 (a.f.toNat : Nat)]) ∧ Turn no W w') := fun W => pairOf25 W (evC a b) a.h.toNat a.f.toNat (by rw [← fh]; exact (evC_at ha.1).1) (by rw [← fa]; exact (evC_at ha.1).2)
  have HCT : Shut (∀ W, Turn no w W → Calls Tryz.prog 37 #[ov, .agg #[.int .u64 (a.h.toNat : Nat), .int .u64 (a.f.toNat : Nat)]] W fun e w' => e = .returned (.bool (hasO O a.h.toNat a.f.toNat)) ∧ Turn no W w') := fun W t => contains24 W ov O (hO.turn_no t) a.h.toNat a.f.toNat
  have HSA : Shut (∀ W, Bk W p br bt V E R → Laid1 W → 3 ≤ W.heap.size → Calls Tryz.prog 38 #[.string c, .pointer (some ⟨p, 0, none⟩), .agg a.cs.toArray] W fun e w' => e = .returned (.bool (sealQ c R a)) ∧ Bk w' p br bt V E R ∧ Turn (fun k => k = p) W w') := fun W h l h3 => isSealed26 h c a ha l h3 hp2
  have HSB : Shut (∀ W, Bk W p br bt V E R → Laid1 W → 3 ≤ W.heap.size → Calls Tryz.prog 38 #[.string c, .pointer (some ⟨p, 0, none⟩), .agg b.cs.toArray] W fun e w' => e = .returned (.bool (sealQ c R b)) ∧ Bk w' p br bt V E R ∧ Turn (fun k => k = p) W w') := fun W h l h3 => isSealed26 h c b hb l h3 hp2
  have HL : Shut (∀ W, Turn (fun k => k = p) w W → Laid1 W ∧ 3 ≤ W.heap.size) := fun W t => ⟨hl.turn t (fun q => hp2 q.symm), by have := t.size; omega⟩
  have HB : Shut (∀ W, Turn no w W → Bk W p br bt V E R) := fun W t => h.turn_no t
  have HE : Shut (∀ W, Turn (fun k => k = p) w0 W → Row W w.heap.size SA 37 ∧ Row W (w.heap.size + 1) (evC a b) 52 ∧ W.cell? ⟨w.heap.size, 0, none⟩ = some (.string c) ∧ W.cell? ⟨w.heap.size, 50, none⟩ = some ov ∧ W.cell? ⟨w.heap.size + 1, 1, none⟩ = some (.int .u64 (a.h.toNat : Nat)) ∧ W.cell? ⟨w.heap.size + 1, 36, none⟩ = some (.int .u64 (a.f.toNat : Nat)) ∧ W.rangeAt (w.heap.size + 1) 0 a.cs ∧ W.rangeAt (w.heap.size + 1) 53 b.cs) := fun W t => by
    have r1 := RS.turn t (fun q => by have q' : w.heap.size = p := q; omega)
    have r2 := RE.turn t (fun q => by have q' : w.heap.size + 1 = p := q; omega)
    exact ⟨r1, r2, r1.cell 0 _ hS.ch, r1.cell 50 _ hS.pu, by rw [← fh]; exact r2.cell 1 _ (evC_at ha.1).1, by rw [← fa]; exact r2.cell 36 _ (evC_at ha.1).2, evC_ra r2 ha.1⟩
  obtain ⟨va, vac, evo, -⟩ := id hO
  have HT0 := shut T0
  unfold verE
  obtain ⟨r1, r2, cc, co, ch, cf, ra, rb⟩ := HE.out w0 (Turn.refl _ _)
  subst evo
  clear h hS hP hO hl h3 RS RE T0 ha hb fa fh hh64 r1
  generalize hPC : pairC a b = PC at *
  generalize hEC : evC a b = EC at *
  obtain ⟨EL, rfl⟩ : ∃ L : List Value, EC = L.toArray := ⟨EC.toList, (Array.toArray_toList).symm⟩
  generalize evC zvt zvt = Z at *
  generalize pairE a b = pe at *
  generalize ltB b.id a.id = lt at *
  generalize sealQ c R a = sa at *
  generalize sealQ c R b = sb at *
  generalize a.h.toNat = xh at *
  generalize a.f.toNat = xf at *
  generalize a.cs = A at *
  generalize b.cs = B at *
  clear hPC hEC
  obtain ⟨vE, hvE⟩ : ∃ vE, Hid (verX pe lt P O age hh xh xf sa sb = vE) := ⟨_, rfl⟩
  rw [show verX pe lt P O age hh xh xf sa sb = vE from hvE.out]
  go_enter Tryz.func12, Tryz.ntmps12
  go_upto_region 1 with fail
  try rw [hw0]
  clear hw0
  go_upto_region 3 with (go_at_call 31; refine hreg.mono ?_; clear hreg; rintro e w1 ⟨rfl, rfl⟩)
  go_upto_region 4 with (first | (guard_target =~ wpList _ _ _ ({ dst := some 16, .. } :: _) _ _; refine wpList_load_midG (by kernel_rfl) 50 (.tmp 15) rfl (w.heap.size + 1) 0 rfl A _ ra Tryz.underlying50 rfl i43 ?_) | (guard_target =~ wpList _ _ _ ({ dst := some 18, .. } :: _) _ _; refine wpList_load_midG (by kernel_rfl) 50 (.tmp 17) rfl (w.heap.size + 1) 53 rfl B _ rb Tryz.underlying50 rfl j43 ?_) | (go_at_call 21; refine hpr.mono ?_; clear hpr; rintro e w2 ⟨rfl, t2⟩) | (guard_target =~ wpList _ _ _ ({ dst := _, op := Op.store 52 _ _, .. } :: _) _ _; refine wpList_store_anyX rfl rfl 52 (.tmp 7) (.tmp 20) rfl w2.heap.size PC rfl rfl 52 Z (Row.new w2 Z 52) iPC (by rw [sZ, sPC]) oPC ?_; intro w3' R3 t3))
  have T23 : Turn no w2 w3' := ((((Turn.refl no w2).alloc _).of_no.trans t3 (fun _ _ e => e) : Turn (fun q => q = w2.heap.size) w2 w3').mono (fun i hi e => by
    have e' : i = w2.heap.size := e
    omega))
  have T13 := t2.then_no T23
  have T3 := HT0.out.then_no T13
  generalize w2.heap.size = g7 at *
  clear t2 t3 T23 cc co ch cf ra rb r2
  obtain ⟨r1, r2, cc, co, ch, cf, ra, rb⟩ := HE.out w3' T13.of_no
  by_cases hp : pe = 0
  · have hq := HQ.out hp
    cases lt with
    | true =>
      have HV : Hid (vE = 110) := by show _ = _; rw [← hvE.out]; unfold verX; rw [if_neg (by simp [hp]), if_pos rfl]
      have HBz := shut (HB.out w3' T3)
      have HTz := shut (T3.of_no : Turn (fun k => k = p) w w3')
      clear HQ HCO HIX HPO HCT HSA HSB HL HB HE hvE T13 T3
      go_wp2_with (first | (guard_target =~ wpList _ _ _ ({ dst := some 25, .. } :: _) _ _; refine wpList_load_row rfl 52 (.tmp 7) rfl g7 rfl 52 PC _ _ R3 Tryz.underlying52 rfl iPC ?_) | (guard_target =~ wpList _ _ _ ({ dst := some 26, .. } :: _) _ _; refine wpList_load_row rfl 52 (.tmp 5) rfl (w.heap.size + 1) rfl 52 EL.toArray _ _ r2 Tryz.underlying52 rfl iE ?_))
      go_ret
      exact ⟨by rw [HV.out]; rfl, HBz.out, HTz.out⟩
    | false =>
      have HV0 : Hid (vE = if ¬ (xh ≤ hh ∧ hh - xh < age) ∨ idxP P xh = -1 then 111 else if idxE (lPa P xh) xf < 0 then 101 else if hasO O xh xf = true then 112 else if sa = true ∧ sb = true then 0 else 84) := by show _ = _; rw [← hvE.out]; unfold verX; rw [if_neg (by simp [hp]), if_neg (by simp)]
      have hco := HCO.out w3' T3
      clear HQ HCO hvE
      subst hp
      go_upto_region 9 with (first | (guard_target =~ wpList _ _ _ ({ dst := some 25, .. } :: _) _ _; refine wpList_load_row rfl 52 (.tmp 7) rfl g7 rfl 52 PC _ _ R3 Tryz.underlying52 rfl iPC ?_) | (guard_target =~ wpList _ _ _ ({ dst := some 26, .. } :: _) _ _; refine wpList_load_row rfl 52 (.tmp 5) rfl (w.heap.size + 1) rfl 52 EL.toArray _ _ r2 Tryz.underlying52 rfl iE ?_) | (guard_target =~ wpList _ _ _ ({ dst := some 29, .. } :: _) _ _; refine wpList_load_row rfl 37 (.tmp 3) rfl w.heap.size rfl 37 SA _ _ r1 Tryz.underlying37 rfl iS ?_) | (go_at_call 35; refine hco.mono ?_; clear hco; rintro e w4 ⟨vv, lm, bb, rfl, hCoP, hMs, t4⟩; obtain ⟨vva, vvc, evv, -⟩ := id hMs; subst evv))
      have R9 := Row.new w4 #[Value.slice vva lm.length vvc] 29
      have Ta : Turn no w4 (w4.alloc (.cells #[.slice vva lm.length vvc] 29)) := (Turn.refl no w4).alloc _
      have T14 := T13.then_no (t4.then_no Ta)
      have T4 := HT0.out.then_no T14
      have hMs2 := hMs.turn_no Ta
      have i29 : (Tryz.prog.info? 29).map (·.size) = some (#[Value.slice vva lm.length vvc] : Array Value).size := by kernel_rfl
      generalize w4.heap.size = g9 at *
      generalize w4.alloc (.cells #[.slice vva lm.length vvc] 29) = w5 at *
      clear T13 T3 t4 Ta hMs R3 r1 r2 cc co ch cf ra rb hq
      rcases hCoP.l with ⟨rfl, hc, hlm⟩ | ⟨rfl, hc⟩
      · have HV1 : Hid (vE = if idxE (lPa P xh) xf < 0 then 101 else if hasO O xh xf = true then 112 else if sa = true ∧ sb = true then 0 else 84) := by show _ = _; rw [HV0.out, if_neg hc]
        have hix := HIX.out w5 _ lm hMs2
        rw [← hlm] at HV1
        clear HV0 hCoP hc hlm HIX hMs2
        obtain ⟨ix, hix0⟩ : ∃ ix, Hid (idxE lm xf = ix) := ⟨_, rfl⟩
        rw [show idxE lm xf = ix from hix0.out] at HV1 hix
        obtain ⟨r1, r2, cc, co, ch, cf, ra, rb⟩ := HE.out w5 T14.of_no
        obtain ⟨nl, hnl⟩ : ∃ nl, Hid (lm.length = nl) := ⟨_, rfl⟩
        rw [show lm.length = nl from hnl.out] at hix R9 i29
        by_cases hneg : ix < 0
        · have HV : Hid (vE = 101) := by show _ = _; rw [HV1.out, if_pos hneg]
          clear HV1 HPO HCT HSA HSB HL HE hix0 T14 cc co ch ra rb r1 r2
          go_wp2_with (first | (guard_target =~ wpList _ _ _ ({ dst := some 40, .. } :: _) _ _; refine wpList_load_row rfl 29 (.tmp 9) rfl g9 rfl 29 #[Value.slice vva nl vvc] _ _ R9 Tryz.underlying29 rfl i29 ?_) | (go_at_call 36; refine hix.mono ?_; clear hix; rintro e w6 ⟨rfl, t6⟩))
          have T6 := T4.then_no t6
          have HBz := HB.out w6 T6
          go_ret
          exact ⟨by rw [HV.out]; rfl, HBz, T6.of_no⟩
        · have HV2 : Hid (vE = if hasO O xh xf = true then 112 else if sa = true ∧ sb = true then 0 else 84) := by show _ = _; rw [HV1.out, if_neg hneg]
          clear HV1 hix0
          go_upto_region 13 with (first | (guard_target =~ wpList _ _ _ ({ dst := some 40, .. } :: _) _ _; refine wpList_load_row rfl 29 (.tmp 9) rfl g9 rfl 29 #[Value.slice vva nl vvc] _ _ R9 Tryz.underlying29 rfl i29 ?_) | (go_at_call 36; refine hix.mono ?_; clear hix; rintro e w6 ⟨rfl, t6⟩))
          have T16 := T14.then_no t6
          have T6 := T4.then_no t6
          have HW6 : Shut (∀ W, Turn no w6 W → W.cell? ⟨w.heap.size, 50, none⟩ = some (.slice va O.length vac) ∧ W.rangeAt (w.heap.size + 1) 0 EL) := fun W t => by
            obtain ⟨_, r2, _, co, _⟩ := HE.out W (T16.then_no t).of_no
            exact ⟨co, fun j u hu => by rw [Nat.zero_add]; exact r2.cell j u (by simpa using hu)⟩
          clear T14 T4 r1 r2 cc co ch cf ra rb R9
          have iEL : (Tryz.prog.info? 52).map (·.size) = some EL.length := by rw [← List.size_toArray]; exact iE
          obtain ⟨no1, hno1⟩ : ∃ n, Hid (O.length = n) := ⟨_, rfl⟩
          rw [show O.length = no1 from hno1.out] at HW6 HCT HE
          obtain ⟨ho, hho⟩ : ∃ h, Hid (hasO O xh xf = h) := ⟨_, rfl⟩
          rw [show hasO O xh xf = ho from hho.out] at HCT HV2
          refine wp_region_held_drew (S := fun W => Turn no w6 W) (by kernel_rfl) (Turn.refl _ w6).drew (fun hHeld => ?_)
          refine' wpAnyH_take (i := 0) (v := .pointer (some ⟨w.heap.size, 50, none⟩)) rfl (by kernel_rfl) (by kernel_rfl) (by kernel_rfl) (fun _ _ _ h => h) (Or.inl ⟨by kernel_rfl, fun W hW => ?y0⟩) hHeld ?r0
          · go_simp
          refine' wpAnyH_take (i := 1) (v := .slice va no1 vac) rfl (by kernel_rfl) (by kernel_rfl) (by kernel_rfl) (fun _ _ _ h => h) (Or.inl ⟨by kernel_rfl, fun W hW => ?y1⟩) hHeld ?r1
          · have co := (HW6.out W hW).1
            go_simp
          refine' wpAnyH_take (i := 2) (v := .agg EL.toArray) rfl (by kernel_rfl) (by kernel_rfl) (by kernel_rfl) (fun _ _ _ h => h) (yieldsIf_load_mid (by kernel_rfl) 52 (.tmp 5) rfl (w.heap.size + 1) 0 (by kernel_rfl) EL _ (fun W h => (HW6.out W h).2) Tryz.underlying52 rfl iEL) hHeld ?s2
          refine wpAnyH_ready (rs := [3]) (by kernel_rfl) (by simp) ?_
          refine AllReadyH.cons rfl (fun K hK => ?_) AllReadyH.nil
          go_simp
          refine (HPO.out w6.drew).mono ?_
          rintro e w7 ⟨rfl, t7⟩
          have T67 : Turn no w6 w7 := (Turn.refl no w6).drew.then_no t7
          go_wp2_with fail
          refine hK.out _ _ T67 (fun hHeld => ?_)
          clear hK
          refine wpAnyH_ready (rs := [4]) (by kernel_rfl) (by simp) ?_
          refine AllReadyH.cons rfl (fun K hK => ?_) AllReadyH.nil
          go_simp
          refine (HCT.out w7 (T6.then_no T67)).mono ?_
          rintro e w8 ⟨rfl, t8⟩
          have T68 := T67.then_no t8
          go_wp2_with fail
          refine hK.out _ _ T68 (fun hHeld => ?_)
          clear hK
          refine wpAnyH_ready (rs := [5]) (by kernel_rfl) (by simp) ?_
          refine AllReadyH.cons rfl (fun K hK => ?_) AllReadyH.nil
          go_simp
          refine hK.out _ _ T68 (fun hHeld => ?_)
          clear hK
          refine wpAnyH_done (by kernel_rfl) ?_ _
          have T8 := T6.then_no T68
          have B8 := HB.out w8 T8
          obtain ⟨r1, r2, cc, co, ch, cf, ra, rb⟩ := HE.out w8 (T16.then_no T68).of_no
          clear t7 t8 T67 HW6 HCT HPO HB T6 co ch cf r1 r2
          cases ho with
          | true =>
            have HV : Hid (vE = 112) := by show _ = _; rw [HV2.out, if_pos rfl]
            go_wp2_with fail
            go_ret
            exact ⟨by rw [HV.out]; rfl, B8, T8.of_no⟩
          | false =>
            have HV3 : Hid (vE = if sa = true ∧ sb = true then 0 else 84) := by show _ = _; rw [HV2.out, if_neg (by simp)]
            have TP8 : Turn (fun k => k = p) w w8 := T8.of_no
            have hl8 := HL.out w8 TP8
            have hsa := HSA.out w8 B8 hl8.1 hl8.2
            have T018 := (T16.then_no T68)
            clear HV2 T68 hl8 T8
            cases sa with
            | false =>
              have HV : Hid (vE = 84) := by show _ = _; rw [HV3.out, if_neg (by simp)]
              go_wp2_with (first | (guard_target =~ wpList _ _ _ ({ dst := some 57, .. } :: _) _ _; refine wpList_load_midG (by kernel_rfl) 50 (.tmp 56) rfl (w.heap.size + 1) 0 rfl A _ ra Tryz.underlying50 rfl i43 ?_) | (go_at_call 38; refine hsa.mono ?_; clear hsa; rintro e w9 ⟨rfl, B9, t9⟩))
              go_ret
              exact ⟨by rw [HV.out]; rfl, B9, TP8.trans t9 (fun _ _ q => q)⟩
            | true =>
              cases sb with
              | true =>
                have HV : Hid (vE = 0) := by show _ = _; rw [HV3.out]; simp
                go_wp2_with (first | (guard_target =~ wpList _ _ _ ({ dst := some 57, .. } :: _) _ _; refine wpList_load_midG (by kernel_rfl) 50 (.tmp 56) rfl (w.heap.size + 1) 0 rfl A _ ra Tryz.underlying50 rfl i43 ?_) | (go_at_call 38; refine hsa.mono ?_; clear hsa; rintro e w9 ⟨rfl, B9, t9⟩; have TP9 := TP8.trans t9 (fun _ _ q => q); have hl9 := HL.out w9 TP9; have hsb := HSB.out w9 B9 hl9.1 hl9.2; obtain ⟨_, _, cc, _, _, _, _, rb⟩ := HE.out w9 (T018.of_no.trans t9 (fun _ _ q => q))) | (guard_target =~ wpList _ _ _ ({ dst := some 65, .. } :: _) _ _; refine wpList_load_midG (by kernel_rfl) 50 (.tmp 64) rfl (w.heap.size + 1) 53 rfl B _ rb Tryz.underlying50 rfl j43 ?_) | (go_at_call 38; refine hsb.mono ?_; clear hsb; rintro e w10 ⟨rfl, B10, t10⟩))
                go_ret
                exact ⟨by rw [HV.out]; rfl, B10, TP9.trans t10 (fun _ _ q => q)⟩
              | false =>
                have HV : Hid (vE = 84) := by show _ = _; rw [HV3.out]; simp
                go_wp2_with (first | (guard_target =~ wpList _ _ _ ({ dst := some 57, .. } :: _) _ _; refine wpList_load_midG (by kernel_rfl) 50 (.tmp 56) rfl (w.heap.size + 1) 0 rfl A _ ra Tryz.underlying50 rfl i43 ?_) | (go_at_call 38; refine hsa.mono ?_; clear hsa; rintro e w9 ⟨rfl, B9, t9⟩; have TP9 := TP8.trans t9 (fun _ _ q => q); have hl9 := HL.out w9 TP9; have hsb := HSB.out w9 B9 hl9.1 hl9.2; obtain ⟨_, _, cc, _, _, _, _, rb⟩ := HE.out w9 (T018.of_no.trans t9 (fun _ _ q => q))) | (guard_target =~ wpList _ _ _ ({ dst := some 65, .. } :: _) _ _; refine wpList_load_midG (by kernel_rfl) 50 (.tmp 64) rfl (w.heap.size + 1) 53 rfl B _ rb Tryz.underlying50 rfl j43 ?_) | (go_at_call 38; refine hsb.mono ?_; clear hsb; rintro e w10 ⟨rfl, B10, t10⟩))
                go_ret
                exact ⟨by rw [HV.out]; rfl, B10, TP9.trans t10 (fun _ _ q => q)⟩
      · have HV : Hid (vE = 111) := by show _ = _; rw [HV0.out, if_pos hc]
        have HBz := shut (HB.out w5 T4)
        have HTz := shut (T4.of_no : Turn (fun k => k = p) w w5)
        clear HV0 hCoP hc HIX HPO HCT HSA HSB HL HB HE T14 T4 hMs2 R9
        go_wp2_with fail
        go_ret
        exact ⟨by rw [HV.out]; rfl, HBz.out, HTz.out⟩
  · have hp' : (pe != 0) = true := by simpa using hp
    have HV : Hid (vE = pe) := by show _ = _; rw [← hvE.out]; unfold verX; rw [if_pos hp]
    have HBz := shut (HB.out w3' T3)
    have HTz := shut (T3.of_no : Turn (fun k => k = p) w w3')
    clear HQ HCO HIX HPO HCT HSA HSB HL HB HE hvE hp T13 T3
    go_wp2_with fail
    go_ret
    exact ⟨by rw [HV.out]; rfl, HBz.out, HTz.out⟩
end Go.Proofs.YtgbcdjjnpadddaaGreatDoor

