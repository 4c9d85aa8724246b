/- verifyNone, verifyOne. -/
import Derived.Test.YtlacfenenbblaaaGreatDoorY2
import Derived.Test.YtlacfenenbblaaaGreatDoorG6
import Derived.Test.YtlacfenenbblaaaGreatDoorY3
namespace Go.Proofs.YtlacfenenbblaaaGreatDoor
open Go.RowKit
set_option linter.unusedVariables false

theorem results_c3 {P : Program} {fn : Func} {p u v : Tmp} {ty : TypeId} (h : fn.results = #[.cell p ty, .tmp u, .tmp v]) (tmps : Array Value) (w : World) (g : Nat) (t : TypeId) (cs : Array Value) (fr : Nat × Nat) (d : TypeDesc)
    (hp : tmps.getD p undef = .pointer (some ⟨g, 0, none⟩)) (hg : w.heap[g]? = some (.cells cs t fr))
    (hu : P.underlying ty = some d) (hd : (match d with | .struct _ | .array _ _ => true | _ => false) = true) (hi : (P.info? ty).map (·.size) = some cs.size) :
    (results fn tmps).run P w = .ok (.tuple #[.agg cs, tmps.getD u undef, tmps.getD v undef]) w := by
  have hp' : tmps[p]?.getD undef = .pointer (some ⟨g, 0, none⟩) := by simpa using hp
  simp only [results, h]
  simp [Result.andThen, hp', asAddr, run_loadVar_row w g t ty cs fr d hg hu hd hi]
def AZ : Array Value := (acs ac0).toArray
def ZQ : Array Value := #[.int .i64 0, .int .i64 0, .slice none 0 0]
theorem zero32v (w : World) : (zeroValue 38).run Tryz.prog w = .ok (.agg AZ) w := by kernel_rfl
theorem zero57v (w : World) : (zeroValue 47).run Tryz.prog w = .ok (.agg ZQ) w := by kernel_rfl
theorem bld32v (w : World) : (Instr.build 38 #[]).run Tryz.prog w = .ok (.agg AZ) w := by kernel_rfl
theorem acs_size (m : Ac) : (acs m).toArray.size = 5 := rfl
theorem acs_one (m : Ac) : (acs m).toArray.all (·.oneCell') = true := by simp [acs, Value.oneCell']
theorem acs_info (m : Ac) : (Tryz.prog.info? 38).map (·.size) = some (acs m).toArray.size := size32a
theorem pfC_one (q : Pf) (a : Option Addr) (c : Nat) : (pfC q a c).toArray.all (·.oneCell') = true := by simp [pfC, Value.oneCell']
theorem pfC_info (q : Pf) (a : Option Addr) (c : Nat) : (Tryz.prog.info? 47).map (·.size) = some (pfC q a c).toArray.size := size57
/-- Nobody shown. -/
def noE (X R : List UInt8) : Int := if (inH (rootH []) R == X) = true then 0 else 21
def onB (a : Nat) (m : Ac) (q : Pf) : Bool := (decide (a < m.ad) && (q.i != 0)) || (decide (m.ad < a) && (q.i != IntKind.i64.wrap (q.t - 1)))
def onE (X R : List UInt8) (a : Nat) (m : Ac) (q : Pf) : Int := if onB a m q = true then 20 else tpE X R q m
def onF (X R : List UInt8) (a : Nat) (m : Ac) (q : Pf) : Bool := !onB a m q && (tpE X R q m == 0) && ((m.ad : Int) == (a : Int))
def onA (X R : List UInt8) (a : Nat) (m : Ac) (q : Pf) : Ac := if onF X R a m q = true then m else ac0
set_option maxRecDepth 100000 in
set_option maxHeartbeats 16000000 in
theorem none10 (w : World) (hl : Laid1 w) (h2 : 2 ≤ w.heap.size) (X R : List UInt8) (hX : X.length = 32) (hR : R.length = 32) (va vp : Value) :
    Calls Tryz.prog 30 #[.agg (hb32 X), .agg (wtL R va vp).toArray] w fun e w' => e = .returned (.int .i64 (noE X R)) ∧ Turn no w w' := by
  obtain ⟨w0, hw0⟩ : ∃ w0, (w.alloc (.cells (hb32 X) 29)).alloc (.cells (wtL R va vp).toArray 32) = w0 := ⟨_, rfl⟩
  have T0 : Turn no w w0 := by rw [← hw0]; exact ((Turn.refl no w).alloc _).alloc _
  have RX : Row w0 w.heap.size (hb32 X) 29 := by rw [← hw0]; exact (Row.new w _ 29).alloc _
  have RW : Row w0 (w.heap.size + 1) (wtL R va vp).toArray 32 := by rw [← hw0]; exact Row.newAt _ _ _ _ (by simp)
  have HC : Shut (∀ W, Turn no w0 W → W.rangeAt (w.heap.size + 1) 0 (R.map bv) ∧ W.rangeAt w.heap.size 0 (X.map bv)) := fun W t =>
    ⟨fun j u hu => t.keep (RW.cell (0 + j) _ (wtL_R R _ _ j u hu)) (fun q => q), fun j u hu => by rw [Nat.zero_add]; exact t.keep (RX.cell j _ (by simpa [hb32] using hu)) (fun q => q)⟩
  have hlw : ∀ W, Turn no w0 W → Laid1 W ∧ 2 ≤ W.heap.size := fun W t => ⟨hl.turn (T0.then_no t) (fun q => q), by have := (T0.then_no t).size; omega⟩
  have hr := root_nil w0 (hlw w0 (Turn.refl _ _)).1 (hlw w0 (Turn.refl _ _)).2
  have lP := rootH_len []
  have HI : Shut (∀ W, Turn no w0 W → Calls Tryz.prog 26 #[.agg (hb32 (rootH [])), .agg (hb32 R)] W fun e w' => e = .returned (.agg (hb32 (inH (rootH []) R))) ∧ Turn no W w') := fun W t => inner13 W _ R lP hR (hlw W t).1 (hlw W t).2
  have lI : (inH (rootH []) R).length = 32 := hashOf_len _
  have hQ : ∀ W, (Op.equalIn 10000 29 (.agg (hb32 (inH (rootH []) R))) (.agg (hb32 X))).run Tryz.prog W = .ok (inH (rootH []) R == X) W := fun W => eqIn35 W _ _ lI hX
  have HE : Shut (noE X R = if (inH (rootH []) R == X) = true then 0 else 21) := rfl
  have sZ := hb32_size z32_len
  have sP := hb32_size lP
  have oP := hb32_one (rootH [])
  have iP := hb32_info lP
  have HPR : Shut (hb32 (rootH []) = ((rootH []).map bv).toArray ∧ (Tryz.prog.info? 29).map (·.size) = some ((rootH []).map bv).length) := ⟨rfl, by rw [List.length_map, lP]; exact size35⟩
  have iX : (Tryz.prog.info? 29).map (·.size) = some (X.map bv).length := by rw [List.length_map, hX]; exact size35
  have iR : (Tryz.prog.info? 29).map (·.size) = some (R.map bv).length := by rw [List.length_map, hR]; exact size35
  have HXR : Shut (hb32 X = (X.map bv).toArray ∧ hb32 R = (R.map bv).toArray) := ⟨rfl, rfl⟩
  have sZP : (hb32 z32).size = (hb32 (rootH [])).size := by rw [sZ, sP]
  have hzv := zero35v
  have HT0 := shut T0
  clear hl h2 RX RW T0 hlw lP lI hX hR sP sZ
  generalize noE X R = NE at *
  generalize (inH (rootH []) R == X) = bb at *
  generalize hb32 (inH (rootH []) R) = IH at *
  generalize hb32 (rootH []) = PH at *
  generalize (rootH []).map bv = PHl at *
  generalize hb32 z32 = Z at *
  generalize hb32 X = XA at *
  generalize hb32 R = RA at *
  generalize X.map bv = XL at *
  generalize R.map bv = RL at *
  generalize (wtL R va vp).toArray = WA at *
  go_enter Tryz.func30, Tryz.ntmps30
  go_upto_region 1 with fail
  try rw [hw0]
  clear hw0
  go_upto_region 2 with (first | (go_at_call 24; refine hr.mono ?_; clear hr; rintro e w1 ⟨rfl, t1⟩) | (guard_target =~ wpList _ _ _ ({ dst := _, op := Op.store 29 _ _, .. } :: _) _ _; refine wpList_store_anyN rfl rfl 29 (.tmp 5) (.tmp 9) rfl w1.heap.size PH rfl rfl 29 Z (Row.new w1 Z 29) iP sZP oP ?_; intro w2 R2 t2))
  have T2 : Turn no w0 w2 := t1.trans (((Turn.refl (fun z => z = w1.heap.size) w1).alloc _).trans t2 (fun _ _ q => q)) (fun i hi q => by have q2 : i = w1.heap.size := q; have := t1.size; omega)
  have rP : w2.rangeAt w1.heap.size 0 PHl := by
    have := Row.rng R2
    rw [HPR.out.1] at this
    simpa using this
  generalize w1.heap.size = g at *
  have HT2 := shut T2
  have HR4 : Shut (∀ W, Turn no w2 W → W.rangeAt g 0 PHl ∧ W.rangeAt (w.heap.size + 1) 0 RL ∧ W.rangeAt w.heap.size 0 XL) := fun W t => ⟨fun j u hu => t.keep (rP j u hu) (fun q => q), (HC.out W (T2.then_no t)).1, (HC.out W (T2.then_no t)).2⟩
  have HIW : Shut (∀ W, Turn no w2 W → Calls Tryz.prog 26 #[.agg PH, .agg RA] W fun e w' => e = .returned (.agg IH) ∧ Turn no W w') := fun W t => HI.out W (T2.then_no t)
  have iPl := HPR.out.2
  clear rP t1 t2 T2 R2
  go_upto_region 4 with fail
  refine wp_region_held_drew (S := fun W => Turn no w2 W) (by kernel_rfl) (Turn.refl no w2).drew (fun hHeld => ?_)
  refine' wpAnyH_take (i := 0) (v := .agg PH) rfl (by kernel_rfl) (by kernel_rfl) (by kernel_rfl) (fun _ _ _ h => h) (by rw [HPR.out.1]; exact yieldsIf_load_mid (by kernel_rfl) 29 (.tmp 5) rfl g (0) (by kernel_rfl) PHl _ (fun W h => (HR4.out W h).1) Tryz.underlying29 rfl iPl) hHeld ?q0
  refine' wpAnyH_take (i := 1) (v := .pointer (some ⟨w.heap.size + 1, 0, none⟩)) rfl (by kernel_rfl) (by kernel_rfl) (by kernel_rfl) (fun _ _ _ h => h) (Or.inl ⟨by kernel_rfl, fun W hW => ?y1⟩) hHeld ?r1
  · go_simp
  refine' wpAnyH_take (i := 2) (v := .agg RA) rfl (by kernel_rfl) (by kernel_rfl) (by kernel_rfl) (fun _ _ _ h => h) (by rw [HXR.out.2]; exact yieldsIf_load_mid (by kernel_rfl) 29 (.tmp 15) rfl (w.heap.size + 1) (0) (by kernel_rfl) RL _ (fun W h => (HR4.out W h).2.1) Tryz.underlying29 rfl iR) hHeld ?q2
  refine' wpAnyH_take (i := 4) (v := .agg XA) rfl (by kernel_rfl) (by kernel_rfl) (by kernel_rfl) (fun _ _ _ h => h) (by rw [HXR.out.1]; exact yieldsIf_load_mid (by kernel_rfl) 29 (.tmp 2) rfl w.heap.size (0) (by kernel_rfl) XL _ (fun W h => (HR4.out W h).2.2) Tryz.underlying29 rfl iX) hHeld ?q4
  refine wpAnyH_ready (rs := [3]) (by kernel_rfl) (by simp) ?_
  refine AllReadyH.cons rfl (fun K hK => ?_) AllReadyH.nil
  go_simp
  refine (HIW.out _ hHeld).mono ?_
  rintro e wd ⟨rfl, td⟩
  refine hK.out _ _ (hHeld.then_no td) (fun hHeld => ?_)
  clear hK
  refine' wpAnyH_take (i := 5) (v := .bool (!bb)) rfl (by kernel_rfl) (by kernel_rfl) (by kernel_rfl) (fun _ _ _ h => h) (Or.inl ⟨by kernel_rfl, fun W hW => ?y2⟩) hHeld ?r2
  · go_simp
  refine wpAnyH_done (by kernel_rfl) ?_ _
  go_simp
  have HD := shut hHeld
  clear hHeld HR4 HIW hQ
  cases bb with
  | true =>
    go_wp2_with fail
    go_ret
    exact ⟨by rw [HE.out]; rfl, HT0.out.then_no (HT2.out.then_no HD.out)⟩
  | false =>
    go_wp2_with fail
    go_ret
    exact ⟨by rw [HE.out]; rfl, HT0.out.then_no (HT2.out.then_no HD.out)⟩
set_option maxRecDepth 100000 in
set_option maxHeartbeats 16000000 in
theorem one11 (w : World) (hl : Laid1 w) (h2 : 2 ≤ w.heap.size) (X R : List UInt8) (hX : X.length = 32) (hR : R.length = 32) (a : Nat) (va vp : Value) (m : Ac) (l : List Ac) (q : Pf) (qs : List Pf) (ha : As w va (m :: l)) (hq : Qs w vp (q :: qs)) :
    Calls Tryz.prog 31 #[.agg (hb32 X), .int .u64 a, .agg (wtL R va vp).toArray] w fun e w' => e = .returned (.tuple #[.agg (acs (onA X R a m q)).toArray, .bool (onF X R a m q), .int .i64 (onE X R a m q)]) ∧ Turn no w w' := by
  have HTOP : Shut (∀ W, Turn no w W → Calls Tryz.prog 64 #[.agg (hb32 X), .agg (wtL R va vp).toArray] W fun e w' => e = .returned (.tuple #[.agg (hb32 (tpH X R q m)), .int .i64 (tpE X R q m)]) ∧ Turn no W w') := fun W t => topOf29 W (hl.turn t (fun q => q)) (by have := t.size; omega) X R hX hR va vp m l q qs (ha.turn_no t) (by obtain ⟨p, c, e, h⟩ := hq; exact ⟨p, c, e, h.turn_no t⟩)
  obtain ⟨a0, ca, rfl, hA⟩ := ha
  obtain ⟨p0, cp, rfl, hQ⟩ := hq
  obtain ⟨ab, ao, rfl, ra⟩ := hA.range 0 m rfl
  obtain ⟨pb, po, a', c', e1, hs, rp⟩ := hQ.cells 0 q rfl
  cases e1
  rw [Nat.zero_mul, Nat.add_zero] at ra rp
  obtain ⟨na, hna⟩ : ∃ n, Hid ((m :: l).length = n) := ⟨_, rfl⟩
  obtain ⟨np, hnp⟩ : ∃ n, Hid ((q :: qs).length = n) := ⟨_, rfl⟩
  have na0 : 0 < na := by rw [← hna.out]; simp
  have np0 : 0 < np := by rw [← hnp.out]; simp
  have nal : na ≤ 9223372036854775807 := by have := hA.le; have := hA.cap; have := hna.out; simp only [maxLen] at *; omega
  have npl : np ≤ 9223372036854775807 := by have := hQ.le; have := hQ.cap; have := hnp.out; simp only [maxLen] at *; omega
  rw [hna.out, hnp.out] at HTOP ⊢
  have lW := wtL_len hR (.slice (some ⟨ab, ao, none⟩) na ca) (.slice (some ⟨pb, po, none⟩) np cp)
  obtain ⟨w0, hw0⟩ : ∃ w0, ((w.alloc (.cells (hb32 X) 29)).alloc (.cells (wtL R (.slice (some ⟨ab, ao, none⟩) na ca) (.slice (some ⟨pb, po, none⟩) np cp)).toArray 32)).alloc (.cells AZ 38) = w0 := ⟨_, rfl⟩
  have T0 : Turn no w w0 := by rw [← hw0]; exact (((Turn.refl no w).alloc _).alloc _).alloc _
  have RX : Row w0 w.heap.size (hb32 X) 29 := by rw [← hw0]; exact ((Row.new w _ 29).alloc _).alloc _
  have RW : Row w0 (w.heap.size + 1) (wtL R (.slice (some ⟨ab, ao, none⟩) na ca) (.slice (some ⟨pb, po, none⟩) np cp)).toArray 32 := by rw [← hw0]; exact (Row.newAt _ _ _ _ (by simp)).alloc _
  have RZ : Row w0 (w.heap.size + 2) AZ 38 := by rw [← hw0]; exact Row.newAt _ _ _ _ (by simp)
  have HC : Shut (∀ W, Turn no w0 W → W.cell? ⟨w.heap.size + 1, 32, none⟩ = some (.slice (some ⟨ab, ao, none⟩) na ca) ∧ W.cell? ⟨w.heap.size + 1, 33, none⟩ = some (.slice (some ⟨pb, po, none⟩) np cp) ∧ W.rangeAt pb po (pfC q a' c') ∧ W.rangeAt ab ao (acs m)) := fun W t =>
    ⟨t.keep (RW.cell 32 _ (wtL_32 hR _ _)) (fun q => q), t.keep (RW.cell 33 _ (wtL_33 hR _ _)) (fun q => q), fun j u hu => (T0.then_no t).keep (rp j u hu) (fun q => q), fun j u hu => (T0.then_no t).keep (ra j u hu) (fun q => q)⟩
  have HE : Shut (onE X R a m q = if onB a m q = true then 20 else tpE X R q m) := rfl
  have HF : Shut (onF X R a m q = (!onB a m q && (tpE X R q m == 0) && ((m.ad : Int) == (a : Int)))) := rfl
  have HAA : Shut ((acs (onA X R a m q)).toArray = if onF X R a m q = true then (acs m).toArray else AZ) := by
    show _ = _
    unfold onA
    split <;> rfl
  have HB : Shut (onB a m q = ((decide (a < m.ad) && (q.i != 0)) || (decide (m.ad < a) && (q.i != IntKind.i64.wrap (q.t - 1))))) := rfl
  have lT := tpH_len X R q m
  have sT := hb32_size lT
  have oT := hb32_one (tpH X R q m)
  have iT := hb32_info lT
  have sZ := hb32_size z32_len
  have iX := hb32_info hX
  have sZT : (hb32 z32).size = (hb32 (tpH X R q m)).size := by rw [sZ, sT]
  have iW : (Tryz.prog.info? 32).map (·.size) = some (wtL R (.slice (some ⟨ab, ao, none⟩) na ca) (.slice (some ⟨pb, po, none⟩) np cp)).toArray.size := by rw [List.size_toArray, lW]; exact size29w
  have iM := acs_info m
  have oM := acs_one m
  have sM : AZ.size = (acs m).toArray.size := rfl
  have iPf := pfC_info q a' c'
  have oPf := pfC_one q a' c'
  have sPf : ZQ.size = (pfC q a' c').toArray.size := rfl
  have zP : (Tryz.prog.info? 47).map (·.size) = some (pfC q a' c').length := size57
  have zM : (Tryz.prog.info? 38).map (·.size) = some (acs m).length := size32a
  have iA0 := acs_info ac0
  have oA0 := acs_one ac0
  have HM0 : Shut ((acs m).toArray[(0 : Nat)]? = some (.int .u64 m.ad)) := rfl
  have HP0 : Shut ((pfC q a' c').toArray[(0 : Nat)]? = some (.int .i64 q.t) ∧ (pfC q a' c').toArray[(1 : Nat)]? = some (.int .i64 q.i)) := ⟨rfl, rfl⟩
  have hzv := zero35v
  have hz32 := zero32v
  have hz57 := zero57v
  have hbd := shut bld32v
  rw [show (acs ac0).toArray = AZ from rfl] at iA0 oA0
  have HRW := shut (And.intro RX (And.intro RW RZ))
  have HT0 := shut T0
  clear hs rp ra hA hQ hl h2 RX RW RZ T0 lT lW hX hR sT sZ
  generalize onE X R a m q = EE at *
  generalize onF X R a m q = FF at *
  generalize (acs (onA X R a m q)).toArray = AA at *
  generalize onB a m q = BB at *
  generalize tpE X R q m = TE at *
  generalize hb32 (tpH X R q m) = TH at *
  generalize hb32 z32 = Z at *
  generalize AZ = AZ0 at *
  generalize ZQ = ZQ0 at *
  generalize hb32 X = XA at *
  generalize q.i = qi at *
  generalize q.t = qt at *
  generalize pfC q a' c' = PL at *
  generalize acs m = ML at *
  generalize m.ad = md at *
  obtain ⟨P0, hP0⟩ : ∃ A, PL.toArray = A := ⟨_, rfl⟩
  obtain ⟨M0, hM0⟩ : ∃ A, ML.toArray = A := ⟨_, rfl⟩
  rw [hP0] at iPf oPf sPf HP0
  rw [hM0] at iM oM sM HAA HM0
  have HPL := shut hP0
  have HML := shut hM0
  clear hP0 hM0
  generalize (wtL R (.slice (some ⟨ab, ao, none⟩) na ca) (.slice (some ⟨pb, po, none⟩) np cp)).toArray = WA at *
  go_enter Tryz.func31, Tryz.ntmps31
  go_upto_region 1 with fail
  try rw [hw0]
  clear hw0
  go_cut [9, 10] from 13 to 20 (fun x y wx => ∃ g1 g2, x = .pointer (some ⟨g1, 0, none⟩) ∧ y = .pointer (some ⟨g2, 0, none⟩) ∧ Shut (Row wx g1 M0 38 ∧ Row wx g2 P0 47 ∧ Turn no w0 wx))
  case first =>
    refine wp_region_held_drew (S := fun W => Turn no w0 W) (by kernel_rfl) (Turn.refl no w0).drew (fun hHeld => ?_)
    refine' wpAnyH_take (i := 0) (v := .pointer (some ⟨w.heap.size + 1, 32, none⟩)) rfl (by kernel_rfl) (by kernel_rfl) (by kernel_rfl) (fun _ _ _ h => h) (Or.inl ⟨by kernel_rfl, fun W hW => ?y3⟩) hHeld ?r3
    · go_simp
    refine' wpAnyH_take (i := 1) (v := .slice (some ⟨ab, ao, none⟩) na ca) rfl (by kernel_rfl) (by kernel_rfl) (by kernel_rfl) (fun _ _ _ h => h) (Or.inl ⟨by kernel_rfl, fun W hW => ?y4⟩) hHeld ?r4
    · obtain ⟨y0, y1, _⟩ := HC.out W hW
      go_simp
    refine' wpAnyH_take (i := 2) (v := .pointer (some ⟨ab, ao, none⟩)) rfl (by kernel_rfl) (by kernel_rfl) (by kernel_rfl) (fun _ _ _ h => h) (Or.inl ⟨by kernel_rfl, fun W hW => ?y5⟩) hHeld ?r5
    · go_simp
    refine' wpAnyH_take (i := 3) (v := .agg M0) rfl (by kernel_rfl) (by kernel_rfl) (by kernel_rfl) (fun _ _ _ h => h) (by rw [← HML.out]; exact yieldsIf_load_mid (by kernel_rfl) 38 (.tmp 15) rfl ab (ao) (by kernel_rfl) ML _ (fun W h => (HC.out W h).2.2.2) Tryz.underlying38 rfl zM) hHeld ?s3
    refine' wpAnyH_take (i := 4) (v := .pointer (some ⟨w.heap.size + 1, 33, none⟩)) rfl (by kernel_rfl) (by kernel_rfl) (by kernel_rfl) (fun _ _ _ h => h) (Or.inl ⟨by kernel_rfl, fun W hW => ?y6⟩) hHeld ?r6
    · go_simp
    refine' wpAnyH_take (i := 5) (v := .slice (some ⟨pb, po, none⟩) np cp) rfl (by kernel_rfl) (by kernel_rfl) (by kernel_rfl) (fun _ _ _ h => h) (Or.inl ⟨by kernel_rfl, fun W hW => ?y7⟩) hHeld ?r7
    · obtain ⟨y0, y1, _⟩ := HC.out W hW
      go_simp
    refine' wpAnyH_take (i := 6) (v := .pointer (some ⟨pb, po, none⟩)) rfl (by kernel_rfl) (by kernel_rfl) (by kernel_rfl) (fun _ _ _ h => h) (Or.inl ⟨by kernel_rfl, fun W hW => ?y8⟩) hHeld ?r8
    · go_simp
    refine' wpAnyH_take (i := 7) (v := .agg P0) rfl (by kernel_rfl) (by kernel_rfl) (by kernel_rfl) (fun _ _ _ h => h) (by rw [← HPL.out]; exact yieldsIf_load_mid (by kernel_rfl) 47 (.tmp 19) rfl pb (po) (by kernel_rfl) PL _ (fun W h => (HC.out W h).2.2.1) Tryz.underlying47 rfl zP) hHeld ?s7
    obtain ⟨X0, hX0⟩ : ∃ X, w0.drew = X := ⟨_, rfl⟩
    rw [hX0] at hHeld ⊢
    clear hX0
    refine wpAnyH_ready (rs := [8, 9]) (by kernel_rfl) (by simp) ?_
    refine AllReadyH.cons rfl (fun K hK => ?_) (AllReadyH.cons rfl (fun K hK => ?_) AllReadyH.nil)
    · skip
      go_simp
      have hs1 := hHeld.size
      refine hK.out _ _ (hHeld.alloc _) (fun hHeld => ?_)
      clear hK
      obtain ⟨X1, hX1⟩ : ∃ X, X0.alloc (.cells AZ0 38) = X := ⟨_, rfl⟩
      have r1 : Row X1 X0.heap.size AZ0 38 := by rw [← hX1]; exact Row.new X0 _ _
      rw [hX1] at hHeld ⊢
      clear hX1
      generalize X0.heap.size = g1 at *
      refine wpAnyH_ready (rs := [9]) (by kernel_rfl) (by simp) ?_
      refine AllReadyH.cons rfl (fun K hK => ?_) AllReadyH.nil
      go_simp
      have hs2 := hHeld.size
      have lt2m := Row.lt r1
      refine hK.out _ _ (hHeld.alloc _) (fun hHeld => ?_)
      clear hK
      obtain ⟨X2, hX2⟩ : ∃ X, X1.alloc (.cells ZQ0 47) = X := ⟨_, rfl⟩
      have r2 : Row X2 X1.heap.size ZQ0 47 := by rw [← hX2]; exact Row.new X1 _ _
      have r1 : Row X2 g1 AZ0 38 := by rw [← hX2]; exact Row.alloc r1 _
      rw [hX2] at hHeld ⊢
      clear hX2
      generalize X1.heap.size = g2 at *
      refine wpAnyH_ready (rs := [10]) (by kernel_rfl) (by simp) ?_
      refine AllReadyH.cons rfl (fun K hK => ?_) AllReadyH.nil
      rw [if_pos (by rfl)]
      refine wp_store_row 38 _ _ rfl g1 M0 rfl rfl 38 AZ0 r1 iM sM oM ?_
      have r2 : Row (X2.setRow g1 M0) g2 ZQ0 47 := Row.setOther r2 (by omega) M0
      have r1 : Row (X2.setRow g1 M0) g1 M0 38 := setRow_heap X2 g1 _ M0 38 _ r1
      have T3 : Turn no w0 (X2.setRow g1 M0) := hHeld.setRow g1 M0 (fun q => by omega)
      refine hK.out _ _ T3 (fun hHeld => ?_)
      clear hK
      clear T3
      obtain ⟨Y3, hY3⟩ : ∃ X, X2.setRow g1 M0 = X := ⟨_, rfl⟩
      rw [hY3] at r1 r2 hHeld ⊢
      clear hY3
      refine wpAnyH_ready (rs := [11]) (by kernel_rfl) (by simp) ?_
      refine AllReadyH.cons rfl (fun K hK => ?_) AllReadyH.nil
      rw [if_pos (by rfl)]
      refine wp_store_row 47 _ _ rfl g2 P0 rfl rfl 47 ZQ0 r2 iPf sPf oPf ?_
      have r1 : Row (Y3.setRow g2 P0) g1 M0 38 := Row.setOther r1 (by omega) P0
      have r2 : Row (Y3.setRow g2 P0) g2 P0 47 := setRow_heap Y3 g2 _ P0 47 _ r2
      have T4 : Turn no w0 (Y3.setRow g2 P0) := hHeld.setRow g2 P0 (fun q => by omega)
      refine hK.out _ _ T4 (fun hHeld => ?_)
      clear hK
      clear T4
      obtain ⟨Y4, hY4⟩ : ∃ X, Y3.setRow g2 P0 = X := ⟨_, rfl⟩
      rw [hY4] at r1 r2 hHeld ⊢
      clear hY4
      refine wpAnyH_done (by kernel_rfl) ?_ _
      go_simp
      go_wp2_with fail
      go_meet
      case rel => exact ⟨g1, g2, rfl, rfl, ⟨r1, r2, hHeld⟩⟩
    · skip
      go_simp
      have hs5 := hHeld.size
      refine hK.out _ _ (hHeld.alloc _) (fun hHeld => ?_)
      clear hK
      obtain ⟨X5, hX5⟩ : ∃ X, X0.alloc (.cells ZQ0 47) = X := ⟨_, rfl⟩
      have r5 : Row X5 X0.heap.size ZQ0 47 := by rw [← hX5]; exact Row.new X0 _ _
      rw [hX5] at hHeld ⊢
      clear hX5
      generalize X0.heap.size = g5 at *
      refine wpAnyH_ready (rs := [8]) (by kernel_rfl) (by simp) ?_
      refine AllReadyH.cons rfl (fun K hK => ?_) AllReadyH.nil
      go_simp
      have hs6 := hHeld.size
      have lt6p := Row.lt r5
      refine hK.out _ _ (hHeld.alloc _) (fun hHeld => ?_)
      clear hK
      obtain ⟨X6, hX6⟩ : ∃ X, X5.alloc (.cells AZ0 38) = X := ⟨_, rfl⟩
      have r6 : Row X6 X5.heap.size AZ0 38 := by rw [← hX6]; exact Row.new X5 _ _
      have r5 : Row X6 g5 ZQ0 47 := by rw [← hX6]; exact Row.alloc r5 _
      rw [hX6] at hHeld ⊢
      clear hX6
      generalize X5.heap.size = g6 at *
      refine wpAnyH_ready (rs := [10]) (by kernel_rfl) (by simp) ?_
      refine AllReadyH.cons rfl (fun K hK => ?_) AllReadyH.nil
      rw [if_pos (by rfl)]
      refine wp_store_row 38 _ _ rfl g6 M0 rfl rfl 38 AZ0 r6 iM sM oM ?_
      have r5 : Row (X6.setRow g6 M0) g5 ZQ0 47 := Row.setOther r5 (by omega) M0
      have r6 : Row (X6.setRow g6 M0) g6 M0 38 := setRow_heap X6 g6 _ M0 38 _ r6
      have T7 : Turn no w0 (X6.setRow g6 M0) := hHeld.setRow g6 M0 (fun q => by omega)
      refine hK.out _ _ T7 (fun hHeld => ?_)
      clear hK
      clear T7
      obtain ⟨Y7, hY7⟩ : ∃ X, X6.setRow g6 M0 = X := ⟨_, rfl⟩
      rw [hY7] at r5 r6 hHeld ⊢
      clear hY7
      refine wpAnyH_ready (rs := [11]) (by kernel_rfl) (by simp) ?_
      refine AllReadyH.cons rfl (fun K hK => ?_) AllReadyH.nil
      rw [if_pos (by rfl)]
      refine wp_store_row 47 _ _ rfl g5 P0 rfl rfl 47 ZQ0 r5 iPf sPf oPf ?_
      have r6 : Row (Y7.setRow g5 P0) g6 M0 38 := Row.setOther r6 (by omega) P0
      have r5 : Row (Y7.setRow g5 P0) g5 P0 47 := setRow_heap Y7 g5 _ P0 47 _ r5
      have T8 : Turn no w0 (Y7.setRow g5 P0) := hHeld.setRow g5 P0 (fun q => by omega)
      refine hK.out _ _ T8 (fun hHeld => ?_)
      clear hK
      clear T8
      obtain ⟨Y8, hY8⟩ : ∃ X, Y7.setRow g5 P0 = X := ⟨_, rfl⟩
      rw [hY8] at r5 r6 hHeld ⊢
      clear hY8
      refine wpAnyH_done (by kernel_rfl) ?_ _
      go_simp
      go_wp2_with fail
      go_meet
      case rel => exact ⟨g6, g5, rfl, rfl, ⟨r6, r5, hHeld⟩⟩
  case rest =>
    obtain ⟨gm, gp, rfl, rfl, HK⟩ := hcut
    have c0 := HK.out.1.cell 0 _ HM0.out
    have d0 := HK.out.2.1.cell 0 _ HP0.out.1
    have d1 := HK.out.2.1.cell 1 _ HP0.out.2
    have HSM := shut (And.intro iM sM)
    clear iM sM iPf oPf sPf hz57
    go_upto_region 2 with fail
    go_cut [43] from 21 to 42 (fun z wx => z = .bool BB ∧ wx = wc)
    case first =>
      by_cases h1 : a < md
      · have h1' : (a : Int) < (md : Int) := by omega
        have h3' : ¬ (md : Int) < (a : Int) := by omega
        have g1 : decide (a < md) = true := by simpa using h1
        have g3 : decide (md < a) = false := by simp; omega
        rw [g1, g3] at HB
        by_cases h2 : qi = 0
        · have h2' : (qi != 0) = false := by simpa using h2
          rw [h2'] at HB
          clear h2
          go_wp2_with fail
          go_meet
          case rel => exact ⟨by rw [HB.out]; rfl, rfl⟩
        · have h2' : (qi != 0) = true := by simpa using h2
          rw [h2'] at HB
          clear h2
          go_wp2_with fail
          go_meet
          case rel => exact ⟨by rw [HB.out]; rfl, rfl⟩
      · have h1' : ¬ (a : Int) < (md : Int) := by omega
        have g1 : decide (a < md) = false := by simpa using h1
        rw [g1] at HB
        by_cases h3 : md < a
        · have h3' : (md : Int) < (a : Int) := by omega
          have g3 : decide (md < a) = true := by simpa using h3
          rw [g3] at HB
          cases hw : (qi != IntKind.i64.wrap (qt - 1)) with
          | true =>
            rw [hw] at HB
            go_wp2_with fail
            go_meet
            case rel => exact ⟨by rw [HB.out]; rw [show IntKind.i64.wrap (qt - 1) = wrap64 (qt - 1) by (unfold wrap64; exact IntKind.wrap_i64 _)] at hw; rw [hw]; rfl, rfl⟩
          | false =>
            rw [hw] at HB
            go_wp2_with fail
            go_meet
            case rel => exact ⟨by rw [HB.out]; rw [show IntKind.i64.wrap (qt - 1) = wrap64 (qt - 1) by (unfold wrap64; exact IntKind.wrap_i64 _)] at hw; rw [hw]; rfl, rfl⟩
        · have h3' : ¬ (md : Int) < (a : Int) := by omega
          have g3 : decide (md < a) = false := by simpa using h3
          rw [g3] at HB
          go_wp2_with fail
          go_meet
          case rel => exact ⟨by rw [HB.out]; rfl, rfl⟩
    case rest =>
      obtain ⟨rfl, rfl⟩ := hcut
      obtain ⟨RX, RW, RZ⟩ := HRW.out
      have RXc := RX.turn HK.out.2.2 (fun q => q)
      have RWc := RW.turn HK.out.2.2 (fun q => q)
      have RZc := RZ.turn HK.out.2.2 (fun q => q)
      have HTc := shut (HT0.out.then_no HK.out.2.2)
      clear d0 d1 RX RW RZ HB
      cases BB with
      | true =>
        go_wp2_with (first | (guard_target =~ wpList _ _ _ ({ dst := _, op := Op.build 38 _, .. } :: _) _ _; refine wpList_buildG (by kernel_rfl) 38 rfl _ (hbd.out _) ?_) | (guard_target =~ wpList _ _ _ ({ dst := _, op := Op.store 38 _ _, .. } :: _) _ _; refine wpList_store_anyN rfl rfl 38 (.tmp 6) (.tmp 44) rfl (w.heap.size + 2) AZ0 rfl rfl 38 AZ0 RZc iA0 rfl oA0 ?_; intro w9 R9 T9))
        have f1 : FF = false := by rw [HF.out]; rfl
        have f2 : EE = 20 := by rw [HE.out]; rfl
        have f3 : AA = AZ0 := by rw [HAA.out, f1]; rfl
        refine bodyPost_ret (v := .tuple #[.agg AZ0, .bool false, .int .i64 20]) (results_c3 (P := Tryz.prog) Tryz.results31 _ _ (w.heap.size + 2) 38 AZ0 (0, 0) _ rfl R9 Tryz.underlying38 rfl iA0) rfl ⟨by rw [f1, f2, f3], HTc.out.trans T9 (fun i hi q => by have q2 : i = w.heap.size + 2 := q; omega)⟩
      | false =>
        have K29 := HTOP.out _ HTc.out
        go_upto_region 5 with (first | (guard_target =~ wpList _ _ _ ({ dst := some 46, .. } :: _) _ _; refine wpList_load_row rfl 29 (.tmp 3) rfl w.heap.size rfl 29 XA _ _ RXc Tryz.underlying29 rfl iX ?_) | (guard_target =~ wpList _ _ _ ({ dst := some 47, .. } :: _) _ _; refine wpList_load_row rfl 32 (.tmp 5) rfl (w.heap.size + 1) rfl 32 WA _ _ RWc Tryz.underlying32 rfl iW ?_) | (go_at_call 64; refine K29.mono ?_; clear K29; rintro e w5 ⟨rfl, t5⟩) | (guard_target =~ wpList _ _ _ ({ dst := _, op := Op.store 29 _ _, .. } :: _) _ _; refine wpList_store_anyN rfl rfl 29 (.tmp 11) (.tmp 49) rfl w5.heap.size TH rfl rfl 29 Z (Row.new w5 Z 29) iT sZT oT ?_; intro w6 R6 t6))
        have T6 : Turn no wc w6 := t5.trans (((Turn.refl (fun z => z = w5.heap.size) w5).alloc _).trans t6 (fun _ _ q => q)) (fun i hi q => by have q2 : i = w5.heap.size := q; have := t5.size; omega)
        have RZ6 := Row.turn RZc T6 (fun q => q)
        have RM6 := Row.turn HK.out.1 T6 (fun q => q)
        have c6 := T6.keep c0 (fun q => q)
        have HT6 := shut (HTc.out.then_no T6)
        clear RXc RWc RZc T6 t5 t6 c0 hzv R6
        by_cases hT : TE = 0
        · have hT' : (TE != 0) = false := by simpa using hT
          by_cases hm : md = a
          · have hm' : ((md : Int) != (a : Int)) = false := by simp; omega
            have hm2 : ((md : Int) == (a : Int)) = true := by simp; omega
            go_wp2_with (first | (guard_target =~ wpList _ _ _ ({ dst := some 60, .. } :: _) _ _; refine wpList_load_row rfl 38 (.tmp 9) rfl gm rfl 38 M0 _ _ RM6 Tryz.underlying38 rfl HSM.out.1 ?_) | (guard_target =~ wpList _ _ _ ({ dst := _, op := Op.store 38 _ _, .. } :: _) _ _; refine wpList_store_anyN rfl rfl 38 (.tmp 6) (.tmp 60) rfl (w.heap.size + 2) M0 rfl rfl 38 AZ0 RZ6 HSM.out.1 HSM.out.2 oM ?_; intro w9 R9 T9))
            have f1 : FF = true := by rw [HF.out, hT, hm2]; rfl
            have f2 : EE = 0 := by rw [HE.out]; exact hT
            have f3 : AA = M0 := by rw [HAA.out, f1]; rfl
            refine bodyPost_ret (v := .tuple #[.agg M0, .bool true, .int .i64 0]) (results_c3 (P := Tryz.prog) Tryz.results31 _ _ (w.heap.size + 2) 38 M0 (0, 0) _ rfl R9 Tryz.underlying38 rfl HSM.out.1) rfl ⟨by rw [f1, f2, f3], HT6.out.trans T9 (fun i hi q => by have q2 : i = w.heap.size + 2 := q; omega)⟩
          · have hm' : ((md : Int) != (a : Int)) = true := by simp; omega
            have hm2 : ((md : Int) == (a : Int)) = false := by simp; omega
            go_wp2_with (first | (guard_target =~ wpList _ _ _ ({ dst := _, op := Op.build 38 _, .. } :: _) _ _; refine wpList_buildG (by kernel_rfl) 38 rfl _ (hbd.out _) ?_) | (guard_target =~ wpList _ _ _ ({ dst := _, op := Op.store 38 _ _, .. } :: _) _ _; refine wpList_store_anyN rfl rfl 38 (.tmp 6) (.tmp 59) rfl (w.heap.size + 2) AZ0 rfl rfl 38 AZ0 RZ6 iA0 rfl oA0 ?_; intro w9 R9 T9))
            have f1 : FF = false := by rw [HF.out, hm2]; simp
            have f2 : EE = 0 := by rw [HE.out]; exact hT
            have f3 : AA = AZ0 := by rw [HAA.out, f1]; rfl
            refine bodyPost_ret (v := .tuple #[.agg AZ0, .bool false, .int .i64 0]) (results_c3 (P := Tryz.prog) Tryz.results31 _ _ (w.heap.size + 2) 38 AZ0 (0, 0) _ rfl R9 Tryz.underlying38 rfl iA0) rfl ⟨by rw [f1, f2, f3], HT6.out.trans T9 (fun i hi q => by have q2 : i = w.heap.size + 2 := q; omega)⟩
        · have hT' : (TE != 0) = true := by simpa using hT
          have hT2 : (TE == 0) = false := by simpa using hT
          go_wp2_with (first | (guard_target =~ wpList _ _ _ ({ dst := _, op := Op.build 38 _, .. } :: _) _ _; refine wpList_buildG (by kernel_rfl) 38 rfl _ (hbd.out _) ?_) | (guard_target =~ wpList _ _ _ ({ dst := _, op := Op.store 38 _ _, .. } :: _) _ _; refine wpList_store_anyN rfl rfl 38 (.tmp 6) (.tmp 53) rfl (w.heap.size + 2) AZ0 rfl rfl 38 AZ0 RZ6 iA0 rfl oA0 ?_; intro w9 R9 T9))
          have f1 : FF = false := by rw [HF.out, hT2]; simp
          have f2 : EE = TE := by rw [HE.out]; rfl
          have f3 : AA = AZ0 := by rw [HAA.out, f1]; rfl
          refine bodyPost_ret (v := .tuple #[.agg AZ0, .bool false, .int .i64 TE]) (results_c3 (P := Tryz.prog) Tryz.results31 _ _ (w.heap.size + 2) 38 AZ0 (0, 0) _ rfl R9 Tryz.underlying38 rfl iA0) rfl ⟨by rw [f1, f2, f3], HT6.out.trans T9 (fun i hi q => by have q2 : i = w.heap.size + 2 := q; omega)⟩
end Go.Proofs.YtlacfenenbblaaaGreatDoor


