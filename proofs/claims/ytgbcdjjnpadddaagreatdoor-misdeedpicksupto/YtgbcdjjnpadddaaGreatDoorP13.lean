/- The walk of MisdeedPicks. -/
import Derived.Test.YtgbcdjjnpadddaaGreatDoorPd
namespace Go.Proofs.YtgbcdjjnpadddaaGreatDoor
open Go.RowKit Go.Maps Go.MuLone
set_option linter.unusedVariables false

theorem low_row {n0 : Nat} {W W' : World} {g : Nat} {cs : Array Value} {t : TypeId} (r : Row W g cs t) (tt : Turn (Ab n0) W W') (hg : g < n0) : Row W' g cs t := r.turn tt (fun e => by
  have e' : n0 ≤ g := e
  omega)
theorem Bk.offmap {w w' : World} {p br bt : Nat} {V : UInt64 → Value} {E : List UInt64} {R : List Rec} (h : Bk w p br bt V E R) {m : Nat} (t : Turn (fun k => k = m) w w') {es : Array MapEntry} {c : Nat} (hm : w.heap[m]? = some (.map es c)) (h1 : m ≠ br) (h2 : m ≠ bt) : Bk w' p br bt V E R := h.turn t (fun k hk q => by
  have q' : k = m := q
  subst q'
  rcases hk with e | e | e | ⟨a, e⟩
  · obtain ⟨D1, D2, hr, _⟩ := h.reg
    have := hr.row
    rw [← e, hm] at this
    cases this
  · exact h1 e
  · exact h2 e
  · obtain ⟨c', ho⟩ := (h.rows a).obj e
    rw [hm] at ho
    cases ho)
/-- What the first loop keeps: what was shown, what the pool holds. -/
def LI (n0 : Nat) (w1 : World) (g p br bt q : Nat) (vm vo ve : Value) (E : List UInt64) (S1 S2 : List Nat) (pp pb : Nat) (c : ByteArray) (P : List Pa) (O : List (Nat × Nat)) (age hh : Nat) (k : Nat) (Lp : List (Vt × Vt)) (R : List Rec) (W : World) : Prop :=
  ∃ (V : UInt64 → Value) (vr : Value), Wd n0 W g p br bt q vm vo ve vr V E R E E S1 S2 ∧ R.length ≤ 2 * k ∧ Pl W pp pb Lp ∧ (∀ e ∈ Lp, verE c P O age hh R e.1 e.2 = 0) ∧ Lp.length ≤ k ∧ Turn (Ab n0) w1 W
/-- What the second loop keeps. -/
def LJ (n0 : Nat) (w1 : World) (g p br bt q : Nat) (vm vo ve : Value) (E : List UInt64) (R : List Rec) (S1 S2 : List Nat) (pp pb : Nat) (Lp : List (Vt × Vt)) (lv : Value) (l : List (Vt × Vt)) (W : World) : Prop :=
  ∃ (V : UInt64 → Value) (vr : Value), Wd n0 W g p br bt q vm vo ve vr V E R E E S1 S2 ∧ Pl W pp pb Lp ∧ OwnN W 52 106 lv l.length (evsC l) ∧ Turn (Ab n0) w1 W
theorem LJ.turn_no {n0 : Nat} {w1 : World} {g p br bt q : Nat} {vm vo ve : Value} {E : List UInt64} {R : List Rec} {S1 S2 : List Nat} {pp pb : Nat} {Lp : List (Vt × Vt)} {lv : Value} {l : List (Vt × Vt)} {W W' : World} (h : LJ n0 w1 g p br bt q vm vo ve E R S1 S2 pp pb Lp lv l W) (t : Turn no W W') : LJ n0 w1 g p br bt q vm vo ve E R S1 S2 pp pb Lp lv l W' := by
  obtain ⟨V, vr, h1, h2, h3, h4⟩ := h
  exact ⟨V, vr, h1.turn_no t, h2.turn_no t, h3.turn_no t, h4.then_no t⟩
theorem evL_front {w : World} {g o : Nat} {e : Vt × Vt} (h : w.rangeAt g o (evL e)) : w.rangeAt g o e.1.cs := fun j u hu => h j u (by
  rw [evL, List.getElem?_append_left (List.getElem?_eq_some_iff.1 hu).1]
  exact hu)
set_option maxRecDepth 100000 in
set_option maxHeartbeats 40000000 in
theorem picks3 (w : World) (SA : Array Value) (c : ByteArray) (age hh : Nat) (pv ov : Value) (hS : StC SA c age hh pv ov) (hh64 : hh < 18446744073709551616) (P : List Pa) (hP : Pas w pv P) (O : List (Nat × Nat)) (hO : Ofs w ov O) (hO64 : ∀ m ∈ O, Off64 m)
    (v : Value) (L : List UInt64) (hv : As w v L) (hL : L.length ≤ 1048576) (v2 : Value) (Q : List TwV) (hQ : Tws w v2 Q) (hQL : Q.length ≤ 1048576) (hl0 : Laid0 w) (hl1 : Laid1 w) (h3 : 3 ≤ w.heap.size) :
    Calls Tryz.prog 3 #[.agg SA, v, v2] w fun e w' => e = .returned (.bool true) ∧ Turn no w w' := by
  obtain ⟨SL, hSL⟩ : ∃ SL : List Value, SA = SL.toArray := ⟨SA.toList, (Array.toArray_toList).symm⟩
  subst hSL
  obtain ⟨w0, hw0⟩ : ∃ w0, w.alloc (.cells SL.toArray 37) = w0 := ⟨_, rfl⟩
  have T0 : Turn no w w0 := by rw [← hw0]; exact (Turn.refl no w).alloc _
  have R0 : Row w0 w.heap.size SL.toArray 37 := by rw [← hw0]; exact Row.new w SL.toArray 37
  have hal := alive4 w0
  have e44 := eql44_ne
  obtain ⟨ad, cap, evv, -⟩ := hv.cells
  subst evv
  obtain ⟨qa, qc, rfl, hQm, hQc⟩ := hQ
  have HEN : Shut (∀ W, Turn no w W → Calls Tryz.prog 6 #[.slice ad L.length cap] W (EnRet W L.length)) := fun W t => enters5 W _ L ⟨by
    obtain ⟨a', c', e, h1, h2⟩ := hv.cells
    exact ⟨a', c', e, h1, fun j x hx => by
      obtain ⟨b', o', e1, h⟩ := h2 j x hx
      exact ⟨b', o', e1, t.keep h (fun q => q)⟩⟩⟩ hL
  have HT0 := shut T0
  have hOX := shut hO64
  have HIN := shut (And.intro hS (And.intro hP (And.intro hO (And.intro hl0 (And.intro hl1 hQc)))))
  have iS := hS.size
  have iSL : (Tryz.prog.info? 37).map (·.size) = some SL.length := by rw [← List.size_toArray]; exact iS
  have HCH : Hid (SL.toArray[0]? = some (.string c)) := hS.ch
  obtain ⟨n, hn⟩ : ∃ n, Hid (Q.length = n) := ⟨_, rfl⟩
  rw [show Q.length = n from hn.out] at hQL hQm ⊢
  clear hO64 hS hP hO hv hl0 hl1 hQc T0
  go_enter Tryz.func3, Tryz.ntmps3
  go_upto_region 1 with fail
  try rw [hw0]
  clear hw0
  go_upto_region 4 with (go_at_call 5; refine hal.mono ?_; clear hal; rintro e w1 ⟨rfl, t1⟩)
  have T1 := HT0.out.then_no t1
  have R1 := Row.turn R0 t1 (fun q => q)
  have hen := HEN.out w1 T1
  clear HEN R0
  go_upto_region 5 with (go_at_call 6; refine hen.mono ?_; clear hen; rintro e w2 ⟨g, p, br, bt, q, rfl, HEI⟩; have HEI := shut HEI)
  go_upto_region 6 with (go_at_call 7; refine (new7p w2).mono ?_; rintro e w3 ⟨pp, pb, rfl, hpp, hpb, hPl, t3⟩)
  obtain ⟨vm, vo, ve, E, S1, S2, W2, hE, t2⟩ := HEI.out
  have hE' : E.length ≤ 1048576 := by omega
  have W3 := W2.turn_no t3
  obtain ⟨n0, hn0⟩ : ∃ n0, w1.heap.size = n0 := ⟨_, rfl⟩
  rw [hn0] at W2 W3
  have hz1 := T1.size
  have hz2 := t2.size
  have hlow : w.heap.size < n0 := by have := R1.lt; omega
  have TA : Turn (Ab n0) w1 w3 := (t2.then_no t3).of_no
  have HNE : Shut (pb ≠ br ∧ pb ≠ bt ∧ pb ≠ p ∧ n0 ≤ pp ∧ n0 ≤ pb) := by
    have b1 := W2.bk.lt (.inr (.inl rfl))
    have b2 := W2.bk.lt (.inr (.inr (.inl rfl)))
    have b3 := W2.bk.lt (.inl rfl)
    exact ⟨by omega, by omega, by omega, by omega, by omega⟩
  have HLOW : Shut (∀ W, Turn (Ab n0) w1 W → Row W w.heap.size SL.toArray 37 ∧ Turn no w W) := fun W t => ⟨low_row R1 t hlow, T1.trans t (fun i hi e => by
    have e' : n0 ≤ i := e
    omega)⟩
  have HLI0 : Shut (LI n0 w1 g p br bt q vm vo ve E S1 S2 pp pb c P O age hh 0 [] [] w3) := ⟨_, _, W3, by simp, hPl, fun e h => by simp at h, by simp, TA⟩
  have HEE := shut hE'
  clear W2 W3 hPl TA hpp hpb t2 t3 R1 HEI hE hE' hz1 hz2 t1
  go_upto_region 8 with fail
  go_wp2_with fail
  go_loopw [11, 10] (fun cc c10 wr => ∃ k : Nat, k ≤ n ∧ cc = .int .i64 k ∧ ∃ (Lp : List (Vt × Vt)) (R : List Rec), c10 = .int .i64 Lp.length ∧ Shut (LI n0 w1 g p br bt q vm vo ve E S1 S2 pp pb c P O age hh k Lp R wr)) (fun cc _ _ => n - (intOf cc).toNat)
  case atStart => exact ⟨0, by omega, rfl, [], [], rfl, HLI0⟩
  case round =>
    obtain ⟨k, hk, rfl, Lp, R, rfl, hI⟩ := hrel
    obtain ⟨V, vr, W0, hRl, hPl, hver, hLk, T⟩ := hI.out
    by_cases hlt : k < n
    · obtain ⟨t, ht⟩ : ∃ t, Q[k]? = some t := ⟨Q[k]'(by rw [hn.out]; exact hlt), List.getElem?_eq_getElem _⟩
      obtain ⟨hS, hP, hO, hl0, hl1, hQc⟩ := HIN.out
      obtain ⟨⟨hta, htb⟩, qb, qoff, eqa, rt⟩ := hQc k t ht
      subst eqa
      obtain ⟨hRw, hTw⟩ := HLOW.out wr T
      have hszw := hTw.size
      have hn0w : n0 ≤ wr.heap.size := by have := T.size; omega
      have hl0w := hl0.turn hTw (fun q => q)
      have hl1w := hl1.turn hTw (fun q => q)
      have HSH : Shut (∀ W, Turn no wr W → Calls Tryz.prog 8 #[.pointer (some ⟨g, 0, none⟩), .string c, .agg t.cs] W (ShRet n0 W g p br bt q vm vo ve E R S1 S2)) := fun W tt => by
        have := tt.size
        exact shown6 (W0.turn_no tt) (by omega) (by omega) (by omega) (hl1w.turn tt (fun q => q)) (hl0w.turn tt (fun q => q)) HEE.out c t.a t.b hta htb t.r0 t.r1 t.sw
      have hlt' : (k : Int) < (n : Int) := by omega
      have HF : Shut (∀ W, Turn (Ab n0) w1 W → Row W w.heap.size SL.toArray 37 ∧ W.cell? ⟨w.heap.size, 0, none⟩ = some (.string c) ∧ W.rangeAt qb (qoff + k * 109) t.cs.toList) := fun W tt => by
        obtain ⟨r1, r2⟩ := HLOW.out W tt
        exact ⟨r1, r1.cell 0 _ HCH.out, range_turn rt r2⟩
      have iT : (Tryz.prog.info? 57).map (·.size) = some t.cs.toList.length := by
        have : t.cs.toList.length = 109 := by simp [TwV.cs, twC, t.a.len hta.1, t.b.len htb.1]
        rw [this]
        exact size57
      have HI := shut (And.intro hI.out (And.intro T (And.intro hszw hn0w)))
      have z52 := zero52
      obtain ⟨ZE, hZE⟩ : ∃ ZE, Hid (evC zvt zvt = ZE) := ⟨_, rfl⟩
      have sZE : ZE.size = 106 := by rw [← hZE.out]; exact evC_size zvt_ok zvt_ok
      rw [show evC zvt zvt = ZE from hZE.out] at z52
      have HTT := shut (And.intro ht (And.intro hta htb))
      have HINs := shut (And.intro hS (And.intro hP (And.intro hO (And.intro hl0 hl1))))
      clear W0 hRl hPl hver hLk T hI hS hP hO hl0 hl1 hQc hRw hTw hl0w hl1w rt ht hta htb hszw hn0w
      obtain ⟨TC, hTC⟩ : ∃ TC : List Value, t.cs = TC.toArray := ⟨t.cs.toList, (Array.toArray_toList).symm⟩
      rw [hTC] at HSH HF iT
      clear hTC
      go_upto_region 12 with fail
      refine wp_region_held_drew (S := fun W => Turn (Ab n0) w1 W) (by kernel_rfl) HI.out.2.1.drew (fun hHeld => ?_)
      refine' wpAnyH_take (i := 0) (v := .pointer (some ⟨g, 0, none⟩)) rfl (by kernel_rfl) (by kernel_rfl) (by kernel_rfl) (fun _ _ _ h => h) (Or.inl ⟨by kernel_rfl, fun W hW => ?y1⟩) hHeld ?r1
      · skip
        go_simp
      refine' wpAnyH_take (i := 1) (v := .pointer (some ⟨w.heap.size, 0, none⟩)) rfl (by kernel_rfl) (by kernel_rfl) (by kernel_rfl) (fun _ _ _ h => h) (Or.inl ⟨by kernel_rfl, fun W hW => ?y2⟩) hHeld ?r2
      · skip
        go_simp
      refine' wpAnyH_take (i := 2) (v := .string c) rfl (by kernel_rfl) (by kernel_rfl) (by kernel_rfl) (fun _ _ _ h => h) (Or.inl ⟨by kernel_rfl, fun W hW => ?y3⟩) hHeld ?r3
      · obtain ⟨_, q1, _⟩ := HF.out W hW
        go_simp
      refine' wpAnyH_take (i := 3) (v := .slice (some ⟨qb, qoff, none⟩) n qc) rfl (by kernel_rfl) (by kernel_rfl) (by kernel_rfl) (fun _ _ _ h => h) (Or.inl ⟨by kernel_rfl, fun W hW => ?y4⟩) hHeld ?r4
      · skip
        go_simp
      refine' wpAnyH_take (i := 4) (v := .int .i64 k) rfl (by kernel_rfl) (by kernel_rfl) (by kernel_rfl) (fun _ _ _ h => h) (Or.inl ⟨by kernel_rfl, fun W hW => ?y5⟩) hHeld ?r5
      · skip
        go_simp
      refine' wpAnyH_take (i := 5) (v := .pointer (some ⟨qb, qoff + k * 109, none⟩)) rfl (by kernel_rfl) (by kernel_rfl) (by kernel_rfl) (fun _ _ _ h => h) (Or.inl ⟨by kernel_rfl, fun W hW => ?y6⟩) hHeld ?r6
      · skip
        go_simp
      refine' wpAnyH_take (i := 6) (v := .agg TC.toArray) rfl (by kernel_rfl) (by kernel_rfl) (by kernel_rfl) (fun _ _ _ h => h) (yieldsIf_load_mid (by kernel_rfl) 57 (.tmp 51) rfl qb (qoff + k * 109) (by kernel_rfl) TC _ (fun W h => (HF.out W h).2.2) Tryz.underlying57 rfl iT) hHeld ?r7
      simp only [List.getElem_toArray, List.getElem_cons_succ, List.getElem_cons_zero, Act.put, List.setIfInBounds_toArray, List.set_cons_zero, List.set_cons_succ]
      refine wpAnyH_ready (rs := [7, 11]) (by kernel_rfl) (by simp) ?_
      refine AllReadyH.cons rfl (fun K hK => ?_) (AllReadyH.cons rfl (fun K hK => ?_) AllReadyH.nil)
      · go_simp
        refine (HSH.out _ ((Turn.refl no wr).drew)).mono ?_
        rintro e w5 ⟨xa, xb, V5, vr5, R5, rfl, hxa, hxb, W5, hRM, T5, K5⟩
        have sEV : (evL (xa, xb)).length = 106 := evL_len ⟨hxa.1, hxb.1⟩
        have iEL : (Tryz.prog.info? 52).map (·.size) = some (evL (xa, xb)).length := by rw [sEV]; exact size32
        have oEL : (evL (xa, xb)).toArray.all (·.oneCell') = true := all_oneCell_toArray (evL_one (xa, xb))
        have hEV : Hid (evC xa xb = (evL (xa, xb)).toArray) := rfl
        have HX : Shut (xa.fits ∧ xb.fits ∧ RM 2 R R5) := ⟨hxa, hxb, hRM⟩
        rw [show evC xa xb = (evL (xa, xb)).toArray from rfl]
        generalize evL (xa, xb) = EL at *
        have iEA : (Tryz.prog.info? 52).map (·.size) = some EL.toArray.size := by simpa using iEL
        have sEA : ZE.size = EL.toArray.size := by simp [sZE, sEV]
        have TA5 : Turn (Ab n0) w1 w5 := HI.out.2.1.drew.trans T5 (fun _ _ e => e)
        go_wp2_with fail
        refine hK.out _ _ TA5 (fun hHeld => ?_)
        clear hK
        refine' wpAnyH_take (i := 8) (v := .tuple #[.agg EL.toArray, .bool true]) rfl (by kernel_rfl) (by kernel_rfl) (by kernel_rfl) (fun _ _ _ h => h) (Or.inl ⟨by kernel_rfl, fun W hW => ?y8⟩) hHeld ?r8
        · skip
          go_simp
        refine' wpAnyH_take (i := 9) (v := .agg EL.toArray) rfl (by kernel_rfl) (by kernel_rfl) (by kernel_rfl) (fun _ _ _ h => h) (Or.inl ⟨by kernel_rfl, fun W hW => ?y9⟩) hHeld ?r9
        · skip
          go_simp
        refine' wpAnyH_take (i := 10) (v := .bool true) rfl (by kernel_rfl) (by kernel_rfl) (by kernel_rfl) (fun _ _ _ h => h) (Or.inl ⟨by kernel_rfl, fun W hW => ?y10⟩) hHeld ?r10
        · skip
          go_simp
        simp only [List.getElem_toArray, List.getElem_cons_succ, List.getElem_cons_zero, Act.put, List.setIfInBounds_toArray, List.set_cons_zero, List.set_cons_succ]
        refine wpAnyH_ready (rs := [11]) (by kernel_rfl) (by simp) ?_
        refine AllReadyH.cons rfl (fun K hK => ?_) AllReadyH.nil
        go_simp
        refine hK.out _ _ (TA5.alloc _) (fun hHeld => ?_)
        clear hK
        refine wpAnyH_ready (rs := [12]) (by kernel_rfl) (by simp) ?_
        refine AllReadyH.cons rfl (fun K hK => ?_) AllReadyH.nil
        refine ite_mpr (by kernel_rfl) ?_
        refine wp_store_row 52 (.tmp 12) (.tmp 54) rfl w5.heap.size EL.toArray rfl rfl 52 ZE (heap_alloc_new _ _) iEA sEA oEL ?_
        have T56 : Turn no w5 ((w5.alloc (.cells ZE 52)).setRow w5.heap.size EL.toArray) := alloc_set (setRow_turn _ _)
        have R6 : Row ((w5.alloc (.cells ZE 52)).setRow w5.heap.size EL.toArray) w5.heap.size EL.toArray 52 := setRow_heap _ w5.heap.size ZE _ 52 (0, 0) (heap_alloc_new w5 _)
        generalize (w5.alloc (.cells ZE 52)).setRow w5.heap.size EL.toArray = W6x at *
        have HW6 := shut (W5.turn_no T56)
        have HK6 : Shut (Kp br bt wr W6x) := ((Kp.no (Turn.refl no wr).drew).trans K5).trans (Kp.no T56)
        have HT6 : Shut (Turn (Ab n0) w1 W6x) := TA5.then_no T56
        generalize w5.heap.size = GX at *
        clear W5 T5 K5 hRM T56 TA5 HSH
        refine hK.out _ _ HT6.out (fun hHeld => ?_)
        clear hK
        refine wpAnyH_ready (rs := [13]) (by kernel_rfl) (by simp) ?_
        refine AllReadyH.cons rfl (fun K hK => ?_) AllReadyH.nil
        go_simp
        refine hK.out _ _ HT6.out (fun hHeld => ?_)
        clear hK
        refine wpAnyH_done (by kernel_rfl) ?_ _
        go_simp
        have hS := HINs.out.1
        obtain ⟨V, vr, W0, hRl, hPl, hver, hLk, T⟩ := HI.out.1
        have hP6 : Pl W6x pp pb Lp := hPl.kp HK6.out HNE.out.1 HNE.out.2.1
        have W6 := HW6.out
        have hTw6 := (HLOW.out _ HT6.out).2
        have hsz6 := hTw6.size
        have hp2 : p ≠ 2 := fun e => by have := W6.lo.2.1; omega
        obtain ⟨mes, mc, hmap⟩ := hP6.isMap
        have TD : Turn no W6x W6x.drew := (Turn.refl no W6x).drew
        have hTd := hTw6.then_no TD
        have hadd := add9 (hP6.turn_no TD) (W6.bk.turn_no TD) SL.toArray c age hh pv ov hS hh64 P (HINs.out.2.1.turn_no hTd) O (HINs.out.2.2.1.turn_no hTd) (xa, xb) HX.out.1 HX.out.2.1 (HINs.out.2.2.2.2.turn hTd (fun q => q)) (by have := hTd.size; omega) hp2 (by omega) HNE.out.1 HNE.out.2.1
        obtain ⟨VE, hVE⟩ : ∃ VE, Hid (verE c P O age hh R5 xa xb = VE) := ⟨_, rfl⟩
        rw [show verE c P O age hh R5 (xa, xb).1 (xa, xb).2 = VE from hVE.out, show evC (xa, xb).1 (xa, xb).2 = EL.toArray from hEV.out] at hadd
        obtain ⟨AE, hAE⟩ : ∃ AE, Hid (addE VE Lp (xa, xb) = AE) := ⟨_, rfl⟩
        rw [show addE VE Lp (xa, xb) = AE from hAE.out] at hadd
        have HG : Shut (∀ W, Turn (fun k => k = p ∨ k = pb) W6x W → W.rangeAt w.heap.size 0 SL ∧ W.cell? ⟨g, 0, none⟩ = some (.pointer (some ⟨p, 0, none⟩)) ∧ W.rangeAt GX 0 EL) := fun W t => by
          have rS := (HLOW.out _ HT6.out).1
          have hpl := W6.lo.2.1
          refine ⟨row_range (rS.turn t (fun e => ?_)), ?_, row_range (R6.turn t (fun e => ?_))⟩
          · rcases e with e | e
            · omega
            · have := HNE.out.2.2.2.2
              omega
          · have hgp : g ≠ p := fun e => W6.bk.kd1 (by decide) g (.inl e) _ _ W6.row
            have hgb : g ≠ pb := fun e => by
              have hr : W6x.heap[g]? = _ := W6.row
              rw [e, hmap] at hr
              cases hr
            exact (W6.row.turn t (fun e => by rcases e with e | e; exact hgp e; exact hgb e)).cell 0 _ rfl
          · rcases e with e | e
            · subst e
              obtain ⟨D1, D2, hr, _⟩ := W6.bk.reg
              exact absurd (tag_ne R6 hr.row) (by decide)
            · have hr : W6x.heap[GX]? = _ := R6
              rw [e, hmap] at hr
              cases hr
        have HEND : Shut (∀ w7, Bk w7 p br bt V5 E R5 → Pl w7 pp pb (addL VE Lp (xa, xb)) → Turn (fun k => k = p ∨ k = pb) W6x.drew w7 → LI n0 w1 g p br bt q vm vo ve E S1 S2 pp pb c P O age hh (k + 1) (addL VE Lp (xa, xb)) R5 w7) := fun w7 B7 P7 t7 => by
          refine ⟨V5, vr5, (W6.turn_no TD).keepB B7 t7 (TD.obj hmap (fun q => q)), by have := HX.out.2.2.2; omega, P7, fun e he => ?_, ?_, (HT6.out.then_no TD).trans t7 (fun i hi e => ?_)⟩
          · have hold : ∀ e ∈ Lp, verE c P O age hh R5 e.1 e.2 = 0 := fun e he => ver_mono HX.out.2.2.1 (hver e he)
            unfold addL at he
            split at he
            case isTrue q =>
              rcases List.mem_append.1 he with h1 | h1
              · exact hold e h1
              · simp at h1
                subst h1
                have hv0 : VE = 0 := by
                  unfold addE at q
                  split at q
                  case isTrue r => exact r
                  case isFalse => exact q
                exact hVE.out.trans hv0
            case isFalse => exact hold e he
          · unfold addL
            split
            · simp
              omega
            · omega
          · rcases e with e | e
            · have := W6.lo.2.1
              show n0 ≤ i
              omega
            · have := HNE.out.2.2.2.2
              show n0 ≤ i
              omega
        have HAL : Shut (AE = 0 → addL VE Lp (xa, xb) = Lp ++ [(xa, xb)]) := fun h => by rw [addL, if_pos (hAE.out.trans h)]
        have HAN : Shut (¬ AE = 0 → addL VE Lp (xa, xb) = Lp) := fun h => by rw [addL, if_neg (fun q => h (hAE.out.symm.trans q))]
        have hLk' : Lp.length ≤ 1048576 := by omega
        clear hS V vr W0 hRl hPl hver T hP6 W6 hTw6 hsz6 hp2 hmap TD hTd R6 HW6 HK6
        go_upto_region 15 with fail
        refine wp_region_held_drew (S := fun W => Turn (fun k => k = p ∨ k = pb) W6x W) (by kernel_rfl) (Turn.refl _ W6x).drew (fun hHeld => ?_)
        refine' wpAnyH_take (i := 0) (v := .pointer (some ⟨pp, 0, none⟩)) rfl (by kernel_rfl) (by kernel_rfl) (by kernel_rfl) (fun _ _ _ h => h) (Or.inl ⟨by kernel_rfl, fun W hW => ?y11⟩) hHeld ?r11
        · skip
          go_simp
        refine' wpAnyH_take (i := 1) (v := .agg SL.toArray) rfl (by kernel_rfl) (by kernel_rfl) (by kernel_rfl) (fun _ _ _ h => h) (yieldsIf_load_mid (by kernel_rfl) 37 (.tmp 3) rfl w.heap.size 0 (by kernel_rfl) SL _ (fun W h => (HG.out W h).1) Tryz.underlying37 rfl iSL) hHeld ?r12
        refine' wpAnyH_take (i := 2) (v := .pointer (some ⟨g, 0, none⟩)) rfl (by kernel_rfl) (by kernel_rfl) (by kernel_rfl) (fun _ _ _ h => h) (Or.inl ⟨by kernel_rfl, fun W hW => ?y13⟩) hHeld ?r13
        · skip
          go_simp
        refine' wpAnyH_take (i := 3) (v := .pointer (some ⟨g, 0, none⟩)) rfl (by kernel_rfl) (by kernel_rfl) (by kernel_rfl) (fun _ _ _ h => h) (Or.inl ⟨by kernel_rfl, fun W hW => ?y14⟩) hHeld ?r14
        · skip
          go_simp
        refine' wpAnyH_take (i := 4) (v := .pointer (some ⟨g, 0, none⟩)) rfl (by kernel_rfl) (by kernel_rfl) (by kernel_rfl) (fun _ _ _ h => h) (Or.inl ⟨by kernel_rfl, fun W hW => ?y15⟩) hHeld ?r15
        · skip
          go_simp
        refine' wpAnyH_take (i := 5) (v := .pointer (some ⟨p, 0, none⟩)) rfl (by kernel_rfl) (by kernel_rfl) (by kernel_rfl) (fun _ _ _ h => h) (Or.inl ⟨by kernel_rfl, fun W hW => ?y16⟩) hHeld ?r16
        · obtain ⟨_, q1, _⟩ := HG.out W hW
          go_simp
        refine' wpAnyH_take (i := 6) (v := .agg EL.toArray) rfl (by kernel_rfl) (by kernel_rfl) (by kernel_rfl) (fun _ _ _ h => h) (yieldsIf_load_mid (by kernel_rfl) 52 (.tmp 12) rfl GX 0 (by kernel_rfl) EL _ (fun W h => (HG.out W h).2.2) Tryz.underlying52 rfl iEL) hHeld ?r17
        simp only [List.getElem_toArray, List.getElem_cons_succ, List.getElem_cons_zero, Act.put, List.setIfInBounds_toArray, List.set_cons_zero, List.set_cons_succ]
        refine wpAnyH_ready (rs := [7]) (by kernel_rfl) (by simp) ?_
        refine AllReadyH.cons rfl (fun K hK => ?_) AllReadyH.nil
        go_simp
        refine hadd.mono ?_
        rintro e w7 ⟨rfl, B7, P7, t7⟩
        have HE7 := shut (HEND.out w7 B7 P7 t7)
        have T7 : Turn (fun k => k = p ∨ k = pb) W6x w7 := ((Turn.refl no W6x).drew.of_no.trans t7 (fun _ _ e => e))
        clear B7 P7 t7 hadd HEND
        go_wp2_with fail
        refine hK.out _ _ T7 (fun hHeld => ?_)
        clear hK
        refine wpAnyH_ready (rs := [8]) (by kernel_rfl) (by simp) ?_
        refine AllReadyH.cons rfl (fun K hK => ?_) AllReadyH.nil
        go_simp
        refine hK.out _ _ T7 (fun hHeld => ?_)
        clear hK
        refine wpAnyH_done (by kernel_rfl) ?_ _
        go_simp
        by_cases hA : AE = 0
        · have hx1 : (AE == 0) = true := by simp [hA]
          have HA := shut hA
          clear hA HG
          go_wp2_with fail
          go_roundw
          case rel => exact ⟨k + 1, by omega, by go_num, _, R5, by rw [HAL.out HA.out, List.length_append]; rfl, HE7⟩
          case measure => simp [intOf]; omega
        · have hx1 : (AE == 0) = false := by simp [hA]
          have HA := shut hA
          clear hA HG
          go_wp2_with fail
          go_roundw
          case rel => exact ⟨k + 1, by omega, by go_num, _, R5, by rw [HAN.out HA.out], HE7⟩
          case measure => simp [intOf]; omega
      · go_simp
        have TW1 : Turn no wr (wr.alloc (.cells ZE 52)).drew := ((Turn.refl no wr).alloc _).drew
        have RZ1 : Row (wr.alloc (.cells ZE 52)).drew wr.heap.size ZE 52 := Row.new wr ZE 52
        have TZ1 : Turn (Ab n0) w1 (wr.alloc (.cells ZE 52)).drew := HI.out.2.1.then_no TW1
        refine hK.out _ _ TZ1 (fun hHeld => ?_)
        clear hK
        generalize (wr.alloc (.cells ZE 52)).drew = wa at *
        refine wpAnyH_ready (rs := [7]) (by kernel_rfl) (by simp) ?_
        refine AllReadyH.cons rfl (fun K hK => ?_) AllReadyH.nil
        go_simp
        refine (HSH.out _ TW1).mono ?_
        rintro e w5 ⟨xa, xb, V5, vr5, R5, rfl, hxa, hxb, W5, hRM, T5, K5⟩
        have sEV : (evL (xa, xb)).length = 106 := evL_len ⟨hxa.1, hxb.1⟩
        have iEL : (Tryz.prog.info? 52).map (·.size) = some (evL (xa, xb)).length := by rw [sEV]; exact size32
        have oEL : (evL (xa, xb)).toArray.all (·.oneCell') = true := all_oneCell_toArray (evL_one (xa, xb))
        have hEV : Hid (evC xa xb = (evL (xa, xb)).toArray) := rfl
        have HX : Shut (xa.fits ∧ xb.fits ∧ RM 2 R R5) := ⟨hxa, hxb, hRM⟩
        rw [show evC xa xb = (evL (xa, xb)).toArray from rfl]
        generalize evL (xa, xb) = EL at *
        have iEA : (Tryz.prog.info? 52).map (·.size) = some EL.toArray.size := by simpa using iEL
        have sEA : ZE.size = EL.toArray.size := by simp [sZE, sEV]
        have TA5 : Turn (Ab n0) w1 w5 := TZ1.trans T5 (fun _ _ e => e)
        have RZ5 := K5.1 _ _ _ RZ1 (by decide) (by decide) (by decide) (by decide)
        go_wp2_with fail
        refine hK.out _ _ TA5 (fun hHeld => ?_)
        clear hK
        refine' wpAnyH_take (i := 8) (v := .tuple #[.agg EL.toArray, .bool true]) rfl (by kernel_rfl) (by kernel_rfl) (by kernel_rfl) (fun _ _ _ h => h) (Or.inl ⟨by kernel_rfl, fun W hW => ?y18⟩) hHeld ?r18
        · skip
          go_simp
        refine' wpAnyH_take (i := 9) (v := .agg EL.toArray) rfl (by kernel_rfl) (by kernel_rfl) (by kernel_rfl) (fun _ _ _ h => h) (Or.inl ⟨by kernel_rfl, fun W hW => ?y19⟩) hHeld ?r19
        · skip
          go_simp
        refine' wpAnyH_take (i := 10) (v := .bool true) rfl (by kernel_rfl) (by kernel_rfl) (by kernel_rfl) (fun _ _ _ h => h) (Or.inl ⟨by kernel_rfl, fun W hW => ?y20⟩) hHeld ?r20
        · skip
          go_simp
        simp only [List.getElem_toArray, List.getElem_cons_succ, List.getElem_cons_zero, Act.put, List.setIfInBounds_toArray, List.set_cons_zero, List.set_cons_succ]
        refine wpAnyH_ready (rs := [12]) (by kernel_rfl) (by simp) ?_
        refine AllReadyH.cons rfl (fun K hK => ?_) AllReadyH.nil
        refine ite_mpr (by kernel_rfl) ?_
        refine wp_store_row 52 (.tmp 12) (.tmp 54) rfl wr.heap.size EL.toArray rfl rfl 52 ZE RZ5 iEA sEA oEL ?_
        have ts : Turn (fun k => k = wr.heap.size) w5 (w5.setRow wr.heap.size EL.toArray) := setRow_turn _ _
        have R6 : Row (w5.setRow wr.heap.size EL.toArray) wr.heap.size EL.toArray 52 := setRow_heap _ wr.heap.size ZE _ 52 (0, 0) RZ5
        generalize w5.setRow wr.heap.size EL.toArray = W6x at *
        have HW6 := shut (W5.off52 RZ5 ts)
        have HK6 : Shut (Kp br bt wr W6x) := ((Kp.no TW1).trans K5).set ts (Nat.le_refl _)
        have HT6 : Shut (Turn (Ab n0) w1 W6x) := TA5.trans ts (fun i hi e => by
          have e' : i = wr.heap.size := e
          have := HI.out.2.2.2
          show n0 ≤ i
          omega)
        generalize wr.heap.size = GX at *
        clear W5 T5 K5 hRM TA5 HSH ts RZ5 RZ1 TW1 TZ1
        refine hK.out _ _ HT6.out (fun hHeld => ?_)
        clear hK
        refine wpAnyH_ready (rs := [13]) (by kernel_rfl) (by simp) ?_
        refine AllReadyH.cons rfl (fun K hK => ?_) AllReadyH.nil
        go_simp
        refine hK.out _ _ HT6.out (fun hHeld => ?_)
        clear hK
        refine wpAnyH_done (by kernel_rfl) ?_ _
        go_simp
        have hS := HINs.out.1
        obtain ⟨V, vr, W0, hRl, hPl, hver, hLk, T⟩ := HI.out.1
        have hP6 : Pl W6x pp pb Lp := hPl.kp HK6.out HNE.out.1 HNE.out.2.1
        have W6 := HW6.out
        have hTw6 := (HLOW.out _ HT6.out).2
        have hsz6 := hTw6.size
        have hp2 : p ≠ 2 := fun e => by have := W6.lo.2.1; omega
        obtain ⟨mes, mc, hmap⟩ := hP6.isMap
        have TD : Turn no W6x W6x.drew := (Turn.refl no W6x).drew
        have hTd := hTw6.then_no TD
        have hadd := add9 (hP6.turn_no TD) (W6.bk.turn_no TD) SL.toArray c age hh pv ov hS hh64 P (HINs.out.2.1.turn_no hTd) O (HINs.out.2.2.1.turn_no hTd) (xa, xb) HX.out.1 HX.out.2.1 (HINs.out.2.2.2.2.turn hTd (fun q => q)) (by have := hTd.size; omega) hp2 (by omega) HNE.out.1 HNE.out.2.1
        obtain ⟨VE, hVE⟩ : ∃ VE, Hid (verE c P O age hh R5 xa xb = VE) := ⟨_, rfl⟩
        rw [show verE c P O age hh R5 (xa, xb).1 (xa, xb).2 = VE from hVE.out, show evC (xa, xb).1 (xa, xb).2 = EL.toArray from hEV.out] at hadd
        obtain ⟨AE, hAE⟩ : ∃ AE, Hid (addE VE Lp (xa, xb) = AE) := ⟨_, rfl⟩
        rw [show addE VE Lp (xa, xb) = AE from hAE.out] at hadd
        have HG : Shut (∀ W, Turn (fun k => k = p ∨ k = pb) W6x W → W.rangeAt w.heap.size 0 SL ∧ W.cell? ⟨g, 0, none⟩ = some (.pointer (some ⟨p, 0, none⟩)) ∧ W.rangeAt GX 0 EL) := fun W t => by
          have rS := (HLOW.out _ HT6.out).1
          have hpl := W6.lo.2.1
          refine ⟨row_range (rS.turn t (fun e => ?_)), ?_, row_range (R6.turn t (fun e => ?_))⟩
          · rcases e with e | e
            · omega
            · have := HNE.out.2.2.2.2
              omega
          · have hgp : g ≠ p := fun e => W6.bk.kd1 (by decide) g (.inl e) _ _ W6.row
            have hgb : g ≠ pb := fun e => by
              have hr : W6x.heap[g]? = _ := W6.row
              rw [e, hmap] at hr
              cases hr
            exact (W6.row.turn t (fun e => by rcases e with e | e; exact hgp e; exact hgb e)).cell 0 _ rfl
          · rcases e with e | e
            · subst e
              obtain ⟨D1, D2, hr, _⟩ := W6.bk.reg
              exact absurd (tag_ne R6 hr.row) (by decide)
            · have hr : W6x.heap[GX]? = _ := R6
              rw [e, hmap] at hr
              cases hr
        have HEND : Shut (∀ w7, Bk w7 p br bt V5 E R5 → Pl w7 pp pb (addL VE Lp (xa, xb)) → Turn (fun k => k = p ∨ k = pb) W6x.drew w7 → LI n0 w1 g p br bt q vm vo ve E S1 S2 pp pb c P O age hh (k + 1) (addL VE Lp (xa, xb)) R5 w7) := fun w7 B7 P7 t7 => by
          refine ⟨V5, vr5, (W6.turn_no TD).keepB B7 t7 (TD.obj hmap (fun q => q)), by have := HX.out.2.2.2; omega, P7, fun e he => ?_, ?_, (HT6.out.then_no TD).trans t7 (fun i hi e => ?_)⟩
          · have hold : ∀ e ∈ Lp, verE c P O age hh R5 e.1 e.2 = 0 := fun e he => ver_mono HX.out.2.2.1 (hver e he)
            unfold addL at he
            split at he
            case isTrue q =>
              rcases List.mem_append.1 he with h1 | h1
              · exact hold e h1
              · simp at h1
                subst h1
                have hv0 : VE = 0 := by
                  unfold addE at q
                  split at q
                  case isTrue r => exact r
                  case isFalse => exact q
                exact hVE.out.trans hv0
            case isFalse => exact hold e he
          · unfold addL
            split
            · simp
              omega
            · omega
          · rcases e with e | e
            · have := W6.lo.2.1
              show n0 ≤ i
              omega
            · have := HNE.out.2.2.2.2
              show n0 ≤ i
              omega
        have HAL : Shut (AE = 0 → addL VE Lp (xa, xb) = Lp ++ [(xa, xb)]) := fun h => by rw [addL, if_pos (hAE.out.trans h)]
        have HAN : Shut (¬ AE = 0 → addL VE Lp (xa, xb) = Lp) := fun h => by rw [addL, if_neg (fun q => h (hAE.out.symm.trans q))]
        have hLk' : Lp.length ≤ 1048576 := by omega
        clear hS V vr W0 hRl hPl hver T hP6 W6 hTw6 hsz6 hp2 hmap TD hTd R6 HW6 HK6
        go_upto_region 15 with fail
        refine wp_region_held_drew (S := fun W => Turn (fun k => k = p ∨ k = pb) W6x W) (by kernel_rfl) (Turn.refl _ W6x).drew (fun hHeld => ?_)
        refine' wpAnyH_take (i := 0) (v := .pointer (some ⟨pp, 0, none⟩)) rfl (by kernel_rfl) (by kernel_rfl) (by kernel_rfl) (fun _ _ _ h => h) (Or.inl ⟨by kernel_rfl, fun W hW => ?y21⟩) hHeld ?r21
        · skip
          go_simp
        refine' wpAnyH_take (i := 1) (v := .agg SL.toArray) rfl (by kernel_rfl) (by kernel_rfl) (by kernel_rfl) (fun _ _ _ h => h) (yieldsIf_load_mid (by kernel_rfl) 37 (.tmp 3) rfl w.heap.size 0 (by kernel_rfl) SL _ (fun W h => (HG.out W h).1) Tryz.underlying37 rfl iSL) hHeld ?r22
        refine' wpAnyH_take (i := 2) (v := .pointer (some ⟨g, 0, none⟩)) rfl (by kernel_rfl) (by kernel_rfl) (by kernel_rfl) (fun _ _ _ h => h) (Or.inl ⟨by kernel_rfl, fun W hW => ?y23⟩) hHeld ?r23
        · skip
          go_simp
        refine' wpAnyH_take (i := 3) (v := .pointer (some ⟨g, 0, none⟩)) rfl (by kernel_rfl) (by kernel_rfl) (by kernel_rfl) (fun _ _ _ h => h) (Or.inl ⟨by kernel_rfl, fun W hW => ?y24⟩) hHeld ?r24
        · skip
          go_simp
        refine' wpAnyH_take (i := 4) (v := .pointer (some ⟨g, 0, none⟩)) rfl (by kernel_rfl) (by kernel_rfl) (by kernel_rfl) (fun _ _ _ h => h) (Or.inl ⟨by kernel_rfl, fun W hW => ?y25⟩) hHeld ?r25
        · skip
          go_simp
        refine' wpAnyH_take (i := 5) (v := .pointer (some ⟨p, 0, none⟩)) rfl (by kernel_rfl) (by kernel_rfl) (by kernel_rfl) (fun _ _ _ h => h) (Or.inl ⟨by kernel_rfl, fun W hW => ?y26⟩) hHeld ?r26
        · obtain ⟨_, q1, _⟩ := HG.out W hW
          go_simp
        refine' wpAnyH_take (i := 6) (v := .agg EL.toArray) rfl (by kernel_rfl) (by kernel_rfl) (by kernel_rfl) (fun _ _ _ h => h) (yieldsIf_load_mid (by kernel_rfl) 52 (.tmp 12) rfl GX 0 (by kernel_rfl) EL _ (fun W h => (HG.out W h).2.2) Tryz.underlying52 rfl iEL) hHeld ?r27
        simp only [List.getElem_toArray, List.getElem_cons_succ, List.getElem_cons_zero, Act.put, List.setIfInBounds_toArray, List.set_cons_zero, List.set_cons_succ]
        refine wpAnyH_ready (rs := [7]) (by kernel_rfl) (by simp) ?_
        refine AllReadyH.cons rfl (fun K hK => ?_) AllReadyH.nil
        go_simp
        refine hadd.mono ?_
        rintro e w7 ⟨rfl, B7, P7, t7⟩
        have HE7 := shut (HEND.out w7 B7 P7 t7)
        have T7 : Turn (fun k => k = p ∨ k = pb) W6x w7 := ((Turn.refl no W6x).drew.of_no.trans t7 (fun _ _ e => e))
        clear B7 P7 t7 hadd HEND
        go_wp2_with fail
        refine hK.out _ _ T7 (fun hHeld => ?_)
        clear hK
        refine wpAnyH_ready (rs := [8]) (by kernel_rfl) (by simp) ?_
        refine AllReadyH.cons rfl (fun K hK => ?_) AllReadyH.nil
        go_simp
        refine hK.out _ _ T7 (fun hHeld => ?_)
        clear hK
        refine wpAnyH_done (by kernel_rfl) ?_ _
        go_simp
        by_cases hA : AE = 0
        · have hx1 : (AE == 0) = true := by simp [hA]
          have HA := shut hA
          clear hA HG
          go_wp2_with fail
          go_roundw
          case rel => exact ⟨k + 1, by omega, by go_num, _, R5, by rw [HAL.out HA.out, List.length_append]; rfl, HE7⟩
          case measure => simp [intOf]; omega
        · have hx1 : (AE == 0) = false := by simp [hA]
          have HA := shut hA
          clear hA HG
          go_wp2_with fail
          go_roundw
          case rel => exact ⟨k + 1, by omega, by go_num, _, R5, by rw [HAN.out HA.out], HE7⟩
          case measure => simp [intOf]; omega
    · have hkn : k = n := by omega
      subst hkn
      have hlt' : ¬ (k : Int) < (k : Int) := by omega
      obtain ⟨hS, hP, hO, hl0, hl1, hQc⟩ := HIN.out
      have hTw := (HLOW.out wr T).2
      have TD : Turn no wr wr.drew := (Turn.refl no wr).drew
      have hTd := hTw.then_no TD
      have hsz := hTd.size
      have hp2 : p ≠ 2 := fun e => by have := W0.lo.2.1; omega
      have hnp := W0.lo.2.1
      have HPO : Shut (∀ m, n0 ≤ m → ∀ W0 W, Turn (Ab n0) w1 W0 → Turn (fun k => k = m) W0 W → Pas W pv P ∧ Ofs W ov O) := fun m hm W0 W t0 t => by
        have tt : Turn no w W := (HLOW.out W0 t0).2.trans t (fun i hi e => by
          have e' : i = m := e
          omega)
        exact ⟨hP.turn_no tt, hO.turn_no tt⟩
      obtain ⟨ok, hok⟩ : ∃ ok : Vt × Vt → Bool, ∀ e, ok e = decide (verE c P O age hh R e.1 e.2 = 0) := ⟨fun e => decide (verE c P O age hh R e.1 e.2 = 0), fun _ => rfl⟩
      have hp10 := pick10 (hPl.turn_no TD) (W0.bk.turn_no TD) SL.toArray c age hh pv ov hS hh64 P O (HPO.out p hnp _ · (T.then_no TD) ·) (hl1.turn hTd (fun q => q)) (by omega) hp2 (by omega) ok hok
      have hgp : g ≠ p := fun e => W0.bk.kd1 (by decide) g (.inl e) _ _ W0.row
      have HG : Shut (∀ W, Turn (fun k => k = p) wr W → W.rangeAt w.heap.size 0 SL ∧ W.cell? ⟨g, 0, none⟩ = some (.pointer (some ⟨p, 0, none⟩))) := fun W t =>
        ⟨row_range ((HLOW.out wr T).1.turn t (fun e => by
          have e' : w.heap.size = p := e
          omega)), (W0.row.turn t hgp).cell 0 _ rfl⟩
      have HA := shut (And.intro W0 (And.intro hPl (And.intro hver (And.intro hLk (And.intro T hp2)))))
      clear hI W0 hRl hPl hver hLk T hS hP hO hl0 hl1 hQc hTw TD hTd hsz hlt hk hgp hnp
      go_upto_region 18 with fail
      refine wp_region_held_drew (S := fun W => Turn (fun k => k = p) wr W) (by kernel_rfl) (Turn.refl _ wr).drew (fun hHeld => ?_)
      refine' wpAnyH_take (i := 0) (v := .pointer (some ⟨pp, 0, none⟩)) rfl (by kernel_rfl) (by kernel_rfl) (by kernel_rfl) (fun _ _ _ h => h) (Or.inl ⟨by kernel_rfl, fun W hW => ?y28⟩) hHeld ?r28
      · skip
        go_simp
      refine' wpAnyH_take (i := 1) (v := .agg SL.toArray) rfl (by kernel_rfl) (by kernel_rfl) (by kernel_rfl) (fun _ _ _ h => h) (yieldsIf_load_mid (by kernel_rfl) 37 (.tmp 3) rfl w.heap.size 0 (by kernel_rfl) SL _ (fun W h => (HG.out W h).1) Tryz.underlying37 rfl iSL) hHeld ?r29
      refine' wpAnyH_take (i := 2) (v := .pointer (some ⟨g, 0, none⟩)) rfl (by kernel_rfl) (by kernel_rfl) (by kernel_rfl) (fun _ _ _ h => h) (Or.inl ⟨by kernel_rfl, fun W hW => ?y30⟩) hHeld ?r30
      · skip
        go_simp
      refine' wpAnyH_take (i := 3) (v := .pointer (some ⟨g, 0, none⟩)) rfl (by kernel_rfl) (by kernel_rfl) (by kernel_rfl) (fun _ _ _ h => h) (Or.inl ⟨by kernel_rfl, fun W hW => ?y31⟩) hHeld ?r31
      · skip
        go_simp
      refine' wpAnyH_take (i := 4) (v := .pointer (some ⟨g, 0, none⟩)) rfl (by kernel_rfl) (by kernel_rfl) (by kernel_rfl) (fun _ _ _ h => h) (Or.inl ⟨by kernel_rfl, fun W hW => ?y32⟩) hHeld ?r32
      · skip
        go_simp
      refine' wpAnyH_take (i := 5) (v := .pointer (some ⟨p, 0, none⟩)) rfl (by kernel_rfl) (by kernel_rfl) (by kernel_rfl) (fun _ _ _ h => h) (Or.inl ⟨by kernel_rfl, fun W hW => ?y33⟩) hHeld ?r33
      · obtain ⟨_, q1⟩ := HG.out W hW
        go_simp
      simp only [List.getElem_toArray, List.getElem_cons_succ, List.getElem_cons_zero, Act.put, List.setIfInBounds_toArray, List.set_cons_zero, List.set_cons_succ]
      refine wpAnyH_ready (rs := [6]) (by kernel_rfl) (by simp) ?_
      refine AllReadyH.cons rfl (fun K hK => ?_) AllReadyH.nil
      go_simp
      refine hp10.mono ?_
      clear hp10
      rintro e w8 ⟨lv, Sx, rfl, hperm, hrise, hol, hnw, B8, P8, t8⟩
      have T8 : Turn (fun k => k = p) wr w8 := ((Turn.refl no wr).drew.of_no.trans t8 (fun _ _ e => e))
      obtain ⟨l, hl⟩ : ∃ l, pickL ok Sx = l := ⟨_, rfl⟩
      rw [hl] at hol
      obtain ⟨la, lc, rfl, -⟩ := hol.form
      have HL : Shut ((∀ e ∈ l, e ∈ Lp) ∧ Rise l ∧ l.length = min Lp.length 16) := by
        refine ⟨by rw [← hl]; exact pick_sub hperm, by rw [← hl]; exact pick_rise hrise, ?_⟩
        rw [← hl, pick_take hperm (fun e he => by rw [hok]; simp [HA.out.2.2.1 e he]), List.length_take, hperm.length_eq]
        omega
      have HJ : Shut (LJ n0 w1 g p br bt q vm vo ve E R S1 S2 pp pb Lp (.slice la l.length lc) l w8) := by
        obtain ⟨W0, hPl, hver, hLk, T, hp2⟩ := HA.out
        exact ⟨V, vr, (W0.turn_no (Turn.refl no wr).drew).keepP B8 t8, P8, hol, T.trans T8 (fun i hi e => by
          have e' : i = p := e
          have := W0.lo.2.1
          show n0 ≤ i
          omega)⟩
      have hln := len11 w8 pp pb Lp P8
      obtain ⟨m, hm⟩ : ∃ m, Hid (l.length = m) := ⟨_, rfl⟩
      obtain ⟨gd, hgd⟩ : ∃ m, Hid (Lp.length = m) := ⟨_, rfl⟩
      have hmin : min (gd : Int) 16 = (m : Int) := by
        have := HL.out.2.2
        rw [show l.length = m from hm.out, show Lp.length = gd from hgd.out] at this
        omega
      rw [show l.length = m from hm.out]
      rw [show Lp.length = gd from hgd.out] at hln
      clear hperm hrise hol hnw B8 P8 t8 hl HG
      go_wp2_with fail
      refine hK.out _ _ T8 (fun hHeld => ?_)
      clear hK
      refine wpAnyH_ready (rs := [7]) (by kernel_rfl) (by simp) ?_
      refine AllReadyH.cons rfl (fun K hK => ?_) AllReadyH.nil
      go_simp
      refine hK.out _ _ T8 (fun hHeld => ?_)
      clear hK
      refine wpAnyH_done (by kernel_rfl) ?_ _
      go_simp
      try rw [show Lp.length = gd from hgd.out]
      go_upto_region 21 with (go_at_call 11; refine hln.mono ?_; clear hln; rintro e w9 ⟨rfl, h9⟩; have h9 := h9.symm; subst h9)
      go_wp2_with fail
      go_loopw [16] (fun c16 wr => ∃ i : Nat, i ≤ m ∧ c16 = .int .i64 i ∧ Shut (LJ n0 w1 g p br bt q vm vo ve E R S1 S2 pp pb Lp (.slice la l.length lc) l wr)) (fun c16 _ => m - (intOf c16).toNat)
      case atStart => exact ⟨0, by omega, rfl, HJ⟩
      case round =>
        obtain ⟨i, hi, rfl, hI⟩ := hrel
        by_cases hlt : i < m
        · obtain ⟨e, he⟩ : ∃ e, l[i]? = some e := ⟨l[i]'(by rw [show l.length = m from hm.out]; exact hlt), List.getElem?_eq_getElem _⟩
          obtain ⟨V, vr, W0, hPl, hol, T⟩ := hI.out
          obtain ⟨hS, hP, hO, hl0, hl1, hQc⟩ := HIN.out
          obtain ⟨-, -, hver, hLk, -, hp2⟩ := HA.out
          have heL : e ∈ Lp := HL.out.1 e (List.mem_of_getElem? he)
          obtain ⟨Dp, hDp, hmp⟩ := id hPl.map
          have hef := hmp.fit e heL
          have hTw := (HLOW.out wr T).2
          have TD : Turn no wr wr.drew := (Turn.refl no wr).drew
          have hTd := hTw.then_no TD
          have hsz := hTd.size
          have hnp := W0.lo.2.1
          obtain ⟨mes, mc, hmap⟩ := hPl.isMap
          have hv0 := hver e heL
          -- Verify
          obtain ⟨q1, q2⟩ := HPO.out p hnp wr.drew wr.drew (T.then_no TD) (Turn.refl _ _)
          have hvf := verify7 (W0.bk.turn_no TD) SL.toArray c age hh pv ov hS hh64 P q1 O q2 e.1 e.2 hef.1 hef.2 (hl1.turn hTd (fun q => q)) (by omega) hp2
          rw [hv0, show evC e.1 e.2 = (evL e).toArray from rfl] at hvf
          have hgl : ∃ gl, la = some ⟨gl, 0, none⟩ ∧ gl ≠ p ∧ gl ≠ pb := by
            rcases hol.2 with ⟨_, h0⟩ | ⟨gl, cap, cur, q, _, ho, _⟩
            · exact absurd h0 (by rw [show l.length = m from hm.out]; omega)
            · refine ⟨gl, (Value.slice.inj q).1, fun e' => ?_, fun e' => ?_⟩
              · subst e'
                obtain ⟨D1, D2, hr, _⟩ := W0.bk.reg
                exact absurd (tag_ne ho hr.row) (by decide)
              · rw [e', hmap] at ho
                cases ho
          obtain ⟨gl, rfl, hglp, hglb⟩ := hgl
          have hlok : ∀ x ∈ l, x.1.ok ∧ x.2.ok := fun x hx => ⟨(hmp.fit x (HL.out.1 x hx)).1.1, (hmp.fit x (HL.out.1 x hx)).2.1⟩
          have hgp : g ≠ p := fun e => W0.bk.kd1 (by decide) g (.inl e) _ _ W0.row
          have hgb : g ≠ pb := fun e => by
            have hr : wr.heap[g]? = _ := W0.row
            rw [e, hmap] at hr
            cases hr
          have HG : Shut (∀ W, Turn (fun k => k = p ∨ k = pb) wr W → W.rangeAt w.heap.size 0 SL ∧ W.cell? ⟨g, 0, none⟩ = some (.pointer (some ⟨p, 0, none⟩)) ∧ (∀ (j : Nat) x, l[j]? = some x → W.rangeAt gl (j * 106) (evL x))) := fun W t => by
            have hgl2 : ∀ g', (Value.slice (some ⟨gl, 0, none⟩) l.length lc).ownBlock = some g' → ¬ (g' = p ∨ g' = pb) := fun g' hg' hk => by
              have e' : gl = g' := by simpa [Value.ownBlock] using hg'
              subst e'
              rcases hk with hk | hk
              · exact hglp hk
              · exact hglb hk
            refine ⟨row_range ((HLOW.out wr T).1.turn t (fun e => ?_)), (W0.row.turn t (fun e => by rcases e with e | e; exact hgp e; exact hgb e)).cell 0 _ rfl, fun j x hx => evs_range (hol.turn t hgl2) hlok hx⟩
            rcases e with e | e
            · omega
            · have := HNE.out.2.2.2.2
              omega
          have iEL : (Tryz.prog.info? 52).map (·.size) = some (evL e).length := by rw [evL_len ⟨hef.1.1, hef.2.1⟩]; exact size32
          have HADD : Shut (∀ W2, Bk W2 p br bt V E R → Turn (fun k => k = p) wr W2 → Calls Tryz.prog 9 #[.pointer (some ⟨pp, 0, none⟩), .agg SL.toArray, .pointer (some ⟨p, 0, none⟩), .agg (evL e).toArray] W2 fun x W3 => x = .returned (.int .i64 90) ∧ LJ n0 w1 g p br bt q vm vo ve E R S1 S2 pp pb Lp (.slice (some ⟨gl, 0, none⟩) l.length lc) l W3 ∧ Turn (fun k => k = p ∨ k = pb) wr W3) := fun W2 B2 t2 => by
            obtain ⟨r1, r2⟩ := HPO.out p hnp wr W2 T t2
            have hP2 := hPl.turn t2 (fun e => by
              have e' : pp = p := e
              subst e'
              obtain ⟨D1, D2, hr, _⟩ := W0.bk.reg
              exact absurd (tag_ne hPl.row hr.row) (by decide)) HNE.out.2.2.1
            have hl12 : Laid1 W2 := (hl1.turn hTw (fun q => q)).turn t2 (fun e => hp2 e.symm)
            have hz2 := t2.size
            have hzw := hTw.size
            have := add9 hP2 B2 SL.toArray c age hh pv ov hS hh64 P r1 O r2 e hef.1 hef.2 hl12 (by omega) hp2 (by omega) HNE.out.1 HNE.out.2.1
            rw [hv0] at this
            have ha : addE 0 Lp e = 90 := by rw [addE, if_pos rfl, if_pos (List.mem_map_of_mem heL)]
            have hal : addL 0 Lp e = Lp := by rw [addL, if_neg (by rw [ha]; decide)]
            rw [ha, hal] at this
            refine this.mono ?_
            rintro x W3 ⟨hx, B3, P3, t3⟩
            have t23 : Turn (fun k => k = p ∨ k = pb) wr W3 := (t2.mono (fun _ _ e => .inl e)).trans t3 (fun _ _ e => e)
            refine ⟨hx, ⟨V, vr, (W0.keepP B2 t2).keepB B3 t3 (t2.obj hmap HNE.out.2.2.1), P3, hol.turn t23 (fun g' hg' hk => ?_), T.trans t23 (fun i hi e => ?_)⟩, t23⟩
            · have e' : gl = g' := by simpa [Value.ownBlock] using hg'
              subst e'
              rcases hk with hk | hk
              · exact hglp hk
              · exact hglb hk
            · show n0 ≤ i
              rcases e with e | e
              · omega
              · have := HNE.out.2.2.2.2
                omega
          have HRI : Shut (∀ j a, i = j + 1 → l[j]? = some a → (keyE a).1 < (keyE e).1 ∨ ((keyE a).1 = (keyE e).1 ∧ (keyE a).2 < (keyE e).2)) := fun j a hj ha => rise_at HL.out.2.1 ha (by rw [← hj]; exact he)
          have HFIT : Shut (∀ x ∈ l, x.1.fits ∧ x.2.fits) := fun x hx => hmp.fit x (HL.out.1 x hx)
          have HE := shut (And.intro he hef)
          have hlt' : (i : Int) < (m : Int) := by omega
          clear W0 hPl hol T hS hP hO hl0 hl1 hQc hver hLk hp2 heL hDp hmp hef hTw TD hTd hsz hnp hmap hv0 q1 q2 hglp hglb hgp hgb hI hlok he
          go_upto_region 24 with fail
          refine wp_region_held_drew (S := fun W => Turn (fun k => k = p ∨ k = pb) wr W) (by kernel_rfl) (Turn.refl _ wr).drew (fun hHeld => ?_)
          refine' wpAnyH_take (i := 0) (v := .agg SL.toArray) rfl (by kernel_rfl) (by kernel_rfl) (by kernel_rfl) (fun _ _ _ h => h) (yieldsIf_load_mid (by kernel_rfl) 37 (.tmp 3) rfl w.heap.size 0 (by kernel_rfl) SL _ (fun W h => (HG.out W h).1) Tryz.underlying37 rfl iSL) hHeld ?r201
          refine' wpAnyH_take (i := 1) (v := .pointer (some ⟨g, 0, none⟩)) rfl (by kernel_rfl) (by kernel_rfl) (by kernel_rfl) (fun _ _ _ h => h) (Or.inl ⟨by kernel_rfl, fun W hW => ?y202⟩) hHeld ?r202
          · skip
            go_simp
          refine' wpAnyH_take (i := 2) (v := .pointer (some ⟨g, 0, none⟩)) rfl (by kernel_rfl) (by kernel_rfl) (by kernel_rfl) (fun _ _ _ h => h) (Or.inl ⟨by kernel_rfl, fun W hW => ?y203⟩) hHeld ?r203
          · skip
            go_simp
          refine' wpAnyH_take (i := 3) (v := .pointer (some ⟨g, 0, none⟩)) rfl (by kernel_rfl) (by kernel_rfl) (by kernel_rfl) (fun _ _ _ h => h) (Or.inl ⟨by kernel_rfl, fun W hW => ?y204⟩) hHeld ?r204
          · skip
            go_simp
          refine' wpAnyH_take (i := 4) (v := .pointer (some ⟨p, 0, none⟩)) rfl (by kernel_rfl) (by kernel_rfl) (by kernel_rfl) (fun _ _ _ h => h) (Or.inl ⟨by kernel_rfl, fun W hW => ?y205⟩) hHeld ?r205
          · obtain ⟨_, q1, _⟩ := HG.out W hW
            go_simp
          refine' wpAnyH_take (i := 5) (v := .slice (some ⟨gl, 0, none⟩) m lc) rfl (by kernel_rfl) (by kernel_rfl) (by kernel_rfl) (fun _ _ _ h => h) (Or.inl ⟨by kernel_rfl, fun W hW => ?y206⟩) hHeld ?r206
          · skip
            go_simp
          refine' wpAnyH_take (i := 6) (v := .int .i64 i) rfl (by kernel_rfl) (by kernel_rfl) (by kernel_rfl) (fun _ _ _ h => h) (Or.inl ⟨by kernel_rfl, fun W hW => ?y207⟩) hHeld ?r207
          · skip
            go_simp
          refine' wpAnyH_take (i := 7) (v := .pointer (some ⟨gl, i * 106, none⟩)) rfl (by kernel_rfl) (by kernel_rfl) (by kernel_rfl) (fun _ _ _ h => h) (Or.inl ⟨by kernel_rfl, fun W hW => ?y208⟩) hHeld ?r208
          · skip
            go_simp
          refine' wpAnyH_take (i := 8) (v := .agg (evL e).toArray) rfl (by kernel_rfl) (by kernel_rfl) (by kernel_rfl) (fun _ _ _ h => h) (yieldsIf_load_mid (by kernel_rfl) 52 (.tmp 101) rfl gl (i * 106) (by kernel_rfl) (evL e) _ (fun W h => (HG.out W h).2.2 i e HE.out.1) Tryz.underlying52 rfl iEL) hHeld ?r209
          simp only [List.getElem_toArray, List.getElem_cons_succ, List.getElem_cons_zero, Act.put, List.setIfInBounds_toArray, List.set_cons_zero, List.set_cons_succ]
          refine wpAnyH_ready (rs := [9]) (by kernel_rfl) (by simp) ?_
          refine AllReadyH.cons rfl (fun K hK => ?_) AllReadyH.nil
          go_simp
          refine hvf.mono ?_
          clear hvf
          rintro x wv ⟨rfl, Bv, tv⟩
          have Tv : Turn (fun k => k = p) wr wv := ((Turn.refl no wr).drew.of_no.trans tv (fun _ _ e => e))
          have Tvb : Turn (fun k => k = p ∨ k = pb) wr wv := Tv.mono (fun _ _ e => .inl e)
          have HB := shut (And.intro Bv Tv)
          clear Bv tv Tv
          go_wp2_with fail
          refine hK.out _ _ Tvb (fun hHeld => ?_)
          clear hK
          refine wpAnyH_ready (rs := [10]) (by kernel_rfl) (by simp) ?_
          refine AllReadyH.cons rfl (fun K hK => ?_) AllReadyH.nil
          go_simp
          refine hK.out _ _ Tvb (fun hHeld => ?_)
          clear hK
          refine wpAnyH_done (by kernel_rfl) ?_ _
          go_simp
          go_upto_region 25 with fail
          refine wp_region_held_drew (S := fun W => Turn (fun k => k = p ∨ k = pb) wr W) (by kernel_rfl) Tvb.drew (fun hHeld => ?_)
          refine' wpAnyH_take (i := 0) (v := .pointer (some ⟨pp, 0, none⟩)) rfl (by kernel_rfl) (by kernel_rfl) (by kernel_rfl) (fun _ _ _ h => h) (Or.inl ⟨by kernel_rfl, fun W hW => ?y210⟩) hHeld ?r210
          · skip
            go_simp
          refine' wpAnyH_take (i := 1) (v := .agg SL.toArray) rfl (by kernel_rfl) (by kernel_rfl) (by kernel_rfl) (fun _ _ _ h => h) (yieldsIf_load_mid (by kernel_rfl) 37 (.tmp 3) rfl w.heap.size 0 (by kernel_rfl) SL _ (fun W h => (HG.out W h).1) Tryz.underlying37 rfl iSL) hHeld ?r211
          refine' wpAnyH_take (i := 2) (v := .pointer (some ⟨g, 0, none⟩)) rfl (by kernel_rfl) (by kernel_rfl) (by kernel_rfl) (fun _ _ _ h => h) (Or.inl ⟨by kernel_rfl, fun W hW => ?y212⟩) hHeld ?r212
          · skip
            go_simp
          refine' wpAnyH_take (i := 3) (v := .pointer (some ⟨g, 0, none⟩)) rfl (by kernel_rfl) (by kernel_rfl) (by kernel_rfl) (fun _ _ _ h => h) (Or.inl ⟨by kernel_rfl, fun W hW => ?y213⟩) hHeld ?r213
          · skip
            go_simp
          refine' wpAnyH_take (i := 4) (v := .pointer (some ⟨g, 0, none⟩)) rfl (by kernel_rfl) (by kernel_rfl) (by kernel_rfl) (fun _ _ _ h => h) (Or.inl ⟨by kernel_rfl, fun W hW => ?y214⟩) hHeld ?r214
          · skip
            go_simp
          refine' wpAnyH_take (i := 5) (v := .pointer (some ⟨p, 0, none⟩)) rfl (by kernel_rfl) (by kernel_rfl) (by kernel_rfl) (fun _ _ _ h => h) (Or.inl ⟨by kernel_rfl, fun W hW => ?y215⟩) hHeld ?r215
          · obtain ⟨_, q1, _⟩ := HG.out W hW
            go_simp
          refine' wpAnyH_take (i := 6) (v := .slice (some ⟨gl, 0, none⟩) m lc) rfl (by kernel_rfl) (by kernel_rfl) (by kernel_rfl) (fun _ _ _ h => h) (Or.inl ⟨by kernel_rfl, fun W hW => ?y216⟩) hHeld ?r216
          · skip
            go_simp
          refine' wpAnyH_take (i := 7) (v := .int .i64 i) rfl (by kernel_rfl) (by kernel_rfl) (by kernel_rfl) (fun _ _ _ h => h) (Or.inl ⟨by kernel_rfl, fun W hW => ?y217⟩) hHeld ?r217
          · skip
            go_simp
          refine' wpAnyH_take (i := 8) (v := .pointer (some ⟨gl, i * 106, none⟩)) rfl (by kernel_rfl) (by kernel_rfl) (by kernel_rfl) (fun _ _ _ h => h) (Or.inl ⟨by kernel_rfl, fun W hW => ?y218⟩) hHeld ?r218
          · skip
            go_simp
          refine' wpAnyH_take (i := 9) (v := .agg (evL e).toArray) rfl (by kernel_rfl) (by kernel_rfl) (by kernel_rfl) (fun _ _ _ h => h) (yieldsIf_load_mid (by kernel_rfl) 52 (.tmp 112) rfl gl (i * 106) (by kernel_rfl) (evL e) _ (fun W h => (HG.out W h).2.2 i e HE.out.1) Tryz.underlying52 rfl iEL) hHeld ?r219
          simp only [List.getElem_toArray, List.getElem_cons_succ, List.getElem_cons_zero, Act.put, List.setIfInBounds_toArray, List.set_cons_zero, List.set_cons_succ]
          refine wpAnyH_ready (rs := [10]) (by kernel_rfl) (by simp) ?_
          refine AllReadyH.cons rfl (fun K hK => ?_) AllReadyH.nil
          go_simp
          refine (HADD.out wv.drew (HB.out.1.turn_no (Turn.refl no wv).drew) (HB.out.2.then_no (Turn.refl no wv).drew)).mono ?_
          clear HADD HB
          rintro x wz ⟨rfl, hJz, Tz⟩
          have HJz := shut hJz
          clear hJz
          go_wp2_with fail
          refine hK.out _ _ Tz (fun hHeld => ?_)
          clear hK
          refine wpAnyH_ready (rs := [11]) (by kernel_rfl) (by simp) ?_
          refine AllReadyH.cons rfl (fun K hK => ?_) AllReadyH.nil
          go_simp
          refine hK.out _ _ Tz (fun hHeld => ?_)
          clear hK
          refine wpAnyH_done (by kernel_rfl) ?_ _
          go_simp
          by_cases hi0 : i = 0
          · have hi0' : ¬ (0 : Int) < (i : Int) := by omega
            clear hi0 HG
            go_wp2_with fail
            go_roundw
            case rel => exact ⟨i + 1, by omega, by go_num, HJz⟩
            case measure => simp [intOf]; omega
          · obtain ⟨j, hij⟩ : ∃ j, i = j + 1 := ⟨i - 1, by omega⟩
            obtain ⟨a, ha⟩ : ∃ a, l[j]? = some a := ⟨l[j]'(by rw [show l.length = m from hm.out]; omega), List.getElem?_eq_getElem _⟩
            have hi0' : (0 : Int) < (i : Int) := by omega
            have hsub : IntKind.i64.wrap ((i : Int) - 1) = (j : Int) := by
              rw [IntKind.wrap_i64]
              omega
            have hjm : (j : Int) < (m : Int) := by omega
            have hrise := HRI.out j a hij ha
            have haf := (HFIT.out a (List.mem_of_getElem? ha)).1
            have hef := HE.out.2.1
            have rra := evL_front ((HG.out wz Tz).2.2 j a ha)
            have HRE : Shut (∀ W, Turn no wz W → W.rangeAt gl (i * 106) e.1.cs) := fun W t => evL_front ((HG.out W (Tz.then_no t)).2.2 i e HE.out.1)
            have hnum : (a.1.h < e.1.h) ∨ (a.1.h = e.1.h ∧ a.1.f < e.1.f) := by
              have b1 := haf.2.1
              have b2 := haf.2.2.2
              have b3 := hef.2.1
              have b4 := hef.2.2.2
              simp only [keyE] at hrise
              omega
            have i50 : ∀ x : Vt, x.ok → (Tryz.prog.info? 50).map (·.size) = some x.cs.length := fun x hx => by rw [x.len hx]; exact qsize29
            have ia := i50 a.1 haf.1
            have ie := i50 e.1 hef.1
            have ia' : (Tryz.prog.info? 50).map (·.size) = some a.1.cs.toArray.size := by simpa using ia
            have ie' : (Tryz.prog.info? 50).map (·.size) = some e.1.cs.toArray.size := by simpa using ie
            have oa := all_oneCell_toArray (Vt.one a.1)
            have oe := all_oneCell_toArray (Vt.one e.1)
            have z29 := zero29
            obtain ⟨ZV, hZV⟩ : ∃ ZV, Hid (zvt.cs.toArray = ZV) := ⟨_, rfl⟩
            rw [show zvt.cs.toArray = ZV from hZV.out] at z29
            have sa : ZV.size = a.1.cs.toArray.size := by rw [← hZV.out]; simp [a.1.len haf.1, zvt.len zvt_ok]
            have se : ZV.size = e.1.cs.toArray.size := by rw [← hZV.out]; simp [e.1.len hef.1, zvt.len zvt_ok]
            have HCA : Shut (∀ W u, Row W u a.1.cs.toArray 50 → W.cell? ⟨u, 1, none⟩ = some (.int .u64 a.1.h) ∧ W.cell? ⟨u, 36, none⟩ = some (.int .u64 a.1.f)) := fun W u r => ⟨r.cell 1 _ (Vt.c1 _), r.cell 36 _ (Vt.c36 haf.1)⟩
            have HCE : Shut (∀ W u, Row W u e.1.cs.toArray 50 → W.cell? ⟨u, 1, none⟩ = some (.int .u64 e.1.h) ∧ W.cell? ⟨u, 36, none⟩ = some (.int .u64 e.1.f)) := fun W u r => ⟨r.cell 1 _ (Vt.c1 _), r.cell 36 _ (Vt.c36 hef.1)⟩
            have HNUM := shut hnum
            clear hi0 hrise haf hef hnum i50 HG HE hij ha
            generalize a.1.h = ah at *
            generalize a.1.f = af at *
            generalize e.1.h = eh at *
            generalize e.1.f = ef at *
            generalize a.1.cs = CA at *
            generalize e.1.cs = CE at *
            go_upto_region 30 with (first | (guard_target =~ wpList _ _ _ ({ dst := some 128, .. } :: _) _ _; refine wpList_load_midG (by kernel_rfl) 50 (.tmp 127) rfl gl (j * 106) rfl CA _ rra Tryz.underlying50 rfl ia ?_) | (guard_target =~ wpList _ _ _ ({ dst := _, op := Op.store 50 _ _, .. } :: _) _ _; refine wpList_store_anyX rfl rfl 50 (.tmp 19) (.tmp 128) rfl wz.heap.size CA.toArray rfl rfl 50 ZV (Row.new wz ZV 50) ia' sa oa ?_; intro wy Ry ty))
            have Ty : Turn no wz wy := alloc_set ty
            have rre := HRE.out wy Ty
            clear rra ty
            go_upto_region 31 with (first | (guard_target =~ wpList _ _ _ ({ dst := some 133, .. } :: _) _ _; refine wpList_load_midG (by kernel_rfl) 50 (.tmp 132) rfl gl (i * 106) rfl CE _ rre Tryz.underlying50 rfl ie ?_) | (guard_target =~ wpList _ _ _ ({ dst := _, op := Op.store 50 _ _, .. } :: _) _ _; refine wpList_store_anyX rfl rfl 50 (.tmp 20) (.tmp 133) rfl wy.heap.size CE.toArray rfl rfl 50 ZV (Row.new wy ZV 50) ie' se oe ?_; intro wx Rx tx))
            have Tx : Turn no wy wx := alloc_set tx
            have HJx : Shut (LJ n0 w1 g p br bt q vm vo ve E R S1 S2 pp pb Lp (.slice (some ⟨gl, 0, none⟩) l.length lc) l wx) := HJz.out.turn_no (Ty.then_no Tx)
            obtain ⟨c1, c2⟩ := HCA.out wx _ (Row.turn Ry Tx (fun q => q))
            obtain ⟨c3, c4⟩ := HCE.out wx _ Rx
            clear tx Tx Ty Ry Rx rre HCA HCE HRE
            rcases HNUM.out with hnum | ⟨hnum, hnum2⟩
            · have k1 : ¬ eh < ah := by omega
              have k2 : (ah == eh) = false := by
                rw [beq_eq_false_iff_ne]
                omega
              clear hnum
              go_wp2_with fail
              go_roundw
              case rel => exact ⟨i + 1, by omega, by go_num, HJx⟩
              case measure => simp [intOf]; omega
            · have k1 : ¬ eh < ah := by omega
              have k2 : (ah == eh) = true := by
                rw [beq_iff_eq]
                exact hnum
              have k3 : ¬ ef ≤ af := by omega
              clear hnum hnum2
              go_wp2_with fail
              go_roundw
              case rel => exact ⟨i + 1, by omega, by go_num, HJx⟩
              case measure => simp [intOf]; omega
        · have him : i = m := by omega
          subst him
          have hlt' : ¬ (i : Int) < (i : Int) := by omega
          obtain ⟨hS, hP, hO, hl0, hl1, hQc⟩ := HIN.out
          obtain ⟨-, -, hver, hLk, -, hp2⟩ := HA.out
          obtain ⟨L2, hL2⟩ : ∃ L2, strike Lp (l.map keyE) = L2 := ⟨_, rfl⟩
          have HL2 : Shut ((∀ e ∈ L2, e ∈ Lp ∧ keyE e ∉ l.map keyE) ∧ L2.length + l.length = Lp.length ∧ Lp.length ≤ k) := by
            obtain ⟨V, vr, W0, hPl, hol, T⟩ := hI.out
            obtain ⟨Dp, hDp, hmp⟩ := id hPl.map
            exact ⟨fun e he => by
              rw [← hL2, strike, List.mem_filter] at he
              exact ⟨he.1, by simpa using he.2⟩, by rw [← hL2]; exact strike_len l Lp hmp.nd (rise_keys HL.out.2.1) HL.out.1, hLk⟩
          have HFIT : Shut (∀ x ∈ Lp, x.1.fits ∧ x.2.fits) := by
            obtain ⟨V, vr, W0, hPl, hol, T⟩ := hI.out
            obtain ⟨Dp, hDp, hmp⟩ := id hPl.map
            exact hmp.fit
          have hset : Calls Tryz.prog 13 #[.pointer (some ⟨pp, 0, none⟩), .agg SL.toArray, .slice la l.length lc] wr fun x W => x = .returned (.tuple #[]) ∧ Shut (LJ n0 w1 g p br bt q vm vo ve E R S1 S2 pp pb L2 (.slice la l.length lc) l W ∧ Turn (fun k => k = pb) wr W) := by
            obtain ⟨V, vr, W0, hPl, hol, T⟩ := hI.out
            obtain ⟨mes, mc, hmap⟩ := hPl.isMap
            have := settle13 hPl SL.toArray c age hh pv ov hS hh64 P O (fun W t => HPO.out pb HNE.out.2.2.2.2 wr W T t) hOX.out (.slice la l.length lc) l hol (fun e he => HFIT.out e (HL.out.1 e he))
            rw [settle_all (fun e he => ver_zero (hver e he)), hL2] at this
            refine this.mono ?_
            rintro x W3 ⟨hx, P3, t3⟩
            have B3 := Bk.offmap W0.bk t3 hmap HNE.out.1 HNE.out.2.1
            have t3' : Turn (fun k => k = p ∨ k = pb) wr W3 := t3.mono (fun _ _ e => .inr e)
            exact ⟨hx, ⟨V, vr, W0.keepB B3 t3' hmap, P3, hol.turn t3 (fun g' hg' hk => own_not_map hmap hol g' hg' hk), T.trans t3 (fun i hi e => by
              have e' : i = pb := e
              have := HNE.out.2.2.2.2
              show n0 ≤ i
              omega)⟩, t3⟩
          have rSL : wr.rangeAt w.heap.size 0 SL := by
            obtain ⟨V, vr, W0, hPl, hol, T⟩ := hI.out
            exact row_range (HLOW.out wr T).1
          rw [show l.length = i from hm.out] at hset
          clear hS hP hO hl0 hl1 hQc hver hLk hI hi hlt hL2
          go_upto_region 34 with (first | (guard_target =~ wpList _ _ _ ({ dst := some 154, .. } :: _) _ _; refine wpList_load_midG (by kernel_rfl) 37 (.tmp 3) rfl w.heap.size 0 rfl SL _ rSL Tryz.underlying37 rfl iSL ?_) | (go_at_call 13; refine hset.mono ?_; clear hset rSL; rintro x ws ⟨rfl, HS⟩))
          obtain ⟨V2, vr2, W2, hP2, hol2, T2⟩ := HS.out.1
          obtain ⟨hS, hP, hO, hl0, hl1, hQc⟩ := HIN.out
          have hp2 := HA.out.2.2.2.2.2
          have hTw := (HLOW.out ws T2).2
          have TD : Turn no ws ws.drew := (Turn.refl no ws).drew
          have hTd := hTw.then_no TD
          have hsz := hTd.size
          have hnp := W2.lo.2.1
          obtain ⟨ok2, hok2⟩ : ∃ ok : Vt × Vt → Bool, ∀ e, ok e = decide (verE c P O age hh R e.1 e.2 = 0) := ⟨fun e => decide (verE c P O age hh R e.1 e.2 = 0), fun _ => rfl⟩
          have hp10 := pick10 (hP2.turn_no TD) (W2.bk.turn_no TD) SL.toArray c age hh pv ov hS hh64 P O (HPO.out p hnp _ · (T2.then_no TD) ·) (hl1.turn hTd (fun q => q)) (by omega) hp2 (by have := HL2.out; omega) ok2 hok2
          have hgp : g ≠ p := fun e => W2.bk.kd1 (by decide) g (.inl e) _ _ W2.row
          have HG : Shut (∀ W, Turn (fun k => k = p) ws W → W.rangeAt w.heap.size 0 SL ∧ W.cell? ⟨g, 0, none⟩ = some (.pointer (some ⟨p, 0, none⟩))) := fun W t =>
            ⟨row_range ((HLOW.out ws T2).1.turn t (fun e => by
              have e' : w.heap.size = p := e
              omega)), (W2.row.turn t hgp).cell 0 _ rfl⟩
          clear hS hP hO hl0 hl1 hQc hTw TD hTd hsz hgp hnp W2 hP2 hol2 T2
          refine wp_region_held_drew (S := fun W => Turn (fun k => k = p) ws W) (by kernel_rfl) (Turn.refl _ ws).drew (fun hHeld => ?_)
          refine' wpAnyH_take (i := 0) (v := .pointer (some ⟨pp, 0, none⟩)) rfl (by kernel_rfl) (by kernel_rfl) (by kernel_rfl) (fun _ _ _ h => h) (Or.inl ⟨by kernel_rfl, fun W hW => ?y601⟩) hHeld ?r601
          · skip
            go_simp
          refine' wpAnyH_take (i := 1) (v := .agg SL.toArray) rfl (by kernel_rfl) (by kernel_rfl) (by kernel_rfl) (fun _ _ _ h => h) (yieldsIf_load_mid (by kernel_rfl) 37 (.tmp 3) rfl w.heap.size 0 (by kernel_rfl) SL _ (fun W h => (HG.out W h).1) Tryz.underlying37 rfl iSL) hHeld ?r602
          refine' wpAnyH_take (i := 2) (v := .pointer (some ⟨g, 0, none⟩)) rfl (by kernel_rfl) (by kernel_rfl) (by kernel_rfl) (fun _ _ _ h => h) (Or.inl ⟨by kernel_rfl, fun W hW => ?y603⟩) hHeld ?r603
          · skip
            go_simp
          refine' wpAnyH_take (i := 3) (v := .pointer (some ⟨g, 0, none⟩)) rfl (by kernel_rfl) (by kernel_rfl) (by kernel_rfl) (fun _ _ _ h => h) (Or.inl ⟨by kernel_rfl, fun W hW => ?y604⟩) hHeld ?r604
          · skip
            go_simp
          refine' wpAnyH_take (i := 4) (v := .pointer (some ⟨g, 0, none⟩)) rfl (by kernel_rfl) (by kernel_rfl) (by kernel_rfl) (fun _ _ _ h => h) (Or.inl ⟨by kernel_rfl, fun W hW => ?y605⟩) hHeld ?r605
          · skip
            go_simp
          refine' wpAnyH_take (i := 5) (v := .pointer (some ⟨p, 0, none⟩)) rfl (by kernel_rfl) (by kernel_rfl) (by kernel_rfl) (fun _ _ _ h => h) (Or.inl ⟨by kernel_rfl, fun W hW => ?y606⟩) hHeld ?r606
          · obtain ⟨_, q1⟩ := HG.out W hW
            go_simp
          simp only [List.getElem_toArray, List.getElem_cons_succ, List.getElem_cons_zero, Act.put, List.setIfInBounds_toArray, List.set_cons_zero, List.set_cons_succ]
          refine wpAnyH_ready (rs := [6]) (by kernel_rfl) (by simp) ?_
          refine AllReadyH.cons rfl (fun K hK => ?_) AllReadyH.nil
          go_simp
          refine hp10.mono ?_
          clear hp10
          rintro e wt ⟨lv, Sx, rfl, hperm, hrise, hol, hnw, B8, P8, t8⟩
          have T8 : Turn (fun k => k = p) ws wt := ((Turn.refl no ws).drew.of_no.trans t8 (fun _ _ e => e))
          obtain ⟨l2, hl2⟩ : ∃ l, pickL ok2 Sx = l := ⟨_, rfl⟩
          rw [hl2] at hol
          obtain ⟨la2, lc2, rfl, -⟩ := hol.form
          obtain ⟨m2, hm2⟩ : ∃ m, Hid (l2.length = m) := ⟨_, rfl⟩
          obtain ⟨k1, hk1⟩ : ∃ m, Hid (L2.length = m) := ⟨_, rfl⟩
          have HU : Shut (Turn (Ab n0) w1 wt ∧ OwnN wt 52 106 (.slice la i lc) l.length (evsC l) ∧ OwnN wt 52 106 (.slice la2 l2.length lc2) l2.length (evsC l2) ∧ Pl wt pp pb L2) := by
            obtain ⟨V2, vr2, W2, hP2, hol2, T2⟩ := HS.out.1
            refine ⟨T2.trans T8 (fun i hi e => by
              have e' : i = p := e
              have := W2.lo.2.1
              show n0 ≤ i
              omega), hol2.turn T8 (fun g' hg' hk => ?_), hol, P8⟩
            have e' : g' = p := hk
            subst e'
            obtain ⟨D1, D2, hr, _⟩ := W2.bk.reg
            obtain ⟨cur, hc⟩ := hol2.obj hg'
            exact absurd (tag_ne hc hr.row) (by decide)
          have HL2' : Shut (∀ e ∈ l2, (e.1.fits ∧ e.2.fits) ∧ keyE e ∉ l.map keyE) := fun e he => by
            rw [← hl2] at he
            have h1 := pick_sub hperm e he
            exact ⟨HFIT.out e (HL2.out.1 e h1).1, (HL2.out.1 e h1).2⟩
          have hm2b : m2 ≤ 16 := by
            rw [← show l2.length = m2 from hm2.out, ← hl2, pickL, List.length_take]
            omega
          rw [show l2.length = m2 from hm2.out]
          clear hperm hrise hol hnw B8 P8 t8 hl2 HG
          go_wp2_with fail
          refine hK.out _ _ T8 (fun hHeld => ?_)
          clear hK
          refine wpAnyH_ready (rs := [7]) (by kernel_rfl) (by simp) ?_
          refine AllReadyH.cons rfl (fun K hK => ?_) AllReadyH.nil
          go_simp
          refine hK.out _ _ T8 (fun hHeld => ?_)
          clear hK
          refine wpAnyH_done (by kernel_rfl) ?_ _
          go_simp
          clear T8
          go_wp2_with fail
          go_loopw [22] (fun c22 wr => ∃ x : Nat, x ≤ m2 ∧ c22 = .int .i64 x ∧ Shut (Turn no wt wr)) (fun c22 _ => m2 - (intOf c22).toNat)
          case atStart => exact ⟨0, by omega, rfl, Turn.refl no wt⟩
          case round =>
            obtain ⟨x, hx, rfl, hI⟩ := hrel
            by_cases hlt : x < m2
            · have hlt' : (x : Int) < (m2 : Int) := by omega
              obtain ⟨e, he⟩ : ∃ e, l2[x]? = some e := ⟨l2[x]'(by rw [show l2.length = m2 from hm2.out]; exact hlt), List.getElem?_eq_getElem _⟩
              have HE := shut he
              clear he
              go_wp2_with fail
              go_loopw [23] (fun c23 wu => ∃ y : Nat, y ≤ i ∧ c23 = .int .i64 y ∧ Shut (Turn no wt wu)) (fun c23 _ => i - (intOf c23).toNat)
              case atStart => exact ⟨0, by omega, rfl, hI⟩
              case round =>
                obtain ⟨y, hy, rfl, hIy⟩ := hrel
                by_cases hlty : y < i
                · have hlty' : (y : Int) < (i : Int) := by omega
                  obtain ⟨d, hd⟩ : ∃ d, l[y]? = some d := ⟨l[y]'(by rw [show l.length = i from hm.out]; exact hlty), List.getElem?_eq_getElem _⟩
                  obtain ⟨TU, o1, o2, PU⟩ := HU.out
                  have hgl : ∃ gl, la = some ⟨gl, 0, none⟩ := by
                    rcases o1.2 with ⟨_, h0⟩ | ⟨gl, cap, cur, q, _, ho, _⟩
                    · exact absurd h0 (by rw [show l.length = i from hm.out]; omega)
                    · exact ⟨gl, (Value.slice.inj q).1⟩
                  have hg2 : ∃ gl, la2 = some ⟨gl, 0, none⟩ := by
                    rcases o2.2 with ⟨_, h0⟩ | ⟨gl, cap, cur, q, _, ho, _⟩
                    · exact absurd h0 (by rw [show l2.length = m2 from hm2.out]; omega)
                    · exact ⟨gl, (Value.slice.inj q).1⟩
                  obtain ⟨gl, rfl⟩ := hgl
                  obtain ⟨g2, rfl⟩ := hg2
                  have hed := HL2'.out e (List.mem_of_getElem? HE.out)
                  have hdl := List.mem_of_getElem? hd
                  have hdf := HFIT.out d (HL.out.1 d hdl)
                  have hne : keyE e ≠ keyE d := fun q => hed.2 (by rw [q]; exact List.mem_map_of_mem hdl)
                  have re := evL_front (evs_range (o2.turn_no hIy.out) (fun z hz => ⟨(HL2'.out z hz).1.1.1, (HL2'.out z hz).1.2.1⟩) HE.out)
                  have rd := evL_front (evs_range (o1.turn_no hIy.out) (fun z hz => ⟨(HFIT.out z (HL.out.1 z hz)).1.1, (HFIT.out z (HL.out.1 z hz)).2.1⟩) hd)
                  have c1 := re 1 _ (by simpa using Vt.c1 e.1)
                  have c2 := re 36 _ (by simpa using Vt.c36 hed.1.1.1)
                  have c3 := rd 1 _ (by simpa using Vt.c1 d.1)
                  have c4 := rd 36 _ (by simpa using Vt.c36 hdf.1.1)
                  have hnum : e.1.h = d.1.h → e.1.f ≠ d.1.f := fun q r => hne (by rw [keyE, keyE, q, r])
                  clear TU o1 o2 PU hed hdl hdf hne re rd hd HE
                  generalize e.1.h = eh at *
                  generalize e.1.f = ef at *
                  generalize d.1.h = dh at *
                  generalize d.1.f = df at *
                  by_cases hh1 : eh = dh
                  · have k1 : (eh == dh) = true := by rw [beq_iff_eq]; exact hh1
                    have k2 : (ef == df) = false := by rw [beq_eq_false_iff_ne]; exact hnum hh1
                    clear hnum hh1
                    go_wp2_with fail
                    go_quiet (fail)
                    go_wp2_with fail
                    go_roundw
                    case rel => exact ⟨y + 1, by omega, by go_num, hIy.out.then_no ((Turn.refl no wr).drewN _)⟩
                    case measure => simp [intOf]; omega
                  · have k1 : (eh == dh) = false := by rw [beq_eq_false_iff_ne]; exact hh1
                    clear hnum hh1
                    go_wp2_with fail
                    go_quiet (fail)
                    go_wp2_with fail
                    go_roundw
                    case rel => exact ⟨y + 1, by omega, by go_num, hIy.out.then_no ((Turn.refl no wr).drewN _)⟩
                    case measure => simp [intOf]; omega
                · have hlty' : ¬ (y : Int) < (i : Int) := by omega
                  go_wp2_with fail
                  go_roundw
                  case rel => exact ⟨x + 1, by omega, by go_num, hIy⟩
                  case measure => simp [intOf]; omega
            · have hlt' : ¬ (x : Int) < (m2 : Int) := by omega
              obtain ⟨TU, o1, o2, PU⟩ := HU.out
              have hln := len11 wr pp pb L2 (PU.turn_no hI.out)
              have hsub : IntKind.i64.wrap ((gd : Int) - (i : Int)) = (k1 : Int) := by
                have h1 := HL2.out.2.1
                rw [show L2.length = k1 from hk1.out, show l.length = i from hm.out, show Lp.length = gd from hgd.out] at h1
                have h2 := HL2.out.2.2
                rw [show Lp.length = gd from hgd.out] at h2
                rw [IntKind.wrap_i64]
                omega
              rw [show L2.length = k1 from hk1.out] at hln
              have hbb : ((k1 : Int) == (k1 : Int)) = true := by simp
              have TF : Turn no w wr := (HLOW.out wr (TU.then_no hI.out)).2
              clear TU o1 o2 PU
              go_wp2_with (go_at_call 11; refine hln.mono ?_; clear hln; rintro e w9 ⟨rfl, h9⟩; have h9 := h9.symm; subst h9)
              go_ret
              exact ⟨rfl, TF⟩
end Go.Proofs.YtgbcdjjnpadddaaGreatDoor
