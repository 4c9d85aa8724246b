/- Texts in one. -/
import Derived.Test.YtgbcdjjnpadddaaGreatDoorP7
import Derived.Test.YtgbcdjjnpadddaaGreatDoorSg
import Derived.Great.BuildSlice
/- Add of a pool. -/
namespace Go.Proofs.YtgbcdjjnpadddaaGreatDoor
open Go.RowKit Go.Maps
set_option linter.unusedVariables false

theorem ite_mpr {c : Prop} [Decidable c] {a b : Prop} (h : c) (k : a) : if c then a else b := by rw [if_pos h]; exact k
theorem row_range {w : World} {g : Nat} {L : List Value} {t : TypeId} (r : Row w g L.toArray t) : w.rangeAt g 0 L := fun j u hu => by
  rw [Nat.zero_add]
  exact r.cell j u (by simpa using hu)
/-- What Add answers. -/
def addE (v : Int) (L : List (Vt × Vt)) (e : Vt × Vt) : Int := if v = 0 then (if keyE e ∈ L.map keyE then 90 else if 65536 ≤ L.length then 4 else 0) else v
/-- What Add leaves. -/
def addL (v : Int) (L : List (Vt × Vt)) (e : Vt × Vt) : List (Vt × Vt) := if addE v L e = 0 then L ++ [e] else L
theorem zero52 (w : World) : (zeroValue 52).run Tryz.prog w = .ok (.agg (evC zvt zvt)) w := zero32 w
theorem held_inj {u v : Value} (h : (DataW.held u : DataW Value) = .held v) : u = v := by cases h; rfl
set_option maxRecDepth 100000 in
/-- A look-up. -/
theorem Plm.look {D : DataW Value} {L : List (Vt × Vt)} (h : Plm D L) (x : Nat × Nat) (hx : Off64 x) : ∃ e : Vt × Vt, e.1.ok ∧ e.2.ok ∧ (x ∈ L.map keyE → e ∈ L ∧ keyE e = x) ∧ ∀ W b n, W.ownsMap Tryz.prog 101 heldElem b n D →
    (Instr.lookup 94 (.map (some b)) (offV x) true).run Tryz.prog W = .ok (.tuple #[evV e, .bool (decide (x ∈ L.map keyE))]) W ∧ (Instr.lookup 94 (.map (some b)) (offV x) false).run Tryz.prog W = .ok (evV e) W := by
  have key : ∃ e : Vt × Vt, e.1.ok ∧ e.2.ok ∧ (x ∈ L.map keyE → e ∈ L ∧ keyE e = x) ∧ D.atKey (offKey Tryz.prog x) (.held (.agg (evC zvt zvt))) = .held (evV e) ∧ Maps.has D (offKey Tryz.prog x) = decide (x ∈ L.map keyE) := by
    by_cases q : x ∈ L.map keyE
    · obtain ⟨e, he, rfl⟩ := List.mem_map.1 q
      exact ⟨e, (h.fit e he).1.1, (h.fit e he).2.1, fun _ => ⟨he, rfl⟩, h.at_ e he _, by rw [(h.has _ hx).2 q]; simp [q]⟩
    · have h0 : Maps.has D (offKey Tryz.prog x) = false := by
        cases r : Maps.has D (offKey Tryz.prog x) with
        | false => rfl
        | true => exact absurd ((h.has _ hx).1 r) q
      exact ⟨(zvt, zvt), zvt_ok, zvt_ok, fun r => absurd r q, by rw [atKey_of_not_has h0]; rfl, by rw [h0]; simp [q]⟩
  obtain ⟨e, h1, h2, h3, h4, h5⟩ := key
  refine ⟨e, h1, h2, h3, fun W b n hW => ?_⟩
  obtain ⟨v0, ps, hl, hv⟩ := hW.look_ok law101 Tryz.underlying94 (zero52 W) (zd := .held (.agg (evC zvt zvt))) (zp := []) rfl (offKey_of x hx)
  obtain ⟨v1, ps1, hl1, hv1⟩ := hW.lookup law101 Tryz.underlying94 (zero52 W) (zd := .held (.agg (evC zvt zvt))) (zp := []) rfl (offKey_of x hx)
  rw [h4] at hv hv1
  simp only [heldElem, Option.some.injEq, Prod.mk.injEq] at hv hv1
  obtain rfl := held_inj hv.1
  obtain rfl := held_inj hv1.1
  rw [h5] at hl
  exact ⟨hl, hl1⟩
set_option maxRecDepth 100000 in
set_option maxHeartbeats 16000000 in
theorem add9 {w : World} {p b rp br bt : Nat} {V : UInt64 → Value} {E : List UInt64} {R : List Rec} {L : List (Vt × Vt)} (hp : Pl w p b L) (h : Bk w rp br bt V E R) (SA : Array Value) (c : ByteArray) (age hh : Nat) (pv ov : Value) (hS : StC SA c age hh pv ov) (hh64 : hh < 18446744073709551616) (P : List Pa) (hP : Pas w pv P) (O : List (Nat × Nat)) (hO : Ofs w ov O)
    (x : Vt × Vt) (ha : x.1.fits) (hb : x.2.fits) (hl : Laid1 w) (h3 : 3 ≤ w.heap.size) (hp2 : rp ≠ 2) (hL : L.length < 4611686018427387904) (hbr : b ≠ br) (hbt : b ≠ bt) :
    Calls Tryz.prog 9 #[.pointer (some ⟨p, 0, none⟩), .agg SA, .pointer (some ⟨rp, 0, none⟩), .agg (evC x.1 x.2)] w fun e w' => e = .returned (.int .i64 (addE (verE c P O age hh R x.1 x.2) L x)) ∧ Bk w' rp br bt V E R ∧ Pl w' p b (addL (verE c P O age hh R x.1 x.2) L x) ∧ Turn (fun k => k = rp ∨ k = b) w w' := by
  obtain ⟨w0, hw0⟩ : ∃ w0, (w.alloc (.cells SA 37)).alloc (.cells (evC x.1 x.2) 52) = w0 := ⟨_, rfl⟩
  have T0 : Turn no w w0 := by rw [← hw0]; exact ((Turn.refl no w).alloc _).alloc _
  have RS : Row w0 w.heap.size SA 37 := by rw [← hw0]; exact (Row.new w SA 37).alloc _
  have RE : Row w0 (w.heap.size + 1) (evC x.1 x.2) 52 := by rw [← hw0]; exact Row.newAt _ _ _ _ (by simp)
  have hp0 := hp.turn_no T0
  have hb0 := h.turn_no T0
  have hs0 := T0.size
  have hver := verify7 hb0 SA c age hh pv ov hS hh64 P (hP.turn_no T0) O (hO.turn_no T0) x.1 x.2 ha hb (hl.turn T0 (fun q => q)) (by omega) hp2
  have hmd := made14 w0 p hp0.c0
  have hnp : p ≠ rp := fun e => hb0.away hp0.row (by decide) (by decide) (.inl e)
  have hnb : b ≠ rp := by
    obtain ⟨D, ⟨es, clock, ho, _⟩, _⟩ := hp0.map
    rintro rfl
    obtain ⟨D1, D2, hr, _⟩ := hb0.reg
    have := hr.row
    rw [ho] at this
    cases this
  have iS := hS.size
  have iE : (Tryz.prog.info? 52).map (·.size) = some (evC x.1 x.2).size := by rw [evC_size ha.1 hb.1]; exact size32
  have hEA := evC_at (b := x.2) ha.1
  have hbw : b < w.heap.size := by
    obtain ⟨D, hD, _⟩ := hp.map
    exact hD.lt
  have hrw : rp < w.heap.size := h.lt (.inl rfl)
  have HT0 := shut T0
  have HP0 := shut hp0
  clear hS hP hO hl T0 hp h hb0
  generalize hv : verE c P O age hh R x.1 x.2 = v at *
  clear hv
  have hk64 := keyE64 ha
  have hkey : offV (keyE x) = .agg #[.int .u64 x.1.h.toNat, .int .u64 x.1.f.toNat] := rfl
  have f1 : x.1.h = (x.1.h.toNat : Int) := by have := ha.2.1; omega
  have f2 : x.1.f = (x.1.f.toNat : Int) := by have := ha.2.2.2; omega
  rw [f1, f2] at hEA
  have hpo := fun W => pairOf25 W (evC x.1 x.2) x.1.h.toNat x.1.f.toNat hEA.1 hEA.2
  obtain ⟨kh, hkh⟩ : ∃ kh, Hid (x.1.h.toNat = kh) := ⟨_, rfl⟩
  obtain ⟨kf, hkf⟩ : ∃ kf, Hid (x.1.f.toNat = kf) := ⟨_, rfl⟩
  rw [show x.1.h.toNat = kh from hkh.out] at hpo hkey
  rw [show x.1.f.toNat = kf from hkf.out] at hpo hkey
  have HKEY := shut hkey
  clear hkey
  have HFIT : Shut (x.1.fits ∧ x.2.fits) := ⟨ha, hb⟩
  obtain ⟨EL, hEAe⟩ : ∃ EL, Hid (x.1.cs ++ x.2.cs = EL) := ⟨_, rfl⟩
  have hEC : evC x.1 x.2 = EL.toArray := by rw [← hEAe.out]; rfl
  rw [hEC] at RE iE hver hpo hw0 ⊢
  have iEL : (Tryz.prog.info? 52).map (·.size) = some EL.length := by simpa using iE
  have HEV : Shut (evV x = .agg EL.toArray) := by rw [← hEC]; rfl
  clear hEA ha hb hEC f1 f2
  go_enter Tryz.func9, Tryz.ntmps9
  go_upto_region 1 with fail
  try rw [hw0]
  clear hw0
  go_upto_region 3 with (go_at_call 29; refine hmd.mono ?_; clear hmd; rintro e w' ⟨rfl, rfl⟩)
  go_upto_region 4 with (first | (guard_target =~ wpList _ _ _ ({ dst := some 15, .. } :: _) _ _; refine wpList_load_row rfl 37 (.tmp 5) rfl w.heap.size rfl 37 SA _ _ RS Tryz.underlying37 rfl iS ?_) | (guard_target =~ wpList _ _ _ ({ dst := some 17, .. } :: _) _ _; refine wpList_load_row rfl 52 (.tmp 7) rfl (w.heap.size + 1) rfl 52 EL.toArray _ _ RE Tryz.underlying52 rfl iE ?_) | (go_at_call 12; refine hver.mono ?_; clear hver; rintro e w1 ⟨rfl, hb1, t1⟩))
  have HT1 : Shut (Turn (fun k => k = rp) w w1) := HT0.out.of_no.trans t1 (fun i hi e => e)
  have hp1 := HP0.out.turn t1 hnp hnb
  have RE1 := RE.turn t1 (fun e => by have e' : w.heap.size + 1 = rp := e; omega)
  have HF1 : Shut (∀ W, Turn no w1 W → Bk W rp br bt V E R ∧ Pl W p b L ∧ Turn (fun k => k = rp ∨ k = b) w W) := fun W t => ⟨hb1.turn_no t, hp1.turn_no t, (HT1.out.then_no t).mono (fun _ _ e => .inl e)⟩
  clear HP0 RS t1 RE
  by_cases hv0 : v = 0
  · subst hv0
    obtain ⟨D, hD, hm⟩ := hp1.map
    obtain ⟨ee, e1, e2, e3, hlk⟩ := hm.look (keyE x) hk64
    obtain ⟨kn, hkn⟩ : ∃ kn, Hid (decide (keyE x ∈ L.map keyE) = kn) := ⟨_, rfl⟩
    have HLK : Shut (∀ W, Turn no w1 W → (Instr.lookup 94 (.map (some b)) (.agg #[.int .u64 kh, .int .u64 kf]) true).run Tryz.prog W = .ok (.tuple #[evV ee, .bool kn]) W ∧ W.cell? ⟨p, 1, none⟩ = some (.map (some b)) ∧ W.rangeAt (w.heap.size + 1) 0 EL ∧ (Builtin.len_ #[94] 3 #[.map (some b)]).run Tryz.prog W = .ok (.int .i64 L.length) W) := fun W t =>
      ⟨by rw [← hkn.out, ← HKEY.out]; exact (hlk W b _ (ownsMap_turn hD t (fun q => q))).1, (hp1.turn_no t).c1, row_range (RE1.turn t (fun q => q)), by rw [← hm.sz]; exact (ownsMap_turn hD t (fun q => q)).len Tryz.underlying94 3⟩
    have HST : Shut (∀ W, Turn no w1 W → kn = false → ∃ W2, (Instr.mapUpdate 94 (.map (some b)) (.agg #[.int .u64 kh, .int .u64 kf]) (.agg EL.toArray)).run Tryz.prog W = .ok () W2 ∧ Turn (fun k => k = b) W W2 ∧ Bk W2 rp br bt V E R ∧ Pl W2 p b (L ++ [x]) ∧ Turn (fun k => k = rp ∨ k = b) w W2) := fun W t hf => by
      obtain ⟨W2, hst, o2, mt⟩ := (ownsMap_turn hD t (fun q => q)).store law101 Tryz.underlying94 (by simp only [maxLen]; omega) (offKey_of (keyE x) hk64) (val := .agg EL.toArray) (d := .held (evV x)) (ps := []) (by rw [HEV.out]; rfl)
      rw [HKEY.out] at hst
      have tm := mapTurn mt
      have hb2 := hb1.turn_no t
      have hkey : keyE x ∉ L.map keyE := by
        have := hkn.out
        rw [hf] at this
        simpa using this
      refine ⟨W2, hst, tm, hb2.turn tm (fun k hk e => ?_), ⟨((hp1.turn_no t).row).turn tm (fun e => (hp1.turn_no t).ne e.symm), _, by simpa using o2, hm.put x HFIT.out.1 HFIT.out.2 hkey⟩, ((HT1.out.then_no t).mono (fun _ _ e => .inl e) : Turn (fun k => k = rp ∨ k = b) w W).trans tm (fun _ _ e => .inr e)⟩
      have e' : k = b := e
      subst e'
      rcases hk with e | e | e | ⟨a, e⟩
      · exact hnb e
      · exact hbr e
      · exact hbt e
      · obtain ⟨c', ho⟩ := (hb2.rows a).obj e
        obtain ⟨es, clock, ho2, _⟩ := ownsMap_turn hD t (fun q => q)
        rw [ho] at ho2
        cases ho2
    have hpb := hp1.ne
    have HLB : Shut (∀ W, Turn (fun k => k = b) w1 W → W.cell? ⟨p, 1, none⟩ = some (.map (some b)) ∧ W.rangeAt (w.heap.size + 1) 0 EL) := fun W t => ⟨t.keep hp1.c1 (fun e => hpb e.symm), row_range (RE1.turn t (fun e => by
      have e' : w.heap.size + 1 = b := e
      omega))⟩
    have hXV : ∃ XV : Array Value, evV ee = .agg XV ∧ (Tryz.prog.info? 52).map (·.size) = some XV.size ∧ (evC zvt zvt).size = XV.size ∧ XV.all (·.oneCell') = true := ⟨_, rfl, by rw [evC_size e1 e2]; exact size32, by rw [evC_size e1 e2]; exact evC_size zvt_ok zvt_ok, evC_one ee.1 ee.2⟩
    obtain ⟨XV, eXV, iX, sX, oX⟩ := hXV
    rw [eXV] at HLK
    have z52 := zero52
    obtain ⟨ZE, hZE⟩ : ∃ ZE, Hid (evC zvt zvt = ZE) := ⟨_, rfl⟩
    rw [show evC zvt zvt = ZE from hZE.out] at sX z52
    obtain ⟨n, hn⟩ : ∃ n, Hid (L.length = n) := ⟨_, rfl⟩
    rw [show L.length = n from hn.out] at HLK hL
    have HKN := shut hkn
    have HE3 := shut e3
    clear hD hm hlk e1 e2 e3 hp1 RE1 hb1 eXV hkn
    go_upto_region 6 with fail
    refine wp_region_held_drew (S := fun W => Turn no w1 W) (by kernel_rfl) (Turn.refl _ w1).drew (fun hHeld => ?_)
    refine' wpAnyH_take (i := 0) (v := .pointer (some ⟨p, 0, none⟩)) rfl (by kernel_rfl) (by kernel_rfl) (by kernel_rfl) (fun _ _ _ h => h) (Or.inl ⟨by kernel_rfl, fun W hW => ?y1⟩) hHeld ?r1
    · skip
      go_simp
    refine' wpAnyH_take (i := 1) (v := .pointer (some ⟨p, 0, none⟩)) rfl (by kernel_rfl) (by kernel_rfl) (by kernel_rfl) (fun _ _ _ h => h) (Or.inl ⟨by kernel_rfl, fun W hW => ?y2⟩) hHeld ?r2
    · skip
      go_simp
    refine' wpAnyH_take (i := 2) (v := .pointer (some ⟨p, 1, none⟩)) rfl (by kernel_rfl) (by kernel_rfl) (by kernel_rfl) (fun _ _ _ h => h) (Or.inl ⟨by kernel_rfl, fun W hW => ?y3⟩) hHeld ?r3
    · skip
      go_simp
    refine' wpAnyH_take (i := 3) (v := .map (some b)) rfl (by kernel_rfl) (by kernel_rfl) (by kernel_rfl) (fun _ _ _ h => h) (Or.inl ⟨by kernel_rfl, fun W hW => ?y4⟩) hHeld ?r4
    · obtain ⟨_, q1, _, _⟩ := HLK.out W hW
      go_simp
    refine' wpAnyH_take (i := 4) (v := .agg EL.toArray) rfl (by kernel_rfl) (by kernel_rfl) (by kernel_rfl) (fun _ _ _ h => h) (yieldsIf_load_mid (by kernel_rfl) 52 (.tmp 7) rfl (w.heap.size + 1) 0 (by kernel_rfl) EL _ (fun W h => (HLK.out W h).2.2.1) Tryz.underlying52 rfl iEL) hHeld ?r5
    simp only [List.getElem_toArray, List.getElem_cons_succ, List.getElem_cons_zero, Act.put, List.setIfInBounds_toArray, List.set_cons_zero, List.set_cons_succ]
    refine wpAnyH_ready (rs := [5, 10]) (by kernel_rfl) (by simp) ?_
    refine AllReadyH.cons rfl (fun K hK => ?_) (AllReadyH.cons rfl (fun K hK => ?_) AllReadyH.nil)
    · go_simp
      refine (hpo _).mono ?_
      rintro e w2 ⟨rfl, t2⟩
      have T2 : Turn no w1 w2 := (Turn.refl no w1).drew.then_no t2
      go_wp2_with fail
      refine hK.out _ _ T2 (fun hHeld => ?_)
      clear hK
      refine' wpAnyH_take (i := 6) (v := .tuple #[.agg XV, .bool kn]) rfl (by kernel_rfl) (by kernel_rfl) (by kernel_rfl) (fun _ _ _ h => h) (Or.inl ⟨by kernel_rfl, fun W hW => ?y16⟩) hHeld ?r16
      · obtain ⟨q0, _, _, _⟩ := HLK.out W hW
        go_simp
      refine' wpAnyH_take (i := 7) (v := .tuple #[.agg XV, .bool kn]) rfl (by kernel_rfl) (by kernel_rfl) (by kernel_rfl) (fun _ _ _ h => h) (Or.inl ⟨by kernel_rfl, fun W hW => ?y17⟩) hHeld ?r17
      · skip
        go_simp
      refine' wpAnyH_take (i := 8) (v := .agg XV) rfl (by kernel_rfl) (by kernel_rfl) (by kernel_rfl) (fun _ _ _ h => h) (Or.inl ⟨by kernel_rfl, fun W hW => ?y18⟩) hHeld ?r18
      · skip
        go_simp
      refine' wpAnyH_take (i := 9) (v := .bool kn) rfl (by kernel_rfl) (by kernel_rfl) (by kernel_rfl) (fun _ _ _ h => h) (Or.inl ⟨by kernel_rfl, fun W hW => ?y19⟩) hHeld ?r19
      · skip
        go_simp
      simp only [List.getElem_toArray, List.getElem_cons_succ, List.getElem_cons_zero, Act.put, List.setIfInBounds_toArray, List.set_cons_zero, List.set_cons_succ]
      refine wpAnyH_ready (rs := [10]) (by kernel_rfl) (by simp) ?_
      refine AllReadyH.cons rfl (fun K hK => ?_) AllReadyH.nil
      go_simp
      refine hK.out _ _ (T2.alloc _) (fun hHeld => ?_)
      clear hK
      refine wpAnyH_ready (rs := [11]) (by kernel_rfl) (by simp) ?_
      refine AllReadyH.cons rfl (fun K hK => ?_) AllReadyH.nil
      refine ite_mpr (by kernel_rfl) ?_
      refine wp_store_row 52 (.tmp 10) (.tmp 30) rfl w2.heap.size XV rfl rfl 52 ZE (heap_alloc_new _ _) iX sX oX ?_
      have TW : Turn no w1 ((w2.alloc (.cells ZE 52)).setRow w2.heap.size XV) := T2.then_no (alloc_set (setRow_turn _ _))
      generalize (w2.alloc (.cells ZE 52)).setRow w2.heap.size XV = W5 at *
      refine hK.out _ _ TW (fun hHeld => ?_)
      clear hK
      refine wpAnyH_ready (rs := [12]) (by kernel_rfl) (by simp) ?_
      refine AllReadyH.cons rfl (fun K hK => ?_) AllReadyH.nil
      go_simp
      refine hK.out _ _ TW (fun hHeld => ?_)
      clear hK
      refine wpAnyH_done (by kernel_rfl) ?_ _
      go_simp
      cases kn with
      | true =>
        obtain ⟨f1, f2, f3⟩ := HF1.out W5 TW
        go_wp2_with fail
        go_ret
        have hk := of_decide_eq_true HKN.out.out
        exact ⟨by simp [addE, hk], f1, by simpa [addL, addE, hk] using f2, f3⟩
      | false =>
        have hk := of_decide_eq_false HKN.out.out
        obtain ⟨_, q1, q2, q3⟩ := HLK.out W5 TW
        by_cases hbig : 65536 ≤ n
        · have hbig' : (65536 : Int) ≤ (n : Int) := by omega
          obtain ⟨f1, f2, f3⟩ := HF1.out W5 TW
          have HB := shut (show 65536 ≤ L.length by rw [hn.out]; exact hbig)
          have HK := shut hk
          clear hbig hk
          go_wp2_with fail
          go_ret
          exact ⟨by simp [addE, HK.out, HB.out], f1, by simpa [addL, addE, HK.out, HB.out] using f2, f3⟩
        · have hbig' : ¬ (65536 : Int) ≤ (n : Int) := by omega
          have HB := shut (show ¬ 65536 ≤ L.length by rw [hn.out]; exact hbig)
          have HK := shut hk
          clear hbig hk
          go_upto_region 11 with fail
          refine wp_region_held_drew (S := fun W => Turn (fun k => k = b) w1 W) (by kernel_rfl) TW.of_no.drew (fun hHeld => ?_)
          refine' wpAnyH_take (i := 0) (v := .pointer (some ⟨p, 0, none⟩)) rfl (by kernel_rfl) (by kernel_rfl) (by kernel_rfl) (fun _ _ _ h => h) (Or.inl ⟨by kernel_rfl, fun W hW => ?y20⟩) hHeld ?r20
          · skip
            go_simp
          refine' wpAnyH_take (i := 1) (v := .pointer (some ⟨p, 0, none⟩)) rfl (by kernel_rfl) (by kernel_rfl) (by kernel_rfl) (fun _ _ _ h => h) (Or.inl ⟨by kernel_rfl, fun W hW => ?y21⟩) hHeld ?r21
          · skip
            go_simp
          refine' wpAnyH_take (i := 2) (v := .pointer (some ⟨p, 1, none⟩)) rfl (by kernel_rfl) (by kernel_rfl) (by kernel_rfl) (fun _ _ _ h => h) (Or.inl ⟨by kernel_rfl, fun W hW => ?y22⟩) hHeld ?r22
          · skip
            go_simp
          refine' wpAnyH_take (i := 3) (v := .map (some b)) rfl (by kernel_rfl) (by kernel_rfl) (by kernel_rfl) (fun _ _ _ h => h) (Or.inl ⟨by kernel_rfl, fun W hW => ?y23⟩) hHeld ?r23
          · obtain ⟨q1, _⟩ := HLB.out W hW
            go_simp
          refine' wpAnyH_take (i := 4) (v := .agg EL.toArray) rfl (by kernel_rfl) (by kernel_rfl) (by kernel_rfl) (fun _ _ _ h => h) (yieldsIf_load_mid (by kernel_rfl) 52 (.tmp 7) rfl (w.heap.size + 1) 0 (by kernel_rfl) EL _ (fun W h => (HLB.out W h).2) Tryz.underlying52 rfl iEL) hHeld ?r24
          refine' wpAnyH_take (i := 6) (v := .agg EL.toArray) rfl (by kernel_rfl) (by kernel_rfl) (by kernel_rfl) (fun _ _ _ h => h) (yieldsIf_load_mid (by kernel_rfl) 52 (.tmp 7) rfl (w.heap.size + 1) 0 (by kernel_rfl) EL _ (fun W h => (HLB.out W h).2) Tryz.underlying52 rfl iEL) hHeld ?r25
          simp only [List.getElem_toArray, List.getElem_cons_succ, List.getElem_cons_zero, Act.put, List.setIfInBounds_toArray, List.set_cons_zero, List.set_cons_succ]
          refine wpAnyH_ready (rs := [5]) (by kernel_rfl) (by simp) ?_
          refine AllReadyH.cons rfl (fun K hK => ?_) AllReadyH.nil
          go_simp
          refine (hpo _).mono ?_
          rintro e w9 ⟨rfl, t9⟩
          have T9 : Turn no w1 w9 := TW.drew.then_no t9
          go_wp2_with fail
          refine hK.out _ _ T9.of_no (fun hHeld => ?_)
          clear hK
          refine wpAnyH_ready (rs := [7]) (by kernel_rfl) (by simp) ?_
          refine AllReadyH.cons rfl (fun K hK => ?_) AllReadyH.nil
          obtain ⟨wf, hst, g0, g1, g2, g3⟩ := HST.out w9 T9 (by trivial)
          go_simp
          refine hK.out _ _ (T9.of_no.trans g0 (fun _ _ e => e)) (fun hHeld => ?_)
          clear hK
          refine wpAnyH_done (by kernel_rfl) ?_ _
          go_simp
          go_wp2_with fail
          go_ret
          exact ⟨by simp [addE, HK.out, HB.out], g1, by simpa [addL, addE, HK.out, HB.out] using g2, g3⟩
    · go_simp
      refine hK.out _ _ ((Turn.refl no w1).drew.alloc _) (fun hHeld => ?_)
      clear hK
      have T1a : Turn no w1 (w1.alloc (.cells ZE 52)).drew := ((Turn.refl no w1).alloc _).drew
      have RZ1 : Row (w1.alloc (.cells ZE 52)).drew w1.heap.size ZE 52 := Row.new w1 ZE 52
      generalize (w1.alloc (.cells ZE 52)).drew = wa at *
      refine wpAnyH_ready (rs := [5]) (by kernel_rfl) (by simp) ?_
      refine AllReadyH.cons rfl (fun K hK => ?_) AllReadyH.nil
      go_simp
      refine (hpo _).mono ?_
      rintro e w2 ⟨rfl, t2⟩
      have T2 : Turn no w1 w2 := T1a.then_no t2
      have RZ2 := RZ1.turn t2 (fun q => q)
      go_wp2_with fail
      refine hK.out _ _ T2 (fun hHeld => ?_)
      clear hK
      refine' wpAnyH_take (i := 6) (v := .tuple #[.agg XV, .bool kn]) rfl (by kernel_rfl) (by kernel_rfl) (by kernel_rfl) (fun _ _ _ h => h) (Or.inl ⟨by kernel_rfl, fun W hW => ?y6⟩) hHeld ?r6
      · obtain ⟨q0, _, _, _⟩ := HLK.out W hW
        go_simp
      refine' wpAnyH_take (i := 7) (v := .tuple #[.agg XV, .bool kn]) rfl (by kernel_rfl) (by kernel_rfl) (by kernel_rfl) (fun _ _ _ h => h) (Or.inl ⟨by kernel_rfl, fun W hW => ?y7⟩) hHeld ?r7
      · skip
        go_simp
      refine' wpAnyH_take (i := 8) (v := .agg XV) rfl (by kernel_rfl) (by kernel_rfl) (by kernel_rfl) (fun _ _ _ h => h) (Or.inl ⟨by kernel_rfl, fun W hW => ?y8⟩) hHeld ?r8
      · skip
        go_simp
      refine' wpAnyH_take (i := 9) (v := .bool kn) rfl (by kernel_rfl) (by kernel_rfl) (by kernel_rfl) (fun _ _ _ h => h) (Or.inl ⟨by kernel_rfl, fun W hW => ?y9⟩) hHeld ?r9
      · skip
        go_simp
      simp only [List.getElem_toArray, List.getElem_cons_succ, List.getElem_cons_zero, Act.put, List.setIfInBounds_toArray, List.set_cons_zero, List.set_cons_succ]
      refine wpAnyH_ready (rs := [11]) (by kernel_rfl) (by simp) ?_
      refine AllReadyH.cons rfl (fun K hK => ?_) AllReadyH.nil
      refine ite_mpr (by kernel_rfl) ?_
      refine wp_store_row 52 (.tmp 10) (.tmp 30) rfl w1.heap.size XV rfl rfl 52 ZE RZ2 iX sX oX ?_
      have TW : Turn no w1 (w2.setRow w1.heap.size XV) := (T2.of_no.trans (setRow_turn w1.heap.size XV) (fun _ _ e => e) : Turn (fun k => k = w1.heap.size) w1 _).mono (fun i hi e => by
        have e' : i = w1.heap.size := e
        omega)
      generalize w2.setRow w1.heap.size XV = W5 at *
      refine hK.out _ _ TW (fun hHeld => ?_)
      clear hK
      refine wpAnyH_ready (rs := [12]) (by kernel_rfl) (by simp) ?_
      refine AllReadyH.cons rfl (fun K hK => ?_) AllReadyH.nil
      go_simp
      refine hK.out _ _ TW (fun hHeld => ?_)
      clear hK
      refine wpAnyH_done (by kernel_rfl) ?_ _
      go_simp
      cases kn with
      | true =>
        obtain ⟨f1, f2, f3⟩ := HF1.out W5 TW
        go_wp2_with fail
        go_ret
        have hk := of_decide_eq_true HKN.out.out
        exact ⟨by simp [addE, hk], f1, by simpa [addL, addE, hk] using f2, f3⟩
      | false =>
        have hk := of_decide_eq_false HKN.out.out
        obtain ⟨_, q1, q2, q3⟩ := HLK.out W5 TW
        by_cases hbig : 65536 ≤ n
        · have hbig' : (65536 : Int) ≤ (n : Int) := by omega
          obtain ⟨f1, f2, f3⟩ := HF1.out W5 TW
          have HB := shut (show 65536 ≤ L.length by rw [hn.out]; exact hbig)
          have HK := shut hk
          clear hbig hk
          go_wp2_with fail
          go_ret
          exact ⟨by simp [addE, HK.out, HB.out], f1, by simpa [addL, addE, HK.out, HB.out] using f2, f3⟩
        · have hbig' : ¬ (65536 : Int) ≤ (n : Int) := by omega
          have HB := shut (show ¬ 65536 ≤ L.length by rw [hn.out]; exact hbig)
          have HK := shut hk
          clear hbig hk
          go_upto_region 11 with fail
          refine wp_region_held_drew (S := fun W => Turn (fun k => k = b) w1 W) (by kernel_rfl) TW.of_no.drew (fun hHeld => ?_)
          refine' wpAnyH_take (i := 0) (v := .pointer (some ⟨p, 0, none⟩)) rfl (by kernel_rfl) (by kernel_rfl) (by kernel_rfl) (fun _ _ _ h => h) (Or.inl ⟨by kernel_rfl, fun W hW => ?y10⟩) hHeld ?r10
          · skip
            go_simp
          refine' wpAnyH_take (i := 1) (v := .pointer (some ⟨p, 0, none⟩)) rfl (by kernel_rfl) (by kernel_rfl) (by kernel_rfl) (fun _ _ _ h => h) (Or.inl ⟨by kernel_rfl, fun W hW => ?y11⟩) hHeld ?r11
          · skip
            go_simp
          refine' wpAnyH_take (i := 2) (v := .pointer (some ⟨p, 1, none⟩)) rfl (by kernel_rfl) (by kernel_rfl) (by kernel_rfl) (fun _ _ _ h => h) (Or.inl ⟨by kernel_rfl, fun W hW => ?y12⟩) hHeld ?r12
          · skip
            go_simp
          refine' wpAnyH_take (i := 3) (v := .map (some b)) rfl (by kernel_rfl) (by kernel_rfl) (by kernel_rfl) (fun _ _ _ h => h) (Or.inl ⟨by kernel_rfl, fun W hW => ?y13⟩) hHeld ?r13
          · obtain ⟨q1, _⟩ := HLB.out W hW
            go_simp
          refine' wpAnyH_take (i := 4) (v := .agg EL.toArray) rfl (by kernel_rfl) (by kernel_rfl) (by kernel_rfl) (fun _ _ _ h => h) (yieldsIf_load_mid (by kernel_rfl) 52 (.tmp 7) rfl (w.heap.size + 1) 0 (by kernel_rfl) EL _ (fun W h => (HLB.out W h).2) Tryz.underlying52 rfl iEL) hHeld ?r14
          refine' wpAnyH_take (i := 6) (v := .agg EL.toArray) rfl (by kernel_rfl) (by kernel_rfl) (by kernel_rfl) (fun _ _ _ h => h) (yieldsIf_load_mid (by kernel_rfl) 52 (.tmp 7) rfl (w.heap.size + 1) 0 (by kernel_rfl) EL _ (fun W h => (HLB.out W h).2) Tryz.underlying52 rfl iEL) hHeld ?r15
          simp only [List.getElem_toArray, List.getElem_cons_succ, List.getElem_cons_zero, Act.put, List.setIfInBounds_toArray, List.set_cons_zero, List.set_cons_succ]
          refine wpAnyH_ready (rs := [5]) (by kernel_rfl) (by simp) ?_
          refine AllReadyH.cons rfl (fun K hK => ?_) AllReadyH.nil
          go_simp
          refine (hpo _).mono ?_
          rintro e w9 ⟨rfl, t9⟩
          have T9 : Turn no w1 w9 := TW.drew.then_no t9
          go_wp2_with fail
          refine hK.out _ _ T9.of_no (fun hHeld => ?_)
          clear hK
          refine wpAnyH_ready (rs := [7]) (by kernel_rfl) (by simp) ?_
          refine AllReadyH.cons rfl (fun K hK => ?_) AllReadyH.nil
          obtain ⟨wf, hst, g0, g1, g2, g3⟩ := HST.out w9 T9 (by trivial)
          go_simp
          refine hK.out _ _ (T9.of_no.trans g0 (fun _ _ e => e)) (fun hHeld => ?_)
          clear hK
          refine wpAnyH_done (by kernel_rfl) ?_ _
          go_simp
          go_wp2_with fail
          go_ret
          exact ⟨by simp [addE, HK.out, HB.out], g1, by simpa [addL, addE, HK.out, HB.out] using g2, g3⟩
  · have hv' : (v != 0) = true := by simp [hv0]
    obtain ⟨f1, f2, f3⟩ := HF1.out w1 (Turn.refl _ _)
    have HV := shut hv0
    clear hv0
    go_wp2_with fail
    go_ret
    exact ⟨by simp [addE, HV.out], f1, by simpa [addL, addE, HV.out] using f2, f3⟩
end Go.Proofs.YtgbcdjjnpadddaaGreatDoor

/- What Pick picks: plain; lists of evidence. -/
namespace Go.Proofs.YtgbcdjjnpadddaaGreatDoor
open Go.RowKit Go.Maps
set_option linter.unusedVariables false

/-- The entries of sorted pairs. -/
def entsOf (L : List (Vt × Vt)) (K : List (Nat × Nat)) : List (Vt × Vt) := K.filterMap fun x => L.find? fun e => decide (keyE e = x)
theorem find_key {L : List (Vt × Vt)} {x : Nat × Nat} (h : x ∈ L.map keyE) : ∃ e, L.find? (fun e => decide (keyE e = x)) = some e ∧ e ∈ L ∧ keyE e = x := by
  cases q : L.find? (fun e => decide (keyE e = x)) with
  | none =>
    obtain ⟨e, he, rfl⟩ := List.mem_map.1 h
    have := List.find?_eq_none.1 q e he
    simp at this
  | some e => exact ⟨e, rfl, List.mem_of_find?_eq_some q, by simpa using List.find?_some q⟩
theorem ents_keys (L : List (Vt × Vt)) : ∀ K : List (Nat × Nat), (∀ x ∈ K, x ∈ L.map keyE) → (entsOf L K).map keyE = K ∧ ∀ e ∈ entsOf L K, e ∈ L
  | [], _ => ⟨rfl, fun e h => by simp [entsOf] at h⟩
  | x :: r, h => by
    obtain ⟨i1, i2⟩ := ents_keys L r (fun y hy => h y (List.mem_cons_of_mem _ hy))
    obtain ⟨e, he, hm, hk⟩ := find_key (h x List.mem_cons_self)
    have e1 : entsOf L (x :: r) = e :: entsOf L r := by simp only [entsOf, List.filterMap_cons, he]
    rw [e1]
    refine ⟨by rw [List.map_cons, hk, i1], fun y hy => ?_⟩
    rcases List.mem_cons.1 hy with q | q
    · rw [q]; exact hm
    · exact i2 y q
theorem nodup_of_map {α β : Type} {f : α → β} {l : List α} (h : (l.map f).Nodup) : l.Nodup := (List.pairwise_map.1 h).imp (fun q e => q (congrArg f e))
theorem key_one {L : List (Vt × Vt)} (h : (L.map keyE).Nodup) {a b : Vt × Vt} (ha : a ∈ L) (hb : b ∈ L) (e : keyE a = keyE b) : a = b := by
  induction L with
  | nil => simp at ha
  | cons x r ih =>
    rw [List.map_cons, List.nodup_cons] at h
    rcases List.mem_cons.1 ha with q | q <;> rcases List.mem_cons.1 hb with s | s
    · rw [q, s]
    · exact absurd (List.mem_map_of_mem (f := keyE) s) (by rw [← e, q]; exact h.1)
    · exact absurd (List.mem_map_of_mem (f := keyE) q) (by rw [e, s]; exact h.1)
    · exact ih h.2 q s
theorem ents_perm {D : DataW Value} {L : List (Vt × Vt)} (hm : Plm D L) {K : List (Nat × Nat)} (hK : AllO D K) : (entsOf L K).map keyE = K ∧ (entsOf L K).Perm L := by
  have hsub : ∀ x ∈ K, x ∈ L.map keyE := fun x hx => (hm.has x (hK.2.1 x hx)).1 ((hK.2.2.1 x (hK.2.1 x hx)).1 hx)
  obtain ⟨h1, h2⟩ := ents_keys L K hsub
  refine ⟨h1, (List.perm_ext_iff_of_nodup (nodup_of_map (by rw [h1]; exact hK.1)) (nodup_of_map hm.nd)).2 fun e => ⟨h2 e, fun he => ?_⟩⟩
  have h64 := keyE64 (hm.fit e he).1
  have hk : keyE e ∈ K := (hK.2.2.1 _ h64).2 ((hm.has _ h64).2 (List.mem_map_of_mem he))
  rw [← h1] at hk
  obtain ⟨e', he', ek⟩ := List.mem_map.1 hk
  rw [← key_one hm.nd (h2 e' he') he ek]
  exact he'
/-- Rising pairs. -/
def Rise (L : List (Vt × Vt)) : Prop := L.Pairwise fun x y => offL (keyE x) (keyE y) = true
theorem rise_of {S : List (Vt × Vt)} (hn : (S.map keyE).Nodup) (hb : ByOff (S.map keyE)) : Rise S := by
  refine List.pairwise_iff_getElem.2 fun i j hi hj hij => ?_
  have h1 : (S.map keyE)[i]? = some (keyE S[i]) := by rw [List.getElem?_map, List.getElem?_eq_getElem hi]; rfl
  have h2 : (S.map keyE)[j]? = some (keyE S[j]) := by rw [List.getElem?_map, List.getElem?_eq_getElem hj]; rfl
  have hf := hb i j _ _ hij h1 h2
  have hne : keyE S[i] ≠ keyE S[j] := fun e => by
    have := (List.getElem_inj (i := i) (j := j) (h₀ := by simpa using hi) (h₁ := by simpa using hj) hn).1 (by simpa using e)
    omega
  simp only [offL, decide_eq_false_iff_not, decide_eq_true_eq] at *
  have hne' : ¬ ((keyE S[i]).1 = (keyE S[j]).1 ∧ (keyE S[i]).2 = (keyE S[j]).2) := fun e => hne (Prod.ext e.1 e.2)
  omega
/-- What is picked of sorted entries. -/
def pickL (ok : Vt × Vt → Bool) (S : List (Vt × Vt)) : List (Vt × Vt) := (S.filter ok).take 16
theorem pick_step (ok : Vt × Vt → Bool) {S : List (Vt × Vt)} {k : Nat} {e : Vt × Vt} (he : S[k]? = some e) (hl : (S.take k |>.filter ok).length < 16) : (S.take (k + 1)).filter ok = (S.take k).filter ok ++ (if ok e = true then [e] else []) := by
  rw [List.take_add_one, he, List.filter_append]
  simp only [Option.toList_some, List.filter_cons, List.filter_nil]
theorem pick_full (ok : Vt × Vt → Bool) {S : List (Vt × Vt)} {k : Nat} (hl : ((S.take k).filter ok).length = 16) : pickL ok S = (S.take k).filter ok := by
  have h : S.filter ok = (S.take k).filter ok ++ (S.drop k).filter ok := by rw [← List.filter_append, List.take_append_drop]
  rw [pickL, h, List.take_append_of_le_length (by omega), List.take_of_length_le (by omega)]
theorem pick_all (ok : Vt × Vt → Bool) {S : List (Vt × Vt)} (hl : (S.filter ok).length ≤ 16) : pickL ok S = S.filter ok := by
  rw [pickL, List.take_of_length_le hl]
/-- The cells of a list of evidence. -/
def evL (e : Vt × Vt) : List Value := e.1.cs ++ e.2.cs
def evsC (l : List (Vt × Vt)) : List Value := l.flatMap evL
theorem evV_L (e : Vt × Vt) : evV e = .agg (evL e).toArray := rfl
theorem evL_len {e : Vt × Vt} (h : e.1.ok ∧ e.2.ok) : (evL e).length = 106 := by simp [evL, e.1.len h.1, e.2.len h.2]
theorem evs_app (l : List (Vt × Vt)) (e : Vt × Vt) : evsC (l ++ [e]) = evsC l ++ evL e := by simp [evsC]
theorem evs_len {l : List (Vt × Vt)} (h : ∀ e ∈ l, e.1.ok ∧ e.2.ok) : (evsC l).length = l.length * 106 := by
  induction l with
  | nil => rfl
  | cons m r ih =>
    have := ih (fun e he => h e (List.mem_cons_of_mem _ he))
    have h1 := evL_len (h m List.mem_cons_self)
    simp only [evsC, List.flatMap_cons, List.length_append, List.length_cons] at this ⊢
    omega
theorem evs_at : ∀ {l : List (Vt × Vt)} (h : ∀ e ∈ l, e.1.ok ∧ e.2.ok) (k : Nat) (e : Vt × Vt), l[k]? = some e → ∀ j u, (evL e)[j]? = some u → (evsC l)[k * 106 + j]? = some u
  | x :: r, h, 0, e, he, j, u, hu => by
    simp at he
    subst he
    rw [evsC, List.flatMap_cons, Nat.zero_mul, Nat.zero_add, List.getElem?_append_left (List.getElem?_eq_some_iff.1 hu).1]
    exact hu
  | x :: r, h, k + 1, e, he, j, u, hu => by
    have h1 := evL_len (h x List.mem_cons_self)
    have := evs_at (fun e he => h e (List.mem_cons_of_mem _ he)) k e (by simpa using he) j u hu
    rw [evsC, List.flatMap_cons, List.getElem?_append_right (by omega), h1]
    rw [evsC] at this
    rw [show (k + 1) * 106 + j - 106 = k * 106 + j by omega]
    exact this
theorem evs_range {w : World} {g n cap : Nat} {l : List (Vt × Vt)} (O : OwnN w 52 106 (.slice (some ⟨g, 0, none⟩) n cap) l.length (evsC l)) (h : ∀ e ∈ l, e.1.ok ∧ e.2.ok) {k : Nat} {e : Vt × Vt} (he : l[k]? = some e) : w.rangeAt g (k * 106) (evL e) := fun j u hu => by
  have hx := evs_at h k e he j u hu
  rcases O.2 with ⟨q, _⟩ | ⟨g', cap', cur, q, _, hg, h1, h2, h3, h4⟩
  · cases q
  · cases q
    have hlt : k * 106 + j < l.length * 106 := by
      have := (List.getElem?_eq_some_iff.1 hx).1
      rwa [evs_len h] at this
    rw [← h4, List.getElem?_take_of_lt hlt] at hx
    rw [cell_of_row _ _ _ _ 52 (0, 0) hg, ← Array.getElem?_toList]
    exact hx
theorem info52 : ∃ z : Value, (Tryz.prog.info? 52).map (fun i => (i.zero, i.size, i.bytes)) = some (some z, 106, 176) ∧ z.cells.size = 106 := ⟨.agg (evC zvt zvt), by kernel_rfl, by kernel_rfl⟩
theorem bslE (w : World) (C : List Value) (hC : C.length = 106) : (Instr.buildSlice 66 1 #[(0, .agg C.toArray)]).run Tryz.prog w = .ok (.slice (some ⟨w.heap.size, 0, none⟩) 1 1) (w.alloc (.cells C.toArray 52)) := by
  have hi : (Tryz.prog.info? 52).map (·.size) = some 106 := by kernel_rfl
  have hz : ((Tryz.prog.info? 52).bind (·.zero)).isSome = true := by kernel_rfl
  cases hie : Tryz.prog.info? 52 with
  | none => simp [hie] at hi
  | some ie =>
    simp only [hie, Option.map_some, Option.some.injEq, Option.bind_some] at hi hz
    obtain ⟨z, hzz⟩ := Option.isSome_iff_exists.1 hz
    refine run_buildSlice w 66 52 1 _ _ ie z Tryz.underlying66 hie hzz (by rw [hi]; omega) (by rw [hi]; omega) ?_
    rw [hi]
    have := Great.fill_whole (by omega : 0 < 106) [Value.agg C.toArray] ((Array.range (1 * 106)).map (z.cells[· % z.cells.size]!)) (by simpa [Value.cells] using hC) (by simp)
    simpa [Value.cells] using this
theorem src_ev (w : World) (C : List Value) (hC : C.length = 106) (h1 : ∀ u ∈ C, u.oneCell' = true) : Src Tryz.prog 106 66 (.slice (some ⟨w.heap.size, 0, none⟩) 1 1) 1 C (w.alloc (.cells C.toArray 52)) := by
  refine Src.ofSlice _ Tryz.underlying66 _ _ _ _ (by omega) (fun j u hu => ?_) h1
  rw [Addr.add_lit, Nat.zero_add]
  exact (Row.new w C.toArray 52).cell j u (by simpa using hu)
theorem evL_one (e : Vt × Vt) : ∀ u ∈ evL e, u.oneCell' = true := fun u hu => by
  rcases List.mem_append.1 hu with q | q
  · exact Vt.one e.1 u q
  · exact Vt.one e.2 u q
end Go.Proofs.YtgbcdjjnpadddaaGreatDoor
