/- Pick of a pool. -/
import Derived.Test.YtgbcdjjnpadddaaGreatDoorPc
namespace Go.Proofs.YtgbcdjjnpadddaaGreatDoor
open Go.RowKit Go.Maps
set_option linter.unusedVariables false

theorem wp_append_runP {P : Program} {ops : Array Oper} {rest : List Oper} {o : Oper} {a : Act} {w : World} {Q : Exit → Act → World → Prop} (hgd : o.guard = none) (s x : Operand) {t tx : TypeId}
    (ho : o.op = .call { callee := .builtin .append, args := #[s, x], argTypes := #[t, tx] }) (v xv : Value) (hs : a.eval s = v) (hx : a.eval x = xv) {v' : Value} {w' : World}
    (hr : (Builtin.append_ #[t, tx] o.type #[v, xv]).run P w = .ok v' w') (h : wpList P ops Q rest (a.put o.dst v') w') : wpList P ops Q (o :: rest) a w :=
  wpList_plain hgd fun K hK => by
    unfold Oper.wp execOp
    simp only [ho, resolve, invoke, builtin, Sem.run_bind, Sem.run_pure, Result.andThen_ok, List.map_toArray, List.map_cons, List.map_nil, hs, hx, hr]
    exact hK _ _ h
theorem wpList_bsliceP {P : Program} {ops : Array Oper} {rest : List Oper} {op : Oper} {a : Act} {w : World} {Q : Exit → Act → World → Prop} (hgd : op.guard = none) (t : TypeId) (x : Operand) (ho : op.op = .buildSlice t 1 #[(0, x)]) (v : Value) (hx : a.eval x = v) (r : Value) (w' : World) (hr : (Instr.buildSlice t 1 #[(0, v)]).run P w = .ok r w') (h : wpList P ops Q rest (a.put op.dst r) w') : wpList P ops Q (op :: rest) a w :=
  wpList_plain hgd fun K hK => by
    unfold Oper.wp execOp
    simp only [ho, hx, Sem.run_bind, List.map_toArray, List.map_cons, List.map_nil, hr, Result.andThen_ok, Sem.run_pure]
    exact hK _ _ h
/-- What the loop of Pick keeps. -/
def PkI (B p b rp br bt : Nat) (V : UInt64 → Value) (E : List UInt64) (R : List Rec) (L : List (Vt × Vt)) (l : List (Vt × Vt)) (w2 : World) (pv : Value) (W : World) : Prop :=
  OwnN W 52 106 pv l.length (evsC l) ∧ (∀ g, pv.ownBlock = some g → B ≤ g) ∧ l.length ≤ 16 ∧ Bk W rp br bt V E R ∧ Pl W p b L ∧ Turn (fun k => k = rp) w2 W
set_option maxRecDepth 100000 in
set_option maxHeartbeats 16000000 in
theorem pick10 {w : World} {p b rp br bt : Nat} {V : UInt64 → Value} {E : List UInt64} {R : List Rec} {L : List (Vt × Vt)} (hp : Pl w p b L) (h : Bk w rp br bt V E R) (SA : Array Value) (c : ByteArray) (age hh : Nat) (pv ov : Value) (hS : StC SA c age hh pv ov) (hh64 : hh < 18446744073709551616) (P : List Pa) (O : List (Nat × Nat)) (hPO : ∀ W, Turn (fun k => k = rp) w W → Pas W pv P ∧ Ofs W ov O)
    (hl : Laid1 w) (h3 : 3 ≤ w.heap.size) (hp2 : rp ≠ 2) (hL : L.length ≤ 1048576) (ok : Vt × Vt → Bool) (hok : ∀ e, ok e = decide (verE c P O age hh R e.1 e.2 = 0)) :
    Calls Tryz.prog 10 #[.pointer (some ⟨p, 0, none⟩), .agg SA, .pointer (some ⟨rp, 0, none⟩)] w fun e w' => ∃ v Sx, e = .returned v ∧ Sx.Perm L ∧ Rise Sx ∧ OwnN w' 52 106 v (pickL ok Sx).length (evsC (pickL ok Sx)) ∧ (∀ g, v.ownBlock = some g → w.heap.size ≤ g) ∧ Bk w' rp br bt V E R ∧ Pl w' p b L ∧ Turn (fun k => k = rp) w w' := by
  obtain ⟨w0, hw0⟩ : ∃ w0, w.alloc (.cells SA 37) = w0 := ⟨_, rfl⟩
  have T0 : Turn no w w0 := by rw [← hw0]; exact (Turn.refl no w).alloc _
  have RS : Row w0 w.heap.size SA 37 := by rw [← hw0]; exact Row.new w SA 37
  have hp0 := hp.turn_no T0
  have hb0 := h.turn_no T0
  have hs0 := T0.size
  have hmd := made14 w0 p hp0.c0
  have hrg := isReg21 hb0
  have hky := keys33 w0 (some b)
  obtain ⟨D, hD, hm⟩ := hp0.map
  obtain ⟨w1, hw1⟩ : ∃ w1, w0.alloc (.cells #[.map (some b)] 94) = w1 := ⟨_, rfl⟩
  have T01 : Turn no w0 w1 := by rw [← hw1]; exact (Turn.refl no w0).alloc _
  have hso := sorted32 w1 w0.heap.size b _ D (by rw [← hw1]; exact (Row.new w0 _ 94).cell 0 _ rfl) (ownsMap_turn hD T01 (fun q => q)) (by rw [hm.sz]; omega)
  have cm := hp0.c1
  have iS := hS.size
  have hnp : p ≠ rp := fun e => hb0.away hp0.row (by decide) (by decide) (.inl e)
  have hnb : b ≠ rp := by
    obtain ⟨es, clock, ho, _⟩ := hD
    rintro rfl
    obtain ⟨D1, D2, hr, _⟩ := hb0.reg
    have := hr.row
    rw [ho] at this
    cases this
  have hrw : rp < w.heap.size := h.lt (.inl rfl)
  have hpw : p < w.heap.size := hp.row.lt
  have HV : Shut (∀ W e, Bk W rp br bt V E R → Turn (fun k => k = rp) w W → e.1.fits ∧ e.2.fits → Calls Tryz.prog 12 #[.agg SA, .pointer (some ⟨rp, 0, none⟩), .agg (evL e).toArray] W fun x W' => x = .returned (.int .i64 (verE c P O age hh R e.1 e.2)) ∧ Bk W' rp br bt V E R ∧ Turn (fun k => k = rp) W W') := fun W e hB t hf => by
    obtain ⟨q1, q2⟩ := hPO W t
    have := t.size
    exact verify7 hB SA c age hh pv ov hS hh64 P q1 O q2 e.1 e.2 hf.1 hf.2 (hl.turn t (fun e => hp2 e.symm)) (by omega) hp2
  have HT0 := shut T0
  have HT01 := shut T01
  have HD := shut (And.intro hD hm)
  have HP0 := shut (And.intro hp0 hb0)
  have HRS := shut RS
  clear hS hPO hl T0 hp h hb0 hp0 hD hm T01 RS
  go_enter Tryz.func10, Tryz.ntmps10
  go_upto_region 1 with fail
  try rw [hw0]
  clear hw0
  go_upto_region 3 with (first | (go_at_call 29; refine hmd.mono ?_; rintro e wA ⟨rfl, hA⟩; have hA := hA.symm; subst hA) | (go_at_call 31; refine hrg.mono ?_; rintro e wB ⟨rfl, hB⟩; have hB := hB.symm; subst hB))
  clear hmd hrg
  go_upto_region 4 with fail
  go_wp2_with (first | (go_at_call 33; refine hky.mono ?_; rintro e wC ⟨rfl, hC⟩; rw [hw1] at hC; have hC := hC.symm; subst hC) | (go_at_call 32; refine hso.mono ?_; rintro e w2 ⟨kv, K, rfl, hall, hby, hof, hnw, t2⟩; obtain ⟨ad, kc, rfl, hof⟩ := hof))
  obtain ⟨hD, hm⟩ := HD.out
  obtain ⟨hp0, hb0⟩ := HP0.out
  obtain ⟨hk1, hperm⟩ := ents_perm hm hall
  obtain ⟨Sx, hSx⟩ : ∃ Sx, entsOf L K = Sx := ⟨_, rfl⟩
  rw [hSx] at hk1 hperm
  have hrise : Rise Sx := rise_of (by rw [hk1]; exact hall.1) (by rw [hk1]; exact hby)
  have hlen : Sx.length = K.length := by rw [← hk1, List.length_map]
  have T01 := HT01.out
  have T12 := T01.then_no t2
  have T02 := HT0.out.then_no T12
  have hs02 := T02.size
  have hs12 : w.heap.size ≤ w1.heap.size := by have := (HT0.out.then_no T01).size; exact this
  have HEL : Shut (∀ (k : Nat) m, K[k]? = some m → ∃ e, Sx[k]? = some e ∧ keyE e = m ∧ e ∈ L) := fun k m hk => by
    rw [← hk1, List.getElem?_map] at hk
    cases q : Sx[k]? with
    | none => rw [q] at hk; simp at hk
    | some e =>
      rw [q] at hk
      exact ⟨e, rfl, by simpa using hk, hperm.mem_iff.1 (List.mem_of_getElem? q)⟩
  have HKC : Shut (∀ (k : Nat) m W, K[k]? = some m → Turn (fun k => k = rp) w2 W → ∃ gk off, ad = some ⟨gk, off, none⟩ ∧ W.cell? ⟨gk, off + k * 2, none⟩ = some (.int .u64 m.1) ∧ W.cell? ⟨gk, off + k * 2 + 1, none⟩ = some (.int .u64 m.2)) := fun k m W hk t => by
    obtain ⟨gk, off, e, c0, c1⟩ := hof.cells k m hk
    have hg : gk ≠ rp := by
      have := hnw gk (by rw [e]; rfl)
      omega
    exact ⟨gk, off, e, t.keep c0 hg, t.keep c1 hg⟩
  have HLK : Shut (∀ e, e ∈ L → ∀ W, Turn (fun k => k = rp) w2 W → (Instr.lookup 94 (.map (some b)) (.agg #[.int .u64 (keyE e).1, .int .u64 (keyE e).2]) false).run Tryz.prog W = .ok (.agg (evL e).toArray) W) := fun e he W t => by
    obtain ⟨ee, _, _, e3, hlk⟩ := hm.look (keyE e) (keyE64 (hm.fit e he).1)
    obtain ⟨q1, q2⟩ := e3 (List.mem_map_of_mem he)
    rw [key_one hm.nd q1 he q2] at hlk
    exact (hlk W b _ (ownsMap_turn (ownsMap_turn hD T12 (fun q => q)) t hnb)).2
  have HST : Shut (Bk w2 rp br bt V E R ∧ Pl w2 p b L) := ⟨hb0.turn_no T12, hp0.turn_no T12⟩
  have HFIT : Shut (∀ e, e ∈ L → e.1.fits ∧ e.2.fits) := fun e he => hm.fit e he
  have HRS2 : Shut (Row w2 w.heap.size SA 37) := HRS.out.turn T12 (fun q => q)
  have hkb : K.length ≤ 1048576 := by
    rw [← hlen, hperm.length_eq]
    exact hL
  have HFIN := shut (And.intro hperm hrise)
  have HT02 := shut T02
  obtain ⟨n, hn⟩ : ∃ n, Hid (K.length = n) := ⟨_, rfl⟩
  rw [show K.length = n from hn.out] at hkb hlen ⊢
  have HLEN := shut hlen
  clear hD hm hk1 hperm hrise hlen hof hnw hall hby hp0 hb0 t2 T12 T02 T01 hSx cm hky hso HD HP0 HRS
  go_loopw [26, 7] (fun cc pp wr => ∃ k : Nat, k ≤ n ∧ cc = .int .i64 k ∧ Shut (PkI w2.heap.size p b rp br bt V E R L ((Sx.take k).filter ok) w2 pp wr)) (fun cc _ _ => n - (intOf cc).toNat)
  case atStart => exact ⟨0, by omega, rfl, shut ⟨OwnN.nil _ _ _, (fun g hg => by cases hg), by simp, HST.out.1, HST.out.2, Turn.refl _ _⟩⟩
  case round =>
    obtain ⟨k, hk, rfl, hI⟩ := hrel
    obtain ⟨ow, hnew, hle, hB, hP, T⟩ := hI.out
    obtain ⟨l, hl⟩ : ∃ l, (Sx.take k).filter ok = l := ⟨_, rfl⟩
    rw [hl] at ow hle hI
    obtain ⟨pa, pc, epp, -⟩ := ow.form
    subst epp
    obtain ⟨m, hm⟩ : ∃ m, Hid (l.length = m) := ⟨_, rfl⟩
    by_cases hlt : k < n
    · obtain ⟨kx, hkx⟩ : ∃ x, K[k]? = some x := ⟨K[k]'(by rw [hn.out]; exact hlt), List.getElem?_eq_getElem _⟩
      obtain ⟨e, he, hke, heL⟩ := HEL.out k kx hkx
      obtain ⟨gk, off, ead, c0, c1⟩ := HKC.out k kx wr hkx T
      subst ead
      have hlt' : (k : Int) < (n : Int) := by omega
      obtain ⟨wa, hwa⟩ : ∃ wa, wr.alloc (.cells #[.int .u64 kx.1, .int .u64 kx.2] 101) = wa := ⟨_, rfl⟩
      have Ta : Turn no wr wa := by rw [← hwa]; exact (Turn.refl no wr).alloc _
      have RK : Row wa wr.heap.size #[.int .u64 kx.1, .int .u64 kx.2] 101 := by rw [← hwa]; exact Row.new wr _ 101
      have HI := shut (And.intro ow (And.intro hnew (And.intro hle (And.intro hB (And.intro hP T)))))
      have HE := shut (And.intro he (And.intro hke heL))
      have HL := shut hl
      have hle' : m ≤ 16 := by rw [← hm.out]; exact hle
      rw [show l.length = m from hm.out]
      clear ow hnew hle hB hP T hI he hke heL hl hkx
      go_upto_region 7 with fail
      try rw [hwa]
      clear hwa c0 c1
      by_cases h16 : m = 16
      · have hx : ((m : Int) == 16) = true := by simp [h16]
        have H16 := shut h16
        clear h16
        go_wp2_with fail
        go_ret
        obtain ⟨ow, hnew, hle, hB, hP, T⟩ := HI.out
        have ex : pickL ok Sx = l := by
          rw [← HL.out]
          exact pick_full ok (by rw [HL.out, show l.length = m from hm.out]; exact H16.out)
        refine ⟨_, Sx, rfl, HFIN.out.1, HFIN.out.2, by rw [ex, ← show l.length = m from hm.out]; exact ow.turn_no Ta, fun g hg => ?_, hB.turn_no Ta, hP.turn_no Ta, (HT02.out.of_no.trans (T.then_no Ta) (fun _ _ e => e))⟩
        have := hnew g (by rw [show l.length = m from hm.out]; exact hg)
        omega
      · have hx : ((m : Int) == 16) = false := by simp; omega
        have H16 := shut h16
        clear h16
        obtain ⟨he, hke, heL⟩ := HE.out
        have HWA : Shut ((∀ W, Turn no wa W → W.cell? ⟨p, 1, none⟩ = some (.map (some b))) ∧ (∀ W, Turn no wa W → W.cell? ⟨wr.heap.size, 0, none⟩ = some (.int .u64 kx.1) ∧ W.cell? ⟨wr.heap.size, 1, none⟩ = some (.int .u64 kx.2)) ∧ (∀ W, Turn no wa W → (Instr.lookup 94 (.map (some b)) (.agg #[.int .u64 kx.1, .int .u64 kx.2]) false).run Tryz.prog W = .ok (.agg (evL e).toArray) W)) := by
          obtain ⟨ow, hnew, hle, hB, hP, T⟩ := HI.out
          refine ⟨fun W t => (hP.turn_no (Ta.then_no t)).c1, fun W t => ⟨(RK.turn t (fun q => q)).cell 0 _ rfl, (RK.turn t (fun q => q)).cell 1 _ rfl⟩, fun W t => ?_⟩
          rw [← hke]
          exact HLK.out e heL W (T.then_no (Ta.then_no t))
        have hef := HFIT.out e heL
        have sE : (evL e).toArray.size = 106 := by simpa using evL_len ⟨hef.1.1, hef.2.1⟩
        have iX : (Tryz.prog.info? 52).map (·.size) = some (evL e).toArray.size := by rw [sE]; exact size32
        have oX : (evL e).toArray.all (·.oneCell') = true := all_oneCell_toArray (evL_one e)
        have z52 := zero52
        obtain ⟨ZE, hZE⟩ : ∃ ZE, Hid (evC zvt zvt = ZE) := ⟨_, rfl⟩
        have sX : ZE.size = (evL e).toArray.size := by rw [sE, ← hZE.out]; exact evC_size zvt_ok zvt_ok
        rw [show evC zvt zvt = ZE from hZE.out] at z52
        have HEF := shut hef
        clear he hke heL hef
        go_upto_region 8 with fail
        refine wp_region_held_drew (S := fun W => Turn no wa W) (by kernel_rfl) (Turn.refl _ wa).drew (fun hHeld => ?_)
        refine' wpAnyH_take (i := 0) (v := .pointer (some ⟨p, 0, none⟩)) rfl (by kernel_rfl) (by kernel_rfl) (by kernel_rfl) (fun _ _ _ h => h) (Or.inl ⟨by kernel_rfl, fun W hW => ?y1⟩) hHeld ?r1
        · skip
          go_simp
        refine' wpAnyH_take (i := 1) (v := .pointer (some ⟨p, 0, none⟩)) rfl (by kernel_rfl) (by kernel_rfl) (by kernel_rfl) (fun _ _ _ h => h) (Or.inl ⟨by kernel_rfl, fun W hW => ?y2⟩) hHeld ?r2
        · skip
          go_simp
        refine' wpAnyH_take (i := 2) (v := .pointer (some ⟨p, 1, none⟩)) rfl (by kernel_rfl) (by kernel_rfl) (by kernel_rfl) (fun _ _ _ h => h) (Or.inl ⟨by kernel_rfl, fun W hW => ?y3⟩) hHeld ?r3
        · skip
          go_simp
        refine' wpAnyH_take (i := 3) (v := .map (some b)) rfl (by kernel_rfl) (by kernel_rfl) (by kernel_rfl) (fun _ _ _ h => h) (Or.inl ⟨by kernel_rfl, fun W hW => ?y4⟩) hHeld ?r4
        · have q1 := HWA.out.1 W hW
          go_simp
        refine' wpAnyH_take (i := 4) (v := .agg #[.int .u64 kx.1, .int .u64 kx.2]) rfl (by kernel_rfl) (by kernel_rfl) (by kernel_rfl) (fun _ _ _ h => h) (Or.inl ⟨by kernel_rfl, fun W hW => ?y5⟩) hHeld ?r5
        · obtain ⟨q2, q3⟩ := HWA.out.2.1 W hW
          go_simp
        refine' wpAnyH_take (i := 5) (v := .agg (evL e).toArray) rfl (by kernel_rfl) (by kernel_rfl) (by kernel_rfl) (fun _ _ _ h => h) (Or.inl ⟨by kernel_rfl, fun W hW => ?y6⟩) hHeld ?r6
        · have q4 := HWA.out.2.2 W hW
          go_simp
        simp only [List.getElem_toArray, List.getElem_cons_succ, List.getElem_cons_zero, Act.put, List.setIfInBounds_toArray, List.set_cons_zero, List.set_cons_succ]
        refine wpAnyH_ready (rs := [6]) (by kernel_rfl) (by simp) ?_
        refine AllReadyH.cons rfl (fun K hK => ?_) AllReadyH.nil
        go_simp
        refine hK.out _ _ ((Turn.refl no wa).drew.alloc _) (fun hHeld => ?_)
        clear hK
        refine wpAnyH_ready (rs := [7]) (by kernel_rfl) (by simp) ?_
        refine AllReadyH.cons rfl (fun K hK => ?_) AllReadyH.nil
        refine ite_mpr (by kernel_rfl) ?_
        refine wp_store_row 52 (.tmp 10) (.tmp 38) rfl wa.heap.size (evL e).toArray rfl rfl 52 ZE (heap_alloc_new _ _) iX sX oX ?_
        have TW : Turn no wa ((wa.alloc (.cells ZE 52)).drew.setRow wa.heap.size (evL e).toArray) := (((Turn.refl no wa).alloc (.cells ZE 52)).drew.of_no.trans (setRow_turn wa.heap.size (evL e).toArray) (fun _ _ e => e) : Turn (fun k => k = wa.heap.size) wa _).mono (fun i hi e => by
          have e' : i = wa.heap.size := e
          omega)
        have R10 : Row ((wa.alloc (.cells ZE 52)).drew.setRow wa.heap.size (evL e).toArray) wa.heap.size (evL e).toArray 52 := setRow_heap _ wa.heap.size ZE _ 52 (0, 0) (heap_alloc_new wa _)
        generalize (wa.alloc (.cells ZE 52)).drew.setRow wa.heap.size (evL e).toArray = w8 at *
        refine hK.out _ _ TW (fun hHeld => ?_)
        clear hK
        refine wpAnyH_done (by kernel_rfl) ?_ _
        go_simp
        obtain ⟨ow, hnew, hle, hB, hP, T⟩ := HI.out
        have Ta8 := Ta.then_no TW
        have T8 := T.then_no Ta8
        have hsr := T.size
        have hsa := Ta.size
        have RS8 : Row w8 w.heap.size SA 37 := HRS2.out.turn T8 (fun q => by
          have q' : w.heap.size = rp := q
          omega)
        have hv := HV.out w8 e (hB.turn_no Ta8) (HT02.out.of_no.trans T8 (fun _ _ e => e)) HEF.out
        obtain ⟨v, hvv⟩ : ∃ v, Hid (verE c P O age hh R e.1 e.2 = v) := ⟨_, rfl⟩
        rw [show verE c P O age hh R e.1 e.2 = v from hvv.out] at hv
        have hoke : ok e = decide (v = 0) := by rw [hok e, show verE c P O age hh R e.1 e.2 = v from hvv.out]
        have HOK := shut hoke
        have HI2 := shut (And.intro (ow.turn_no Ta8) (And.intro hnew (And.intro hle (And.intro (hP.turn_no Ta8) T8))))
        have HSZ := shut (And.intro hsr (And.intro hsa hs02))
        clear ow hnew hle hB hP T Ta TW T8 HI HWA hoke HLK RK z52 sX Ta8
        by_cases hv0 : v = 0
        · have hx2 : (v == 0) = true := by simp [hv0]
          have HV0 := shut hv0
          clear hv0
          go_upto_region 10 with (first | (guard_target =~ wpList _ _ _ ({ dst := some 39, .. } :: _) _ _; refine wpList_load_row rfl 37 (.tmp 4) rfl w.heap.size rfl 37 SA _ _ RS8 Tryz.underlying37 rfl iS ?_) | (guard_target =~ wpList _ _ _ ({ dst := some 41, .. } :: _) _ _; refine wpList_load_row rfl 52 (.tmp 10) rfl wa.heap.size rfl 52 (evL e).toArray _ _ R10 Tryz.underlying52 rfl iX ?_) | (go_at_call 12; refine hv.mono ?_; clear hv; rintro x w9 ⟨rfl, hB9, t9⟩))
          obtain ⟨ow, hnew, hle, hP, T⟩ := HI2.out
          obtain ⟨hsr, hsa, hs2⟩ := HSZ.out
          have hE1 := evL_len ⟨HEF.out.1.1, HEF.out.2.1⟩
          have T9 : Turn (fun k => k = rp) w2 w9 := T.trans t9 (fun _ _ e => e)
          have R10' : Row w9 wa.heap.size (evL e).toArray 52 := R10.turn t9 (fun q => by
            have q' : wa.heap.size = rp := q
            omega)
          have ow9 : OwnN w9 52 106 (.slice pa l.length pc) l.length (evsC l) := ow.turn t9 (fun g hg q => by
            have q' : g = rp := q
            have := hnew g hg
            omega)
          have hP9 := hP.turn t9 hnp hnb
          have hb1 := bslE w9 (evL e) hE1
          obtain ⟨zz, hinf, hzz⟩ := info52
          obtain ⟨v', wb, hrun, hown, hgr⟩ := run_append_srcN Tryz.underlying66 hinf hzz (by omega) 66 (w9.alloc (.cells (evL e).toArray 52)) (.slice pa l.length pc) l.length (evsC l) (ow9.turn_no ((Turn.refl no w9).alloc _)) _ 1 (evL e) (src_ev w9 (evL e) hE1 (evL_one e)) (by have := hle; omega) (by simp only [maxLen]; omega)
          have hs9 := T9.size
          have TX := ((Turn.refl no w9).alloc (.cells (evL e).toArray 52))
          have HEND : Shut (PkI w2.heap.size p b rp br bt V E R L (l ++ [e]) w2 v' wb) := by
            have tg := hgr.turn
            have hk0 : ∀ g, (Value.slice pa l.length pc).ownBlock = some g → w2.heap.size ≤ g := fun g hg => hnew g hg
            have hobj : ∀ g, (Value.slice pa l.length pc).ownBlock = some g → ∃ c, (w9.alloc (.cells (evL e).toArray 52)).heap[g]? = some (.cells c 52 (0, 0)) := fun g hg => (ow9.turn_no TX).obj hg
            have hpr := (hP9.turn_no TX).row
            refine ⟨by rw [evs_app]; simpa using hown, hgr.fresh hk0 (by have := TX.size; omega), ?_, (hB9.turn_no TX).turn tg (fun k hk q => ?_), (hP9.turn_no TX).turn tg (fun q => ?_) (fun q => ?_), (T9.then_no TX).trans tg (fun i hi q => ?_)⟩
            · have h1 : l.length = m := hm.out
              have h2 := H16.out
              simp
              omega
            · obtain ⟨cc, ho⟩ := hobj k q
              exact (hB9.turn_no TX).away ho (by decide) (by decide) hk
            · obtain ⟨cc, ho⟩ := hobj p q
              exact absurd (tag_ne ho hpr) (by decide)
            · obtain ⟨cc, ho⟩ := hobj b q
              obtain ⟨D, ⟨es, clock, ho2, _⟩, _⟩ := (hP9.turn_no TX).map
              rw [ho] at ho2
              cases ho2
            · have := hk0 i q
              omega
          rw [show l.length = m from hm.out] at hrun
          clear ow hnew hle hP T T9 ow9 hP9 hown hgr TX t9 hB9 RS8 R10 HI2 HSZ hinf hs9
          go_wp2_with (first | (guard_target =~ wpList _ _ _ ({ dst := some 45, .. } :: _) _ _; refine wpList_load_row rfl 52 (.tmp 10) rfl wa.heap.size rfl 52 (evL e).toArray _ _ R10' Tryz.underlying52 rfl iX ?_) | (guard_target =~ wpList _ _ _ ({ dst := some 46, .. } :: _) _ _; refine wpList_bsliceP rfl 66 (.tmp 45) rfl _ rfl _ _ hb1 ?_) | (at_builtin; refine wp_append_runP rfl (.tmp 44) (.tmp 46) rfl _ _ rfl rfl hrun ?_))
          go_roundw
          case rel =>
            refine ⟨k + 1, by omega, by go_num, ?_⟩
            have hp := pick_step ok HE.out.1 (by rw [HL.out, show l.length = m from hm.out]; have h1 : l.length = m := hm.out; have h2 := H16.out; omega)
            rw [hp, HL.out, if_pos (by rw [HOK.out, HV0.out]; rfl)]
            exact HEND
          case measure => simp [intOf]; omega
        · have hx2 : (v == 0) = false := by simp [hv0]
          have HV0 := shut hv0
          clear hv0
          go_wp2_with (first | (guard_target =~ wpList _ _ _ ({ dst := some 39, .. } :: _) _ _; refine wpList_load_row rfl 37 (.tmp 4) rfl w.heap.size rfl 37 SA _ _ RS8 Tryz.underlying37 rfl iS ?_) | (guard_target =~ wpList _ _ _ ({ dst := some 41, .. } :: _) _ _; refine wpList_load_row rfl 52 (.tmp 10) rfl wa.heap.size rfl 52 (evL e).toArray _ _ R10 Tryz.underlying52 rfl iX ?_) | (go_at_call 12; refine hv.mono ?_; clear hv; rintro x w9 ⟨rfl, hB9, t9⟩))
          obtain ⟨ow, hnew, hle, hP, T⟩ := HI2.out
          obtain ⟨hsr, hsa, hs2⟩ := HSZ.out
          go_roundw
          case rel =>
            refine ⟨k + 1, by omega, by go_num, ?_⟩
            have hp := pick_step ok HE.out.1 (by rw [HL.out, show l.length = m from hm.out]; have h1 : l.length = m := hm.out; have h2 := H16.out; omega)
            rw [hp, HL.out, if_neg (by rw [HOK.out]; simpa using HV0.out), List.append_nil]
            exact ⟨by rw [← show l.length = m from hm.out]; exact ow.turn t9 (fun g hg q => by
              have q' : g = rp := q
              have := hnew g hg
              omega), (fun g hg => hnew g (by rw [show l.length = m from hm.out]; exact hg)), hle, hB9, hP.turn t9 hnp hnb, T.trans t9 (fun _ _ e => e)⟩
          case measure => simp [intOf]; omega
    · have hkn : k = n := by omega
      subst hkn
      have hlt' : ¬ (k : Int) < (k : Int) := by omega
      have HI := shut (And.intro ow (And.intro hnew (And.intro hle (And.intro hB (And.intro hP T)))))
      have HL := shut hl
      rw [show l.length = m from hm.out]
      clear ow hnew hle hB hP T hI hl hlt
      go_wp2_with fail
      go_ret
      obtain ⟨ow, hnew, hle, hB, hP, T⟩ := HI.out
      have ex : pickL ok Sx = l := by
        have e1 : (Sx.take k).filter ok = Sx.filter ok := by rw [List.take_of_length_le (by rw [HLEN.out]; omega)]
        rw [pick_all ok (by rw [← e1, HL.out]; exact hle), ← e1, HL.out]
      refine ⟨_, rfl, Sx, HFIN.out.1, HFIN.out.2, by rw [ex, ← show l.length = m from hm.out]; exact ow, fun g hg => ?_, hB, hP, (HT02.out.of_no.trans T (fun _ _ e => e))⟩
      have := hnew g (by rw [show l.length = m from hm.out]; exact hg)
      omega
end Go.Proofs.YtgbcdjjnpadddaaGreatDoor
