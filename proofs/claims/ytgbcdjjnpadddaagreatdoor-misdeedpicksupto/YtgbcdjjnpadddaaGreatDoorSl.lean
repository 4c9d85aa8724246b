/- sealed: both sign a vote. -/
import Derived.Test.YtgbcdjjnpadddaaGreatDoorSk
namespace Go.Proofs.YtgbcdjjnpadddaaGreatDoor
open Go.RowKit Go.Maps Go.MuLone
set_option linter.unusedVariables false

def s01 : List UInt8 := [1, 0, 0, 0, 0, 0, 0, 0, 0, 0, 0, 0, 0, 0, 0, 0]
/-- What no registry owns stays. -/
def Kp (br bt : Nat) (w W : World) : Prop := (∀ (u : Nat) (cs : Array Value) (t : TypeId), Row w u cs t → t ≠ 135 → t ≠ 9 → t ≠ 138 → t ≠ 186 → Row W u cs t) ∧ ∀ (k : Nat) (es : Array MapEntry) (c : Nat), w.heap[k]? = some (.map es c) → k ≠ br → k ≠ bt → W.heap[k]? = some (.map es c)
theorem Kp.no {br bt : Nat} {w W : World} (t : Turn no w W) : Kp br bt w W := ⟨fun u cs e r _ _ _ _ => Row.turn r t (fun q => q), fun k es c ho _ _ => t.obj ho (fun q => q)⟩
theorem Kp.trans {br bt : Nat} {w W W' : World} (h : Kp br bt w W) (h' : Kp br bt W W') : Kp br bt w W' := ⟨fun u cs e r h1 h2 h3 h4 => h'.1 u cs e (h.1 u cs e r h1 h2 h3 h4) h1 h2 h3 h4, fun k es c ho h1 h2 => h'.2 k es c (h.2 k es c ho h1 h2) h1 h2⟩
theorem Kp.set {br bt : Nat} {w W W' : World} {g : Nat} (h : Kp br bt w W) (t : Turn (fun k => k = g) W W') (hg : w.heap.size ≤ g) : Kp br bt w W' := ⟨fun u cs e r h1 h2 h3 h4 => Row.turn (h.1 u cs e r h1 h2 h3 h4) t (fun q => by
  have q' : u = g := q
  have := r.lt
  omega), fun k es c ho h1 h2 => t.obj (h.2 k es c ho h1 h2) (fun q => by
  have q' : k = g := q
  have := lt_of_obj ho
  omega)⟩
/-- What the loop of sealed keeps. -/
def SeI (n0 : Nat) (w : World) (g p br bt q : Nat) (vm vo ve : Value) (E : List UInt64) (R : List Rec) (S1 S2 : List Nat) (gv gz : Nat) (vb : Value) (f : Int) (bs : List UInt8) (W : World) : Prop :=
  ∃ (x' : Vt) (V : UInt64 → Value) (vr : Value) (R' : List Rec), Wd n0 W g p br bt q vm vo ve vr V E R' E E S1 S2 ∧ Row W gv x'.cs.toArray 50 ∧ Row W gz zvt.cs.toArray 50 ∧ Own W 5 vb (bs.map bv) ∧ x'.fits ∧ x'.f = f ∧ (R' = R ∨ R' = noted R (UInt64.ofNat f.toNat) bs) ∧ Turn (Ab n0) w W ∧ Kp br bt w W
/-- What sealed returns. -/
def SeRet (n0 : Nat) (w : World) (g p br bt q : Nat) (vm vo ve : Value) (E : List UInt64) (R : List Rec) (S1 S2 : List Nat) (e : Ending) (W : World) : Prop :=
  ∃ (x' : Vt) (V : UInt64 → Value) (vr : Value) (R' : List Rec), e = .returned (.tuple #[.agg x'.cs.toArray, .bool true]) ∧ x'.fits ∧ Wd n0 W g p br bt q vm vo ve vr V E R' E E S1 S2 ∧ (R' = R ∨ ∃ a bs, bs.length ≤ 200 ∧ R' = noted R a bs) ∧ Turn (Ab n0) w W ∧ Kp br bt w W
theorem SeRet.of {n0 : Nat} {w : World} {g p br bt q : Nat} {vm vo ve : Value} {E : List UInt64} {R : List Rec} {S1 S2 : List Nat} {e : Ending} {W : World} (x' : Vt) (V : UInt64 → Value) (vr : Value) (R' : List Rec) (h1 : e = .returned (.tuple #[.agg x'.cs.toArray, .bool true])) (h2 : x'.fits) (h3 : Wd n0 W g p br bt q vm vo ve vr V E R' E E S1 S2) (h4 : R' = R ∨ ∃ a bs, bs.length ≤ 200 ∧ R' = noted R a bs) (h5 : Turn (Ab n0) w W) (h6 : Kp br bt w W) : SeRet n0 w g p br bt q vm vo ve E R S1 S2 e W := ⟨x', V, vr, R', h1, h2, h3, h4, h5, h6⟩
theorem zero41 (w : World) : (zeroValue 48).run Tryz.prog w = .ok (.agg ((List.replicate 16 (0 : UInt8)).map bv).toArray) w := by kernel_rfl
theorem zvt_one : zvt.cs.toArray.all (·.oneCell') = true := all_oneCell_toArray (Vt.one zvt)
theorem own_len {w : World} {e : TypeId} {v : Value} {xs : List Value} (h : Own w e v xs) : ∃ a cap, v = .slice a xs.length cap ∧ xs.length ≤ 9223372036854775807 := by
  by_cases hp : 0 < xs.length
  · obtain ⟨g, cap, e, h1, h2, _⟩ := h.at hp
    exact ⟨_, _, e, by simp only [maxLen] at h2; omega⟩
  · rcases h.shape with ⟨e, q⟩ | ⟨g, cap, cur, e, _, h1, h2, _⟩
    · subst q
      exact ⟨none, 0, e, by simp⟩
    · exact ⟨_, _, e, by omega⟩
/-- A signer's pointer, in the law's lists. -/
theorem own_pt {w : World} {e : TypeId} {a : Option Addr} {n c : Nat} {S : List Nat} (h : Own w e (.slice a n c) (S.map ptV)) {k s : Nat} (hs : S[k]? = some s) : ∃ ob, a = some ⟨ob, 0, none⟩ ∧ w.cell? ⟨ob, k, none⟩ = some (.pointer (some ⟨s, 0, none⟩)) := by
  have hk := (List.getElem?_eq_some_iff.1 hs).1
  obtain ⟨g, cap, e, _, _, hc⟩ := h.at (by rw [List.length_map]; omega)
  cases e
  exact ⟨g, rfl, hc k _ (by rw [List.getElem?_map, hs]; rfl)⟩
theorem Wd.vote {n0 : Nat} {W W' : World} {g p br bt q : Nat} {vm vo ve vr : Value} {V : UInt64 → Value} {E : List UInt64} {R : List Rec} {E1 E2 : List UInt64} {S1 S2 : List Nat} (h : Wd n0 W g p br bt q vm vo ve vr V E R E1 E2 S1 S2) {u : Nat} {cs : Array Value} (r : Row W u cs 50) (t : Turn (fun k => k = u) W W') : Wd n0 W' g p br bt q vm vo ve vr V E R E1 E2 S1 S2 := by
  have K : ∀ {e : TypeId}, e ≠ 50 → Kd (fun k => k = u) W e := fun he => row_kd r he
  exact ⟨h.row.off t (K (by decide)), h.bk.off t (fun k hk => by
    have e : k = u := hk
    subst e
    exact ⟨_, _, _, r, by decide, by decide⟩), h.rf.off t (K (by decide)) (K (by decide)) (K (by decide)), h.om.off t (K (by decide)), h.oo.off t (K (by decide)), h.l1, h.l2, fun k a s e1 e2 => Row.off (h.sg k a s e1 e2) t (K (by decide)), fun k a s e1 e2 => Row.off (h.rs k a s e1 e2) t (K (by decide)), h.lo, h.lv⟩
theorem alloc_set {w w' : World} {o : Obj} (t : Turn (fun k => k = w.heap.size) (w.alloc o) w') : Turn no w w' := (((Turn.refl no w).alloc o).of_no.trans t (fun _ _ e => e) : Turn (fun k => k = w.heap.size) w w').mono (fun i hi e => by
  have e' : i = w.heap.size := e
  omega)
theorem ab_fp {n0 : Nat} {W : World} {g p br bt q : Nat} {vm vo ve vr : Value} {V : UInt64 → Value} {E : List UInt64} {R : List Rec} {E1 E2 : List UInt64} {S1 S2 : List Nat} (h : Wd n0 W g p br bt q vm vo ve vr V E R E1 E2 S1 S2) {k : Nat} (hk : Fp p br bt V k) : n0 ≤ k := by
  rcases hk with rfl | rfl | rfl | ⟨b, hk⟩
  · exact h.lo.2.1
  · exact h.lo.2.2.1
  · exact h.lo.2.2.2.1
  · exact h.lv k (.inr (.inr (.inr (.inr ⟨b, hk⟩))))
theorem noted_len (R : List Rec) (a : UInt64) (s : List UInt8) : (noted R a s).length ≤ R.length + 1 := by
  unfold noted
  split
  · omega
  · simp
set_option maxRecDepth 100000 in
set_option maxHeartbeats 8000000 in
theorem sealed19 {n0 : Nat} {w : World} {g p br bt q : Nat} {vm vo ve vr : Value} {V : UInt64 → Value} {E : List UInt64} {R : List Rec} {S1 S2 : List Nat} (h : Wd n0 w g p br bt q vm vo ve vr V E R E E S1 S2) (hn : n0 ≤ w.heap.size) (h3 : 3 ≤ n0) (hl1 : Laid1 w) (hl0 : Laid0 w) (hE : E.length ≤ 1048576) (hR : R.length ≤ 4194304) (c : ByteArray) (x : Vt) (hx : x.fits) (right : Bool) :
    Calls Tryz.prog 27 #[.pointer (some ⟨g, 0, none⟩), .string c, .agg x.cs.toArray, .bool right] w (SeRet n0 w g p br bt q vm vo ve E R S1 S2) := by
  have z29 := zero29
  have z41 := zero41
  have sX : x.cs.toArray.size = 53 := x.size hx.1
  have hx1 : ({ x with se := s01 } : Vt).fits := ⟨⟨hx.1.1, rfl⟩, hx.2⟩
  have R0 : Row ((w.alloc (.cells x.cs.toArray 50)).alloc (.cells zvt.cs.toArray 50)) w.heap.size x.cs.toArray 50 := (Row.new w x.cs.toArray 50).alloc _
  have RZ : Row ((w.alloc (.cells x.cs.toArray 50)).alloc (.cells zvt.cs.toArray 50)) (w.heap.size + 1) zvt.cs.toArray 50 := Row.newAt _ _ _ _ (by simp)
  have T0 : Turn no w ((w.alloc (.cells x.cs.toArray 50)).alloc (.cells zvt.cs.toArray 50)) := ((Turn.refl no w).alloc _).alloc _
  have A1 := Row.setCells (s01.map bv) (o := 37) R0 (by rw [sX]; simp [s01])
  have B1 := RZ.turn (Turn.setCells (s01.map bv) (g := w.heap.size) (o := 37) (Turn.refl (fun k => k = w.heap.size) _) (fun _ => rfl)) (fun q => by omega)
  have T1 : Turn no w _ := Turn.setCells (s01.map bv) (g := w.heap.size) (o := 37) T0 (fun q => by omega)
  rw [seV hx.1 s01 rfl] at A1
  have hs1 : (s01.map bv).toArray.all (·.oneCell') = true := by kernel_rfl
  have th := there_of R0 37 16 (by omega)
  obtain ⟨x1, hx1e⟩ : ∃ x1 : Vt, x1 = { x with se := s01 } := ⟨_, rfl⟩
  rw [← hx1e] at A1 hx1
  have sX1 : x1.cs.toArray.size = 53 := x1.size hx1.1
  have iX1 : (Tryz.prog.info? 50).map (·.size) = some x1.cs.toArray.size := by rw [sX1]; exact qsize29
  have hv := rvoteBytes11 (((w.alloc (.cells x.cs.toArray 50)).alloc (.cells zvt.cs.toArray 50)).setCells w.heap.size 37 (s01.map bv)) c x1 hx1
  have HW := shut h
  clear hx1e hx sX R0 RZ T0 h
  go_enter Tryz.func27, Tryz.ntmps27
  go_upto_region 1 with fail
  generalize (w.alloc (.cells x.cs.toArray 50)).alloc (.cells zvt.cs.toArray 50) = w0 at *
  go_upto_region 2 with ((guard_target =~ wpList _ _ _ ({ dst := _, op := Op.store 48 _ _, .. } :: _) _ _; refine wpList_store_mid rfl 48 (.tmp 18) (.tmp 17) rfl w.heap.size 37 (s01.map bv).toArray rfl rfl th (by kernel_rfl) hs1 ?_))
  generalize w0.setCells w.heap.size 37 (s01.map bv) = w1 at *
  have HLD : Shut (Laid1 w ∧ Laid0 w) := ⟨hl1, hl0⟩
  clear th hs1 hl1 hl0
  generalize hXC1 : x1.cs.toArray = XC1 at *
  go_upto_region 3 with (first | (guard_target =~ wpList _ _ _ ({ dst := some 21, .. } :: _) _ _; refine wpList_load_row rfl 50 (.tmp 6) rfl w.heap.size rfl 50 XC1 _ _ A1 Tryz.underlying50 rfl iX1 ?_) | (go_at_call 52; refine hv.mono ?_; clear hv; rintro e w2 ⟨vb, rfl, OB, fB, t2⟩))
  obtain ⟨ba, bn, bc, evb⟩ := OB.shp
  have T2 := T1.then_no t2
  have A2 := Row.turn A1 t2 (fun q => q)
  have B2 := Row.turn B1 t2 (fun q => q)
  have HX1 : Shut (x1.fits ∧ x1.cs.toArray = XC1) := ⟨hx1, hXC1⟩
  have iZ : (Tryz.prog.info? 50).map (·.size) = some zvt.cs.toArray.size := by kernel_rfl
  clear A1 B1 T1 t2 hx1 hXC1
  obtain ⟨oa, oc, evo, hle⟩ := own_len HW.out.oo
  obtain ⟨ma, mc, evm, _⟩ := own_len HW.out.om
  have hL2 : S2.length = E.length := HW.out.l2
  have hL1 : S1.length = E.length := HW.out.l1
  rw [List.length_map, hL2] at evo hle
  rw [List.length_map, hL1] at evm
  subst evo
  subst evm
  subst evb
  by_cases hp : plainSv c x1 = 0
  · cases right with
    | true =>
      have hlen := stBv_len HX1.out.1.1 hp
      have hsb : sBv c x1 = stBv c x1 := by simp [sBv, hp]
      rw [hsb] at OB
      have hI0 : Shut (SeI n0 w g p br bt q (.slice ma E.length mc) (.slice oa E.length oc) ve E R S1 S2 w.heap.size (w.heap.size + 1) (.slice ba bn bc) x1.f (stBv c x1) w2) := ⟨x1, V, vr, R, HW.out.turn_no T2, by rw [HX1.out.2]; exact A2, B2, OB, HX1.out.1, rfl, .inl rfl, T2.of_no, Kp.no T2⟩
      rw [hp]
      clear hp hsb A2 B2 OB HX1 T2 iX1 sX1 HW
      generalize stBv c x1 = bs at *
      generalize x1.f = f at *
      clear fB
      obtain ⟨n, hnE⟩ : ∃ n, Hid (E.length = n) := ⟨_, rfl⟩
      rw [show E.length = n from hnE.out] at hI0 hle hE hL1 hL2 ⊢
      go_wp2_with fail
      go_loopw [12] (fun c wr => ∃ k : Nat, k ≤ n ∧ c = .int .i64 k ∧ Shut (SeI n0 w g p br bt q (.slice ma n mc) (.slice oa n oc) ve E R S1 S2 w.heap.size (w.heap.size + 1) (.slice ba bn bc) f bs wr)) (fun c _ => n - (intOf c).toNat)
      case atStart => exact ⟨0, by omega, rfl, hI0⟩
      case round =>
        obtain ⟨k, hk, rfl, hI⟩ := hrel
        clear hI0
        obtain ⟨x', V', vr', R', WD, RV, RZ, OB, hx', hf', hR', T, KP⟩ := hI.out
        clear hI
        have c3 := WD.row.cell 3 _ rfl
        by_cases hlt : k < n
        · obtain ⟨a, ha⟩ : ∃ a, E[k]? = some a := ⟨E[k]'(by rw [hnE.out]; exact hlt), List.getElem?_eq_getElem _⟩
          obtain ⟨u1, hu1⟩ : ∃ s, S1[k]? = some s := ⟨S1[k]'(by omega), List.getElem?_eq_getElem _⟩
          obtain ⟨u2, hu2⟩ : ∃ s, S2[k]? = some s := ⟨S2[k]'(by omega), List.getElem?_eq_getElem _⟩
          obtain ⟨ob, rfl, co⟩ := own_pt WD.oo hu2
          obtain ⟨mb, rfl, cm⟩ := own_pt WD.om hu1
          have hlt' : (k : Int) < (n : Int) := by omega
          have g1 := WD.sg k a u1 ha hu1
          have g2 := WD.rs k a u2 ha hu2
          have haE : Hid (a ∈ E) := List.mem_of_getElem? ha
          have TD := (Turn.refl no wr).drew
          have had := raddr30 wr.drew u2 q a (Row.turn g2 TD (fun q => q))
          have cf : wr.cell? ⟨w.heap.size, 36, none⟩ = some (.int .u64 f) := by rw [← hf']; exact RV.cell 36 _ (Vt.c36 hx'.1)
          have HALL := shut (And.intro WD (And.intro RV (And.intro RZ (And.intro OB (And.intro hx' (And.intro hf' (And.intro hR' (And.intro T (And.intro KP (And.intro g1 g2))))))))))
          have HU2 := shut hu2
          clear ha hu1 hu2 WD RV RZ OB hx' hf' hR' T KP g1 g2 hlt
          by_cases hq : (a.toNat : Int) = f
          · have hq' : ((a.toNat : Int) == f) = true := by simpa using hq
            go_upto_region 8 with fail
            refine wp_region_held_drew (S := fun W => Turn no wr W) (by kernel_rfl) (Turn.refl _ wr).drew (fun hHeld => ?_)
            refine' wpAnyH_take (i := 0) (v := .pointer (some ⟨g, 0, none⟩)) rfl (by kernel_rfl) (by kernel_rfl) (by kernel_rfl) (fun _ _ _ h => h) (Or.inl ⟨by kernel_rfl, fun W hW => ?y1⟩) hHeld ?r1
            · skip
              go_simp
            refine' wpAnyH_take (i := 1) (v := .pointer (some ⟨g, 0, none⟩)) rfl (by kernel_rfl) (by kernel_rfl) (by kernel_rfl) (fun _ _ _ h => h) (Or.inl ⟨by kernel_rfl, fun W hW => ?y2⟩) hHeld ?r2
            · skip
              go_simp
            refine' wpAnyH_take (i := 2) (v := .pointer (some ⟨g, 3, none⟩)) rfl (by kernel_rfl) (by kernel_rfl) (by kernel_rfl) (fun _ _ _ h => h) (Or.inl ⟨by kernel_rfl, fun W hW => ?y3⟩) hHeld ?r3
            · skip
              go_simp
            refine' wpAnyH_take (i := 3) (v := .slice (some ⟨ob, 0, none⟩) n oc) rfl (by kernel_rfl) (by kernel_rfl) (by kernel_rfl) (fun _ _ _ h => h) (Or.inl ⟨by kernel_rfl, fun W hW => ?y4⟩) hHeld ?r4
            · have c3 := hW.keep c3 (fun q => q)
              go_simp
            refine' wpAnyH_take (i := 4) (v := .int .i64 k) rfl (by kernel_rfl) (by kernel_rfl) (by kernel_rfl) (fun _ _ _ h => h) (Or.inl ⟨by kernel_rfl, fun W hW => ?y5⟩) hHeld ?r5
            · skip
              go_simp
            refine' wpAnyH_take (i := 5) (v := .pointer (some ⟨ob, k, none⟩)) rfl (by kernel_rfl) (by kernel_rfl) (by kernel_rfl) (fun _ _ _ h => h) (Or.inl ⟨by kernel_rfl, fun W hW => ?y6⟩) hHeld ?r6
            · skip
              go_simp
            refine' wpAnyH_take (i := 6) (v := .pointer (some ⟨u2, 0, none⟩)) rfl (by kernel_rfl) (by kernel_rfl) (by kernel_rfl) (fun _ _ _ h => h) (Or.inl ⟨by kernel_rfl, fun W hW => ?y7⟩) hHeld ?r7
            · have co := hW.keep co (fun q => q)
              go_simp
            refine' wpAnyH_take (i := 8) (v := .pointer (some ⟨w.heap.size, 36, none⟩)) rfl (by kernel_rfl) (by kernel_rfl) (by kernel_rfl) (fun _ _ _ h => h) (Or.inl ⟨by kernel_rfl, fun W hW => ?y8⟩) hHeld ?r8
            · skip
              go_simp
            refine' wpAnyH_take (i := 9) (v := .int .u64 f) rfl (by kernel_rfl) (by kernel_rfl) (by kernel_rfl) (fun _ _ _ h => h) (Or.inl ⟨by kernel_rfl, fun W hW => ?y9⟩) hHeld ?r9
            · have cf := hW.keep cf (fun q => q)
              go_simp
            refine wpAnyH_ready (rs := [7]) (by kernel_rfl) (by simp) ?_
            refine AllReadyH.cons rfl (fun K hK => ?_) AllReadyH.nil
            go_simp
            refine had.mono ?_
            rintro e w5 ⟨rfl, e5⟩
            have e5 := e5.symm
            subst e5
            go_wp2_with fail
            refine hK.out _ _ TD (fun hHeld => ?_)
            clear hK
            refine' wpAnyH_take (i := 10) (v := .bool true) rfl (by kernel_rfl) (by kernel_rfl) (by kernel_rfl) (fun _ _ _ h => h) (Or.inl ⟨by kernel_rfl, fun W hW => ?y10⟩) hHeld ?r10
            · skip
              go_simp
            refine wpAnyH_done (by kernel_rfl) ?_ _
            go_simp
            obtain ⟨WD, RV, RZ, OB, hx', hf', hR', T, KP, g1, g2⟩ := HALL.out
            have af : a = UInt64.ofNat f.toNat := by
              rw [← hq]
              simp
            have hRn : noted R' a bs = noted R (UInt64.ofNat f.toNat) bs := by
              rw [← af] at hR' ⊢
              rcases hR' with rfl | rfl
              · rfl
              · exact noted_twice _ _ _
            have hRl : R'.length ≤ 4194305 := by
              rcases hR' with rfl | rfl
              · omega
              · have := noted_len R (UInt64.ofNat f.toNat) bs; omega
            have TT := T.then_no TD
            have hsz0 := TT.size
            have L1 : Laid1 wr.drew := HLD.out.1.turn TT (fun e => by have e' : n0 ≤ 2 := e; omega)
            have hFp2 : ¬ Fp p br bt V' 2 := fun e => by have := ab_fp WD e; omega
            have HS1 := (WD.turn_no TD).bk.sign u1 a (Row.turn g1 TD (fun q => q)) haE.out (.slice ba bn bc) bs (OB.turn_no TD).bs (fun _ y hy => by
              obtain ⟨c', ho⟩ := (OB.turn_no TD).obj hy
              exact (WD.turn_no TD).bk.away ho (by decide) (by decide)) L1 (by omega) hFp2 (by omega) (by rw [hnE.out]; simp only [maxLen]; omega) (by omega)
            have HS2 : Shut (∀ W1 W2, Turn (Fp p br bt V') wr.drew W1 → Turn no W1 W2 → Calls Tryz.prog 55 #[.pointer (some ⟨u2, 0, none⟩), .slice ba bn bc] W2 fun e w' => e = .returned (.tuple #[.agg (sealV a bs), .int .i64 0]) ∧ ∃ vr1, Rf w' q ve vr1 E (noted R' a bs) ∧ (∀ g, vr1.ownBlock = some g → vr'.ownBlock = some g ∨ W2.heap.size ≤ g) ∧ Turn (fun k => k = q ∨ vr'.ownBlock = some k) W2 w') := fun W1 W2 t1 t2 => by
              obtain ⟨f2, k1, k2⟩ := WD.keep1 TD t1 t2
              have OB2 := k2 _ _ _ OB (by decide) (by decide)
              have T3 : Turn (Ab n0) w W2 := ((TT.trans t1 (fun i hi e => ab_fp WD e) : Turn (Ab n0) w W1)).then_no t2
              have hs3 := T3.size
              exact rsign42 f2 u2 a (k1 _ _ _ g2 (by decide) (by decide)) (.slice ba bn bc) bs OB2.bs (fun y hy => by
                obtain ⟨c', ho⟩ := OB2.obj hy
                refine ⟨fun e => ?_, fun e => ?_⟩
                · subst e
                  exact absurd (tag_ne ho f2.row) (by decide)
                · obtain ⟨c'', ho''⟩ := f2.orr.obj e
                  exact absurd (tag_ne ho ho'') (by decide)) (HLD.out.2.turn T3 (fun e => by have e' : n0 ≤ 1 := e; omega)) (by omega) (by have := WD.lo; omega) (fun e => by have := WD.lv 1 (.inr (.inr (.inr (.inl e)))); omega) (by omega) (by omega)
            have HC : Shut (∀ W1 W2, Turn (Fp p br bt V') wr.drew W1 → Turn no W1 W2 → W2.cell? ⟨g, 3, none⟩ = some (.slice (some ⟨ob, 0, none⟩) n oc) ∧ W2.cell? ⟨ob, k, none⟩ = some (.pointer (some ⟨u2, 0, none⟩))) := fun W1 W2 t1 t2 => by
              obtain ⟨f2, k1, k2⟩ := WD.keep1 TD t1 t2
              obtain ⟨ob', e, hc⟩ := own_pt (k2 _ _ _ WD.oo (by decide) (by decide)) HU2.out
              cases e
              exact ⟨(k1 _ _ _ WD.row (by decide) (by decide)).cell 3 _ rfl, hc⟩
            have HF : Shut (∀ W1 V1 W2 W3 vr1, Turn (Fp p br bt V') wr.drew W1 → Bk W1 p br bt V1 E (noted R' a bs) → (∀ b k, (V1 b).ownBlock = some k → (V' b).ownBlock = some k ∨ wr.drew.heap.size < k) → Turn no W1 W2 → Turn (fun k => k = q ∨ vr'.ownBlock = some k) W2 W3 → Rf W3 q ve vr1 E (noted R' a bs) → (∀ k, vr1.ownBlock = some k → vr'.ownBlock = some k ∨ W2.heap.size ≤ k) →
                Wd n0 W3 g p br bt q (.slice (some ⟨mb, 0, none⟩) n mc) (.slice (some ⟨ob, 0, none⟩) n oc) ve vr1 V1 E (noted R' a bs) E E S1 S2 ∧ Row W3 w.heap.size x'.cs.toArray 50 ∧ Row W3 (w.heap.size + 1) zvt.cs.toArray 50 ∧ Own W3 5 (.slice ba bn bc) (bs.map bv) ∧ Turn (Ab n0) w W3 ∧ Kp br bt w W3 ∧ (∀ u cs, Row W2 u cs 48 → Row W3 u cs 48)) := fun W1 V1 W2 W3 vr1 t1 b1 hV t2 t3 r3 hv => by
              obtain ⟨x1, x2⟩ := WD.signs (by have := T.size; omega) TD t1 b1 hV t2 t3 r3 hv
              obtain ⟨y1, y2, y3⟩ := WD.keep3 TD t1 t2 t3
              exact ⟨x1, y2 _ _ _ RV (by decide) (by decide) (by decide) (by decide), y2 _ _ _ RZ (by decide) (by decide) (by decide) (by decide), y3 _ _ _ OB (by decide) (by decide) (by decide) (by decide), T.trans x2 (fun _ _ e => e), KP.trans ⟨y2, WD.maps TD t1 t2 t3⟩, fun u cs r => y1 u cs 48 r (by decide) (by decide)⟩
            have c2 := (Row.turn WD.row TD (fun q => q)).cell 2 _ rfl
            have cm := TD.keep cm (fun q => q)
            have iS41 : (Tryz.prog.info? 48).map (·.size) = some (sealV a bs).size := by rw [sealV_size]; exact size33
            have oneS := sealV_one a bs
            have hsq : ∀ W, (Op.equalIn 10000 48 (.agg (sealV a bs)) (.agg (sealV a bs))).run Tryz.prog W = .ok true W := fun W => by
              have := eqIn33 W (sealB a bs) (sealB a bs) (sealB_len a bs) (sealB_len a bs)
              simpa [sealV] using this
            have sx' := x'.size hx'.1
            have HX' := shut (And.intro hx' hf')
            obtain ⟨SV, hSV⟩ : ∃ SV, Hid (sealV a bs = SV) := ⟨_, rfl⟩
            have sSV : SV.size = 16 := by rw [← hSV.out]; exact sealV_size a bs
            rw [show sealV a bs = SV from hSV.out] at HS1 HS2 iS41 oneS hsq
            obtain ⟨Z, z41', sZ⟩ : ∃ Z : Array Value, (∀ w, (zeroValue 48).run Tryz.prog w = .ok (.agg Z) w) ∧ Z.size = 16 := ⟨_, zero41, rfl⟩
            have sZS : Z.size = SV.size := by omega
            clear WD RV RZ OB hx' hf' hR' T KP g1 g2 HALL z41 TT L1 hFp2 hsz0 c3 co cf af
            go_upto_region 10 with (first | (go_at_call 54; refine HS1.mono ?_; clear HS1; rintro e w6 ⟨rfl, V6, B6, hV6, T6⟩) | (guard_target =~ wpList _ _ _ ({ dst := _, op := Op.store 48 _ _, .. } :: _) _ _; refine wpList_store_anyX rfl rfl 48 (.tmp 13) (.tmp 62) rfl w6.heap.size SV rfl rfl 48 Z (Row.new w6 Z 48) iS41 sZS oneS ?_; intro w7 R7 t7))
            have T67 : Turn no w6 w7 := alloc_set t7
            obtain ⟨c3, co⟩ := HC.out w6 w7 T6 T67
            have H2 := HS2.out w6 w7 T6 T67
            generalize w6.heap.size = g6 at *
            clear HC HS2 t7 c2 cm
            go_upto_region 11 with (first | (go_at_call 55; refine H2.mono ?_; clear H2; rintro e w8 ⟨rfl, vr8, F8, hv8, T8⟩) | (guard_target =~ wpList _ _ _ ({ dst := _, op := Op.store 48 _ _, .. } :: _) _ _; refine wpList_store_anyX rfl rfl 48 (.tmp 15) (.tmp 74) rfl w8.heap.size SV rfl rfl 48 Z (Row.new w8 Z 48) iS41 sZS oneS ?_; intro w9 R9 t9))
            have T89 : Turn no w8 w9 := alloc_set t9
            obtain ⟨WD, RV, RZ, OB, T, KP, k41⟩ := HF.out w6 V6 w7 w8 vr8 T6 B6 hV6 T67 T8 F8 hv8
            have R7' := Row.turn (k41 _ _ R7) T89 (fun q => q)
            have RV9 := Row.turn RV T89 (fun q => q)
            generalize w8.heap.size = g8 at *
            have th := there_of RV9 37 16 (by omega)
            rw [← sSV] at th
            have tv : Turn (fun k => k = w.heap.size) w9 (w9.setCells w.heap.size 37 SV.toList) := Turn.setCells SV.toList (g := w.heap.size) (o := 37) (Turn.refl (fun k => k = w.heap.size) w9) (fun _ => rfl)
            have HE : Shut (SeI n0 w g p br bt q (.slice (some ⟨mb, 0, none⟩) n mc) (.slice (some ⟨ob, 0, none⟩) n oc) ve E R S1 S2 w.heap.size (w.heap.size + 1) (.slice ba bn bc) f bs (w9.setCells w.heap.size 37 SV.toList)) := by
              refine ⟨{ x' with se := sealB a bs }, V6, vr8, noted R' a bs, (WD.turn_no T89).vote RV9 tv, ?_, Row.turn (Row.turn RZ T89 (fun q => q)) tv (fun e => by have e' : w.heap.size + 1 = w.heap.size := e; omega), (OB.turn_no T89).off tv (row_kd RV9 (by decide)), ⟨⟨HX'.out.1.1.1, sealB_len a bs⟩, HX'.out.1.2⟩, HX'.out.2, .inr hRn, (T.then_no T89).trans tv (fun i hi e => by
                have e' : i = w.heap.size := e
                omega), (KP.trans (Kp.no T89)).set tv (by omega)⟩
              have e1 : SV.toList = (sealB a bs).map bv := by rw [← hSV.out]; simp [sealV]
              have := Row.setCells SV.toList (o := 37) RV9 (by rw [Array.length_toList]; omega)
              rw [e1] at this ⊢
              rw [seV HX'.out.1.1 (sealB a bs) (sealB_len a bs)] at this
              exact this
            clear WD RV RZ OB T KP k41 HF T6 B6 hV6 T8 F8 hv8 tv T67 T89 t9 R7 c3 co
            go_wp2_with (first | (guard_target =~ wpList _ _ _ ({ dst := some 76, .. } :: _) _ _; refine wpList_load_row rfl 48 (.tmp 13) rfl g6 rfl 48 SV _ _ R7' Tryz.underlying48 rfl iS41 ?_) | (guard_target =~ wpList _ _ _ ({ dst := some 77, .. } :: _) _ _; refine wpList_load_row rfl 48 (.tmp 15) rfl g8 rfl 48 SV _ _ R9 Tryz.underlying48 rfl iS41 ?_) | (guard_target =~ wpList _ _ _ ({ dst := some 85, .. } :: _) _ _; refine wpList_load_row rfl 48 (.tmp 15) rfl g8 rfl 48 SV _ _ R9 Tryz.underlying48 rfl iS41 ?_) | (guard_target =~ wpList _ _ _ ({ dst := _, op := Op.store 48 _ _, .. } :: _) _ _; refine wpList_store_mid rfl 48 (.tmp 86) (.tmp 85) rfl w.heap.size 37 SV rfl rfl th iS41 oneS ?_))
            refine ⟨⟨k + 1, by omega, by go_num, HE⟩, ?_⟩
            simp [intOf]; omega
          · have hq' : ((a.toNat : Int) == f) = false := by simpa using hq
            have HE : Shut (SeI n0 w g p br bt q (.slice (some ⟨mb, 0, none⟩) n mc) (.slice (some ⟨ob, 0, none⟩) n oc) ve E R S1 S2 w.heap.size (w.heap.size + 1) (.slice ba bn bc) f bs wr.drew) := by
              obtain ⟨WD, RV, RZ, OB, hx', hf', hR', T, KP, _, _⟩ := HALL.out
              exact ⟨x', V', vr', R', WD.turn_no TD, Row.turn RV TD (fun q => q), Row.turn RZ TD (fun q => q), OB.turn_no TD, hx', hf', hR', T.then_no TD, KP.trans (Kp.no TD)⟩
            clear hq HALL
            go_upto_region 8 with fail
            refine wp_region_held_drew (S := fun W => Turn no wr W) (by kernel_rfl) (Turn.refl _ wr).drew (fun hHeld => ?_)
            refine' wpAnyH_take (i := 0) (v := .pointer (some ⟨g, 0, none⟩)) rfl (by kernel_rfl) (by kernel_rfl) (by kernel_rfl) (fun _ _ _ h => h) (Or.inl ⟨by kernel_rfl, fun W hW => ?y11⟩) hHeld ?r11
            · skip
              go_simp
            refine' wpAnyH_take (i := 1) (v := .pointer (some ⟨g, 0, none⟩)) rfl (by kernel_rfl) (by kernel_rfl) (by kernel_rfl) (fun _ _ _ h => h) (Or.inl ⟨by kernel_rfl, fun W hW => ?y12⟩) hHeld ?r12
            · skip
              go_simp
            refine' wpAnyH_take (i := 2) (v := .pointer (some ⟨g, 3, none⟩)) rfl (by kernel_rfl) (by kernel_rfl) (by kernel_rfl) (fun _ _ _ h => h) (Or.inl ⟨by kernel_rfl, fun W hW => ?y13⟩) hHeld ?r13
            · skip
              go_simp
            refine' wpAnyH_take (i := 3) (v := .slice (some ⟨ob, 0, none⟩) n oc) rfl (by kernel_rfl) (by kernel_rfl) (by kernel_rfl) (fun _ _ _ h => h) (Or.inl ⟨by kernel_rfl, fun W hW => ?y14⟩) hHeld ?r14
            · have c3 := hW.keep c3 (fun q => q)
              go_simp
            refine' wpAnyH_take (i := 4) (v := .int .i64 k) rfl (by kernel_rfl) (by kernel_rfl) (by kernel_rfl) (fun _ _ _ h => h) (Or.inl ⟨by kernel_rfl, fun W hW => ?y15⟩) hHeld ?r15
            · skip
              go_simp
            refine' wpAnyH_take (i := 5) (v := .pointer (some ⟨ob, k, none⟩)) rfl (by kernel_rfl) (by kernel_rfl) (by kernel_rfl) (fun _ _ _ h => h) (Or.inl ⟨by kernel_rfl, fun W hW => ?y16⟩) hHeld ?r16
            · skip
              go_simp
            refine' wpAnyH_take (i := 6) (v := .pointer (some ⟨u2, 0, none⟩)) rfl (by kernel_rfl) (by kernel_rfl) (by kernel_rfl) (fun _ _ _ h => h) (Or.inl ⟨by kernel_rfl, fun W hW => ?y17⟩) hHeld ?r17
            · have co := hW.keep co (fun q => q)
              go_simp
            refine' wpAnyH_take (i := 8) (v := .pointer (some ⟨w.heap.size, 36, none⟩)) rfl (by kernel_rfl) (by kernel_rfl) (by kernel_rfl) (fun _ _ _ h => h) (Or.inl ⟨by kernel_rfl, fun W hW => ?y18⟩) hHeld ?r18
            · skip
              go_simp
            refine' wpAnyH_take (i := 9) (v := .int .u64 f) rfl (by kernel_rfl) (by kernel_rfl) (by kernel_rfl) (fun _ _ _ h => h) (Or.inl ⟨by kernel_rfl, fun W hW => ?y19⟩) hHeld ?r19
            · have cf := hW.keep cf (fun q => q)
              go_simp
            refine wpAnyH_ready (rs := [7]) (by kernel_rfl) (by simp) ?_
            refine AllReadyH.cons rfl (fun K hK => ?_) AllReadyH.nil
            go_simp
            refine had.mono ?_
            rintro e w5 ⟨rfl, e5⟩
            have e5 := e5.symm
            subst e5
            go_wp2_with fail
            refine hK.out _ _ TD (fun hHeld => ?_)
            clear hK
            refine' wpAnyH_take (i := 10) (v := .bool false) rfl (by kernel_rfl) (by kernel_rfl) (by kernel_rfl) (fun _ _ _ h => h) (Or.inl ⟨by kernel_rfl, fun W hW => ?y20⟩) hHeld ?r20
            · skip
              go_simp
            refine wpAnyH_done (by kernel_rfl) ?_ _
            go_simp
            go_wp2_with fail
            refine ⟨⟨k + 1, by omega, by go_num, HE⟩, ?_⟩
            simp [intOf]; omega
        · have hkn : k = n := by omega
          subst hkn
          have hlt' : ¬ (k : Int) < (k : Int) := by omega
          have iX' : (Tryz.prog.info? 50).map (·.size) = some x'.cs.toArray.size := by rw [x'.size hx'.1]; exact qsize29
          have one1 : x'.cs.toArray.all (·.oneCell') = true := all_oneCell_toArray (Vt.one x')
          have sZ1 : zvt.cs.toArray.size = x'.cs.toArray.size := by rw [x'.size hx'.1]; kernel_rfl
          have HWD := shut (And.intro WD (And.intro hx' (And.intro hR' (And.intro T KP))))
          obtain ⟨XC, hXC⟩ : ∃ XC, Hid (x'.cs.toArray = XC) := ⟨_, rfl⟩
          rw [show x'.cs.toArray = XC from hXC.out] at RV iX' one1 sZ1
          clear WD OB hx' hR' T KP hlt
          go_wp2_with (first | (guard_target =~ wpList _ _ _ ({ dst := some 87, .. } :: _) _ _; refine wpList_load_row rfl 50 (.tmp 6) rfl w.heap.size rfl 50 XC _ _ RV Tryz.underlying50 rfl iX' ?_) | (guard_target =~ wpList _ _ _ ({ dst := _, op := Op.store 50 _ _, .. } :: _) _ _; refine wpList_store_anyX rfl rfl 50 (.tmp 8) (.tmp 87) rfl (w.heap.size + 1) XC rfl rfl 50 zvt.cs.toArray RZ iX' sZ1 one1 ?_; intro w3 R3 t3))
          obtain ⟨WD, hx', hR', T, KP⟩ := HWD.out
          have tz : Turn (Ab n0) w w3 := T.trans t3 (fun i hi e => by
            have e' : i = w.heap.size + 1 := e
            omega)
          exact ⟨rfl, _, results_cell_row_tmpQ (g := w.heap.size + 1) (cs := XC) (t := 50) rfl _ _ _ _ rfl R3 Tryz.underlying50 rfl iX', SeRet.of x' V' vr' R' (by rw [hXC.out]; rfl) hx' (by first | exact WD.vote RZ t3 | (rw [hnE.out]; exact WD.vote RZ t3)) (hR'.imp_right (fun e => ⟨_, bs, hlen, e⟩)) tz (KP.set t3 (by omega))⟩
    | false =>
      have hp' := hp
      clear hp'
      have HT2 := shut T2
      have one1 : XC1.all (·.oneCell') = true := by rw [← HX1.out.2]; exact all_oneCell_toArray (Vt.one x1)
      have sZ1 : zvt.cs.toArray.size = XC1.size := by rw [sX1]; kernel_rfl
      clear OB fB iZ T2
      go_wp2_with (first | (guard_target =~ wpList _ _ _ ({ dst := some 31, .. } :: _) _ _; refine wpList_load_row rfl 50 (.tmp 6) rfl w.heap.size rfl 50 XC1 _ _ A2 Tryz.underlying50 rfl iX1 ?_) | (guard_target =~ wpList _ _ _ ({ dst := _, op := Op.store 50 _ _, .. } :: _) _ _; refine wpList_store_anyX rfl rfl 50 (.tmp 8) (.tmp 31) rfl (w.heap.size + 1) XC1 rfl rfl 50 zvt.cs.toArray B2 iX1 sZ1 one1 ?_; intro w3 R3 t3))
      have T3 : Turn no w w3 := HT2.out.trans t3 (fun i hi e => by
        have e' : i = w.heap.size + 1 := e
        omega)
      exact ⟨rfl, _, results_cell_row_tmpQ (g := w.heap.size + 1) (cs := XC1) (t := 50) rfl _ _ _ _ rfl R3 Tryz.underlying50 rfl iX1, SeRet.of x1 V vr R (by rw [HX1.out.2]; rfl) HX1.out.1 (HW.out.turn_no T3) (.inl rfl) T3.of_no (Kp.no T3)⟩
  · have hp' : (plainSv c x1 != 0) = true := by simpa using hp
    generalize plainSv c x1 = pl at *
    have HT2 := shut T2
    have one1 : XC1.all (·.oneCell') = true := by rw [← HX1.out.2]; exact all_oneCell_toArray (Vt.one x1)
    have sZ1 : zvt.cs.toArray.size = XC1.size := by rw [sX1]; kernel_rfl
    clear OB fB iZ T2
    go_wp2_with (first | (guard_target =~ wpList _ _ _ ({ dst := some 31, .. } :: _) _ _; refine wpList_load_row rfl 50 (.tmp 6) rfl w.heap.size rfl 50 XC1 _ _ A2 Tryz.underlying50 rfl iX1 ?_) | (guard_target =~ wpList _ _ _ ({ dst := _, op := Op.store 50 _ _, .. } :: _) _ _; refine wpList_store_anyX rfl rfl 50 (.tmp 8) (.tmp 31) rfl (w.heap.size + 1) XC1 rfl rfl 50 zvt.cs.toArray B2 iX1 sZ1 one1 ?_; intro w3 R3 t3))
    have T3 : Turn no w w3 := HT2.out.trans t3 (fun i hi e => by
      have e' : i = w.heap.size + 1 := e
      omega)
    exact ⟨rfl, _, results_cell_row_tmpQ (g := w.heap.size + 1) (cs := XC1) (t := 50) rfl _ _ _ _ rfl R3 Tryz.underlying50 rfl iX1, SeRet.of x1 V vr R (by rw [HX1.out.2]; rfl) HX1.out.1 (HW.out.turn_no T3) (.inl rfl) T3.of_no (Kp.no T3)⟩
end Go.Proofs.YtgbcdjjnpadddaaGreatDoor

