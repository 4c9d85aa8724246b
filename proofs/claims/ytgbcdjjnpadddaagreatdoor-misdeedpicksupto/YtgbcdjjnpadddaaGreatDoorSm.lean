/- shown: what the law shows of two votes. -/
import Derived.Test.YtgbcdjjnpadddaaGreatDoorSl
namespace Go.Proofs.YtgbcdjjnpadddaaGreatDoor
open Go.RowKit Go.Maps Go.MuLone
set_option linter.unusedVariables false

/-- Two votes, as they are handed in. -/
def twC (a b : Vt) (r0 r1 sw : Bool) : Array Value := (a.cs ++ (b.cs ++ [Value.bool r0, Value.bool r1, Value.bool sw])).toArray
theorem twC_at {w : World} {u : Nat} {a b : Vt} {r0 r1 sw : Bool} (ha : a.ok) (hb : b.ok) (r : Row w u (twC a b r0 r1 sw) 57) : w.rangeAt u 0 a.cs ∧ w.rangeAt u 53 b.cs ∧ w.cell? ⟨u, 106, none⟩ = some (.bool r0) ∧ w.cell? ⟨u, 107, none⟩ = some (.bool r1) ∧ w.cell? ⟨u, 108, none⟩ = some (.bool sw) := by
  have la := a.len ha
  have lb := b.len hb
  have hc : ∀ j v, (a.cs ++ (b.cs ++ [Value.bool r0, Value.bool r1, Value.bool sw]))[j]? = some v → w.cell? ⟨u, j, none⟩ = some v := fun j v hv => r.cell j v (by simpa [twC] using hv)
  refine ⟨fun j v hv => ?_, fun j v hv => ?_, hc 106 _ ?_, hc 107 _ ?_, hc 108 _ ?_⟩
  · rw [Nat.zero_add]
    refine hc j v ?_
    rw [List.getElem?_append_left (List.getElem?_eq_some_iff.1 hv).1]
    exact hv
  · refine hc (53 + j) v ?_
    rw [List.getElem?_append_right (by omega), la, show 53 + j - 53 = j by omega, List.getElem?_append_left (List.getElem?_eq_some_iff.1 hv).1]
    exact hv
  · rw [List.getElem?_append_right (by omega), la, List.getElem?_append_right (by omega), lb]; rfl
  · rw [List.getElem?_append_right (by omega), la, List.getElem?_append_right (by omega), lb]; rfl
  · rw [List.getElem?_append_right (by omega), la, List.getElem?_append_right (by omega), lb]; rfl
/-- Records without doubles, short and few. -/
def RM (N : Nat) (R R' : List Rec) : Prop := (∀ r ∈ R, r ∈ R') ∧ R'.length ≤ R.length + N
theorem RM.refl (R : List Rec) : RM 0 R R := ⟨fun _ h => h, Nat.le_refl _⟩
theorem mem_noted {R : List Rec} {a : UInt64} {s : List UInt8} {r : Rec} (h : r ∈ R) : r ∈ noted R a s := by
  unfold noted
  split
  · exact h
  · exact List.mem_append_left _ h
theorem RM.more {N : Nat} {R R1 R2 : List Rec} (h : RM N R R1) (h' : R2 = R1 ∨ ∃ a bs, bs.length ≤ 200 ∧ R2 = noted R1 a bs) : RM (N + 1) R R2 := by
  rcases h' with rfl | ⟨a, bs, _, rfl⟩
  · exact ⟨h.1, by have := h.2; omega⟩
  · exact ⟨fun r hr => mem_noted (h.1 r hr), by have := h.2; have := noted_len R1 a bs; omega⟩
theorem vt_id {w : World} {u : Nat} {x : Vt} {t : TypeId} (r : Row w u x.cs.toArray t) : w.rangeAt u 3 (x.id.map bv) := fun j v hv => by
  refine r.cell (3 + j) v ?_
  simp only [Vt.cs, List.getElem?_toArray]
  rw [show 3 + j = j + 1 + 1 + 1 by omega]
  simp only [List.getElem?_cons_succ]
  rw [List.getElem?_append_left (List.getElem?_eq_some_iff.1 hv).1]
  exact hv
theorem Wd.off52 {n0 : Nat} {W W' : World} {g p br bt q : Nat} {vm vo ve vr : Value} {V : UInt64 → Value} {E : List UInt64} {R : List Rec} {E1 E2 : List UInt64} {S1 S2 : List Nat} (h : Wd n0 W g p br bt q vm vo ve vr V E R E1 E2 S1 S2) {u : Nat} {cs : Array Value} (r : Row W u cs 52) (t : Turn (fun k => k = u) W W') : Wd n0 W' g p br bt q vm vo ve vr V E R E1 E2 S1 S2 := by
  have K : ∀ {e : TypeId}, e ≠ 52 → Kd (fun k => k = u) W e := fun he => row_kd r he
  exact ⟨h.row.off t (K (by decide)), h.bk.off t (fun k hk => by
    have e : k = u := hk
    subst e
    exact ⟨_, _, _, r, by decide, by decide⟩), h.rf.off t (K (by decide)) (K (by decide)) (K (by decide)), h.om.off t (K (by decide)), h.oo.off t (K (by decide)), h.l1, h.l2, fun k a s e1 e2 => Row.off (h.sg k a s e1 e2) t (K (by decide)), fun k a s e1 e2 => Row.off (h.rs k a s e1 e2) t (K (by decide)), h.lo, h.lv⟩
def ShRet (n0 : Nat) (w : World) (g p br bt q : Nat) (vm vo ve : Value) (E : List UInt64) (R0 : List Rec) (S1 S2 : List Nat) (e : Ending) (W : World) : Prop :=
  ∃ (a b : Vt) (V : UInt64 → Value) (vr : Value) (R : List Rec), e = .returned (.tuple #[.agg (evC a b), .bool true]) ∧ a.fits ∧ b.fits ∧ Wd n0 W g p br bt q vm vo ve vr V E R E E S1 S2 ∧ RM 2 R0 R ∧ Turn (Ab n0) w W ∧ Kp br bt w W
theorem ShRet.of {n0 : Nat} {w : World} {g p br bt q : Nat} {vm vo ve : Value} {E : List UInt64} {R0 : List Rec} {S1 S2 : List Nat} {e : Ending} {W : World} (a b : Vt) (V : UInt64 → Value) (vr : Value) (R : List Rec) (h1 : e = .returned (.tuple #[.agg (evC a b), .bool true])) (h2 : a.fits) (h3 : b.fits) (h4 : Wd n0 W g p br bt q vm vo ve vr V E R E E S1 S2) (h5 : RM 2 R0 R) (h6 : Turn (Ab n0) w W) (h7 : Kp br bt w W) : ShRet n0 w g p br bt q vm vo ve E R0 S1 S2 e W := ⟨a, b, V, vr, R, h1, h2, h3, h4, h5, h6, h7⟩
set_option maxRecDepth 100000 in
set_option maxHeartbeats 8000000 in
theorem shown6 {n0 : Nat} {w : World} {g p br bt q : Nat} {vm vo ve vr : Value} {V : UInt64 → Value} {E : List UInt64} {R : List Rec} {S1 S2 : List Nat} (h : Wd n0 w g p br bt q vm vo ve vr V E R E E S1 S2) (hR : R.length + 2 ≤ 4194304) (hn : n0 ≤ w.heap.size) (h3 : 3 ≤ n0) (hl1 : Laid1 w) (hl0 : Laid0 w) (hE : E.length ≤ 1048576) (c : ByteArray) (a b : Vt) (ha : a.fits) (hb : b.fits) (r0 r1 sw : Bool) :
    Calls Tryz.prog 8 #[.pointer (some ⟨g, 0, none⟩), .string c, .agg (twC a b r0 r1 sw)] w (ShRet n0 w g p br bt q vm vo ve E R S1 S2) := by
  have z32 := zero32
  have z29 := zero29
  have sZ : (evC zvt zvt).size = 106 := evC_size zvt_ok zvt_ok
  have R0 : Row ((w.alloc (.cells (twC a b r0 r1 sw) 57)).alloc (.cells (evC zvt zvt) 52)) w.heap.size (twC a b r0 r1 sw) 57 := (Row.new w (twC a b r0 r1 sw) 57).alloc _
  have RZ : Row ((w.alloc (.cells (twC a b r0 r1 sw) 57)).alloc (.cells (evC zvt zvt) 52)) (w.heap.size + 1) (evC zvt zvt) 52 := Row.newAt _ _ _ _ (by simp)
  have T0 : Turn no w ((w.alloc (.cells (twC a b r0 r1 sw) 57)).alloc (.cells (evC zvt zvt) 52)) := ((Turn.refl no w).alloc _).alloc _
  have i43 : (Tryz.prog.info? 50).map (·.size) = some a.cs.length := by rw [a.len ha.1]; exact qsize29
  have j43 : (Tryz.prog.info? 50).map (·.size) = some b.cs.length := by rw [b.len hb.1]; exact qsize29
  have HAT : Shut (∀ W, Row W w.heap.size (twC a b r0 r1 sw) 57 → W.rangeAt w.heap.size 0 a.cs ∧ W.rangeAt w.heap.size 53 b.cs ∧ W.cell? ⟨w.heap.size, 106, none⟩ = some (.bool r0) ∧ W.cell? ⟨w.heap.size, 107, none⟩ = some (.bool r1) ∧ W.cell? ⟨w.heap.size, 108, none⟩ = some (.bool sw)) := fun W r => twC_at ha.1 hb.1 r
  obtain ⟨ra, rb, c6, c7, c8⟩ := HAT.out _ R0
  have HR := shut (And.intro R0 RZ)
  obtain ⟨w0, hw0⟩ : ∃ w0, (w.alloc (.cells (twC a b r0 r1 sw) 57)).alloc (.cells (evC zvt zvt) 52) = w0 := ⟨_, rfl⟩
  rw [hw0] at R0 RZ T0 HR ra rb c6 c7 c8
  have hw0 : (w.alloc (.cells (twC a b r0 r1 sw) 57)).alloc (.cells (evC zvt zvt) 52) = w0 := hw0
  have hs0 := T0.size
  have hss := sealed19 (h.turn_no T0) (by omega) h3 (hl1.turn T0 (fun q => q)) (hl0.turn T0 (fun q => q)) hE (by omega) c a ha r0
  have HS2 : Shut (∀ W V1 vr1 R1, Wd n0 W g p br bt q vm vo ve vr1 V1 E R1 E E S1 S2 → Turn (Ab n0) w W → R1.length ≤ 4194304 → Calls Tryz.prog 27 #[.pointer (some ⟨g, 0, none⟩), .string c, .agg b.cs.toArray, .bool r1] W (SeRet n0 W g p br bt q vm vo ve E R1 S1 S2)) := fun W V1 vr1 R1 hW t hR => sealed19 hW (by have := t.size; omega) h3 (hl1.turn t (fun e => by have e' : n0 ≤ 2 := e; omega)) (hl0.turn t (fun e => by have e' : n0 ≤ 1 := e; omega)) hE hR c b hb r1
  have HT0 := shut T0
  clear h hl1 hl0 T0 R0 RZ
  generalize hTW : twC a b r0 r1 sw = TW at *
  clear hTW
  generalize a.cs = A at *
  generalize b.cs = B at *
  obtain ⟨ZE, hZE⟩ : ∃ ZE, Hid (evC zvt zvt = ZE) := ⟨_, rfl⟩
  rw [show evC zvt zvt = ZE from hZE.out] at HR hw0 z32 sZ
  have iZ : (Tryz.prog.info? 50).map (·.size) = some zvt.cs.toArray.size := by kernel_rfl
  obtain ⟨ZV, hZV⟩ : ∃ ZV, Hid (zvt.cs.toArray = ZV) := ⟨_, rfl⟩
  rw [show zvt.cs.toArray = ZV from hZV.out] at z29 iZ
  have sZV : ZV.size = 53 := by rw [← hZV.out]; kernel_rfl
  go_enter Tryz.func8, Tryz.ntmps8
  go_upto_region 1 with fail
  try rw [hw0]
  clear hw0
  go_upto_region 2 with (first | (guard_target =~ wpList _ _ _ ({ dst := some 16, .. } :: _) _ _; refine wpList_load_midG (by kernel_rfl) 50 (.tmp 15) rfl w.heap.size 0 rfl A _ ra Tryz.underlying50 rfl i43 ?_) | (go_at_call 27; refine hss.mono ?_; clear hss; rintro e w1 ⟨x1, V1, vr1, R1, rfl, hx1, W1, hR1, T1, K1⟩; have sx1 := x1.size hx1.1; have ix1 : (Tryz.prog.info? 50).map (·.size) = some x1.cs.toArray.size := (by rw [sx1]; exact qsize29); have ox1 := all_oneCell_toArray (Vt.one x1)) | (guard_target =~ wpList _ _ _ ({ dst := _, op := Op.store 50 _ _, .. } :: _) _ _; refine wpList_store_anyX rfl rfl 50 (.tmp 8) (.tmp 21) rfl w1.heap.size x1.cs.toArray rfl rfl 50 ZV (Row.new w1 ZV 50) ix1 (by rw [sZV, sx1]) ox1 ?_; intro w2 R2 t2))
  have T12 : Turn no w1 w2 := alloc_set t2
  have W2 := W1.turn_no T12
  have T02 : Turn (Ab n0) w w2 := (HT0.out.of_no.trans T1 (fun _ _ e => e)).then_no T12
  obtain ⟨R0, RZ⟩ := HR.out
  have R0 := Row.turn (K1.1 _ _ _ R0 (by decide) (by decide) (by decide) (by decide)) T12 (fun q => q)
  have RZ := Row.turn (K1.1 _ _ _ RZ (by decide) (by decide) (by decide) (by decide)) T12 (fun q => q)
  have hRR1 : RM 1 R R1 := RM.more (RM.refl R) hR1
  have hKa : Kp br bt w w2 := ((Kp.no HT0.out).trans K1).trans (Kp.no T12)
  have hss2 := HS2.out w2 V1 vr1 R1 W2 T02 (by have := hRR1.2; omega)
  have HX1 := shut hx1
  generalize w1.heap.size = g8 at *
  clear ra rb c6 c7 c8 HR t2 T1 K1 W1 T12 HT0 HS2 hR1 W2 hx1
  obtain ⟨ra, rb, c6, c7, c8⟩ := HAT.out _ R0
  have HK2 := shut (And.intro R0 (And.intro RZ R2))
  clear R0 RZ R2
  go_upto_region 3 with (first | (guard_target =~ wpList _ _ _ ({ dst := some 27, .. } :: _) _ _; refine wpList_load_midG (by kernel_rfl) 50 (.tmp 26) rfl w.heap.size 53 rfl B _ rb Tryz.underlying50 rfl j43 ?_) | (go_at_call 27; refine hss2.mono ?_; clear hss2; rintro e w3 ⟨x2, V2, vr2, R2, rfl, hx2, W3, hR2, T3, K3⟩; have sx2 := x2.size hx2.1; have ix2 : (Tryz.prog.info? 50).map (·.size) = some x2.cs.toArray.size := (by rw [sx2]; exact qsize29); have ox2 := all_oneCell_toArray (Vt.one x2)) | (guard_target =~ wpList _ _ _ ({ dst := _, op := Op.store 50 _ _, .. } :: _) _ _; refine wpList_store_anyX rfl rfl 50 (.tmp 10) (.tmp 32) rfl w3.heap.size x2.cs.toArray rfl rfl 50 ZV (Row.new w3 ZV 50) ix2 (by rw [sZV, sx2]) ox2 ?_; intro w4 R4 t4))
  have T34 : Turn no w3 w4 := alloc_set t4
  have T04 : Turn (Ab n0) w w4 := (T02.trans T3 (fun _ _ e => e)).then_no T34
  obtain ⟨R0, RZ, RA⟩ := HK2.out
  have R0 := Row.turn (K3.1 _ _ _ R0 (by decide) (by decide) (by decide) (by decide)) T34 (fun q => q)
  have RZ := Row.turn (K3.1 _ _ _ RZ (by decide) (by decide) (by decide) (by decide)) T34 (fun q => q)
  have RA := Row.turn (K3.1 _ _ _ RA (by decide) (by decide) (by decide) (by decide)) T34 (fun q => q)
  have hRR2 : RM 2 R R2 := hRR1.more hR2
  have hKb : Kp br bt w w4 := (hKa.trans K3).trans (Kp.no T34)
  have hle4 : w.heap.size + 1 < w4.heap.size := RZ.lt
  have HW4 := shut (And.intro (W3.turn_no T34) (And.intro T04 (And.intro hRR2 (And.intro hx2 hKb))))
  generalize w3.heap.size = g10 at *
  clear ra rb c6 c7 c8 t4 T3 K3 W3 T34 T02 HK2 hR2 T04
  obtain ⟨ra, rb, c6, c7, c8⟩ := HAT.out _ R0
  have hbe := below13 w4.drew x2.id x1.id hx2.1.1 HX1.out.1.1
  have HID : Shut (∀ W, Turn no w4 W → W.rangeAt g10 3 (x2.id.map bv) ∧ W.rangeAt g8 3 (x1.id.map bv) ∧ W.cell? ⟨w.heap.size, 108, none⟩ = some (.bool sw)) := fun W t => ⟨vt_id (Row.turn R4 t (fun q => q)), vt_id (Row.turn RA t (fun q => q)), t.keep c8 (fun q => q)⟩
  have iI2 : (Tryz.prog.info? 26).map (·.size) = some (x2.id.map bv).length := by rw [List.length_map, hx2.1.1]; kernel_rfl
  have iI1 : (Tryz.prog.info? 26).map (·.size) = some (x1.id.map bv).length := by rw [List.length_map, HX1.out.1.1]; kernel_rfl
  have HKW : Shut (∀ W, Turn no w4 W → Row W g8 x1.cs.toArray 50 ∧ Row W g10 x2.cs.toArray 50 ∧ Row W (w.heap.size + 1) ZE 52) := fun W t => ⟨Row.turn RA t (fun q => q), Row.turn R4 t (fun q => q), Row.turn RZ t (fun q => q)⟩
  have bab := built32 x1.cs.toArray x2.cs.toArray sx1 sx2
  have bba := built32 x2.cs.toArray x1.cs.toArray sx2 sx1
  have eab : x1.cs.toArray ++ x2.cs.toArray = evC x1 x2 := by simp [evC]
  have eba : x2.cs.toArray ++ x1.cs.toArray = evC x2 x1 := by simp [evC]
  rw [eab] at bab
  rw [eba] at bba
  have iab : (Tryz.prog.info? 52).map (·.size) = some (evC x1 x2).size := by rw [evC_size HX1.out.1 hx2.1]; exact size32
  have iba : (Tryz.prog.info? 52).map (·.size) = some (evC x2 x1).size := by rw [evC_size hx2.1 HX1.out.1]; exact size32
  have zab : ZE.size = (evC x1 x2).size := by rw [evC_size HX1.out.1 hx2.1]; exact sZ
  have zba : ZE.size = (evC x2 x1).size := by rw [evC_size hx2.1 HX1.out.1]; exact sZ
  have oab := evC_one x1 x2
  have oba := evC_one x2 x1
  have HAB : Shut (∀ W, Turn (fun k => k = w.heap.size + 1) w4 W → (∀ e, e = .returned (.tuple #[.agg (evC x1 x2), .bool true]) → ShRet n0 w g p br bt q vm vo ve E R S1 S2 e W) ∧ (∀ e, e = .returned (.tuple #[.agg (evC x2 x1), .bool true]) → ShRet n0 w g p br bt q vm vo ve E R S1 S2 e W)) := fun W t => by
    obtain ⟨W4, T04, hRR, hx2, hKb⟩ := HW4.out
    have ta : Turn (Ab n0) w W := T04.trans t (fun i hi e => by have e' : i = w.heap.size + 1 := e; omega)
    have WW := W4.off52 RZ t
    exact ⟨fun e he => ShRet.of x1 x2 V2 vr2 R2 he HX1.out hx2 WW hRR ta (hKb.set t (by omega)), fun e he => ShRet.of x2 x1 V2 vr2 R2 he hx2 HX1.out WW hRR ta (hKb.set t (by omega))⟩
  generalize hEA : evC x1 x2 = EA at *
  generalize hEB : evC x2 x1 = EB at *
  clear hEA hEB eab eba hKa hKb HW4 R0 RZ RA R4 ra rb c6 c7 hx2 HX1 hRR1 hRR2
  generalize x1.cs.toArray = XA at *
  generalize x2.cs.toArray = XB at *
  generalize x1.id.map bv = IA at *
  generalize x2.id.map bv = IB at *
  generalize ltB x2.id x1.id = lt at *
  obtain ⟨nb, hnb⟩ : ∃ nb, Hid ((!(lt == sw)) = nb) := ⟨_, rfl⟩
  refine wp_region_held_drew (S := fun W => Turn no w4 W) (by kernel_rfl) (Turn.refl _ w4).drew (fun hHeld => ?_)
  refine' wpAnyH_take (i := 0) (v := .pointer (some ⟨g10, 3, none⟩)) rfl (by kernel_rfl) (by kernel_rfl) (by kernel_rfl) (fun _ _ _ h => h) (Or.inl ⟨by kernel_rfl, fun W hW => ?y1⟩) hHeld ?r1
  · skip
    go_simp
  refine' wpAnyH_take (i := 1) (v := .agg IB.toArray) rfl (by kernel_rfl) (by kernel_rfl) (by kernel_rfl) (fun _ _ _ h => h) (yieldsIf_load_mid (by kernel_rfl) 26 (.tmp 34) rfl g10 3 (by kernel_rfl) IB _ (fun W h => (HID.out W h).1) Tryz.underlying26 rfl iI2) hHeld ?s1
  refine' wpAnyH_take (i := 2) (v := .pointer (some ⟨g8, 3, none⟩)) rfl (by kernel_rfl) (by kernel_rfl) (by kernel_rfl) (fun _ _ _ h => h) (Or.inl ⟨by kernel_rfl, fun W hW => ?y2⟩) hHeld ?r2
  · skip
    go_simp
  refine' wpAnyH_take (i := 3) (v := .agg IA.toArray) rfl (by kernel_rfl) (by kernel_rfl) (by kernel_rfl) (fun _ _ _ h => h) (yieldsIf_load_mid (by kernel_rfl) 26 (.tmp 36) rfl g8 3 (by kernel_rfl) IA _ (fun W h => (HID.out W h).2.1) Tryz.underlying26 rfl iI1) hHeld ?s3
  refine' wpAnyH_take (i := 5) (v := .pointer (some ⟨w.heap.size, 108, none⟩)) rfl (by kernel_rfl) (by kernel_rfl) (by kernel_rfl) (fun _ _ _ h => h) (Or.inl ⟨by kernel_rfl, fun W hW => ?y3⟩) hHeld ?r3
  · skip
    go_simp
  refine' wpAnyH_take (i := 6) (v := .bool sw) rfl (by kernel_rfl) (by kernel_rfl) (by kernel_rfl) (fun _ _ _ h => h) (Or.inl ⟨by kernel_rfl, fun W hW => ?y4⟩) hHeld ?r4
  · obtain ⟨_, _, c8⟩ := HID.out W hW
    go_simp
  refine wpAnyH_ready (rs := [4]) (by kernel_rfl) (by simp) ?_
  refine AllReadyH.cons rfl (fun K hK => ?_) AllReadyH.nil
  go_simp
  refine hbe.mono ?_
  rintro e w5 ⟨rfl, t5⟩
  have T45 : Turn no w4 w5 := (Turn.refl no w4).drew.then_no t5
  go_wp2_with fail
  refine hK.out _ _ T45 (fun hHeld => ?_)
  clear hK
  refine wpAnyH_ready (rs := [7]) (by kernel_rfl) (by simp) ?_
  refine AllReadyH.cons rfl (fun K hK => ?_) AllReadyH.nil
  go_simp
  rw [show (!(lt == sw)) = nb from hnb.out]
  refine hK.out _ _ T45 (fun hHeld => ?_)
  clear hK
  refine wpAnyH_done (by kernel_rfl) ?_ _
  go_simp
  obtain ⟨RA, RB, RZ⟩ := HKW.out w5 T45
  clear HKW HID hbe hnb t5 c8
  cases nb with
  | true =>
    go_wp2_with (first | (guard_target =~ wpList _ _ _ ({ dst := some 42, .. } :: _) _ _; refine wpList_load_row rfl 50 (.tmp 10) rfl g10 rfl 50 XB _ _ RB Tryz.underlying50 rfl ix2 ?_) | (guard_target =~ wpList _ _ _ ({ dst := some 43, .. } :: _) _ _; refine wpList_load_row rfl 50 (.tmp 8) rfl g8 rfl 50 XA _ _ RA Tryz.underlying50 rfl ix1 ?_) | (refine wpList_build_as rfl 52 0 1 (.tmp 42) (.tmp 43) rfl _ _ rfl rfl EB bba ?_) | (guard_target =~ wpList _ _ _ ({ dst := _, op := Op.store 52 _ _, .. } :: _) _ _; refine wpList_store_anyX rfl rfl 52 (.tmp 6) (.tmp 44) rfl (w.heap.size + 1) EB rfl rfl 52 ZE RZ iba zba oba ?_; intro w6 R6 t6))
    have tt := (T45.of_no.trans t6 (fun _ _ e => e) : Turn (fun k => k = w.heap.size + 1) w4 w6)
    exact ⟨rfl, _, results_cell_row_tmpQ (g := w.heap.size + 1) (cs := EB) (t := 52) rfl _ _ _ _ rfl R6 Tryz.underlying52 rfl iba, (HAB.out w6 tt).2 _ rfl⟩
  | false =>
    go_wp2_with (first | (guard_target =~ wpList _ _ _ ({ dst := some 49, .. } :: _) _ _; refine wpList_load_row rfl 50 (.tmp 8) rfl g8 rfl 50 XA _ _ RA Tryz.underlying50 rfl ix1 ?_) | (guard_target =~ wpList _ _ _ ({ dst := some 50, .. } :: _) _ _; refine wpList_load_row rfl 50 (.tmp 10) rfl g10 rfl 50 XB _ _ RB Tryz.underlying50 rfl ix2 ?_) | (refine wpList_build_as rfl 52 0 1 (.tmp 49) (.tmp 50) rfl _ _ rfl rfl EA bab ?_) | (guard_target =~ wpList _ _ _ ({ dst := _, op := Op.store 52 _ _, .. } :: _) _ _; refine wpList_store_anyX rfl rfl 52 (.tmp 6) (.tmp 51) rfl (w.heap.size + 1) EA rfl rfl 52 ZE RZ iab zab oab ?_; intro w6 R6 t6))
    have tt := (T45.of_no.trans t6 (fun _ _ e => e) : Turn (fun k => k = w.heap.size + 1) w4 w6)
    exact ⟨rfl, _, results_cell_row_tmpQ (g := w.heap.size + 1) (cs := EA) (t := 52) rfl _ _ _ _ rfl R6 Tryz.underlying52 rfl iab, (HAB.out w6 tt).1 _ rfl⟩
end Go.Proofs.YtgbcdjjnpadddaaGreatDoor

