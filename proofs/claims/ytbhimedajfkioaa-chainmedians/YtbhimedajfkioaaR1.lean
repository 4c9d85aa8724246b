/- ChainMedians: the walk. -/
import Derived.Test.YtbhimedajfkioaaQ3
import Derived.Test.YtbhimedajfkioaaQ4
import Derived.Test.YtbhimedajfkioaaO2
namespace Go.Proofs.Ytbhimedajfkioaa
open Go.RowKit
set_option linter.unusedVariables false

theorem Ms.of_at {w : World} {a : Option Addr} {cap : Nat} {l r : List Mb} (h : MsAt w a cap (l ++ r)) : Ms w (.slice a l.length cap) l :=
  ⟨a, cap, rfl, by have := h.le; rw [List.length_append] at this; omega, h.cap, fun m hm => h.ok m (by simp [hm]), fun j m hj => h.cells j m (by rw [List.getElem?_append_left (List.getElem?_eq_some_iff.1 hj).1]; exact hj)⟩
theorem Ks.of_at {w : World} {a : Option Addr} {cap : Nat} {l r : List Mk} (h : KsAt w a cap (l ++ r)) : Ks w (.slice a l.length cap) l :=
  ⟨a, cap, rfl, by have := h.le; rw [List.length_append] at this; omega, h.cap, fun m hm => h.ok m (by simp [hm]), fun j m hj => h.cells j m (by rw [List.getElem?_append_left (List.getElem?_eq_some_iff.1 hj).1]; exact hj)⟩
theorem med_one {M : List Mb} {h : Nat} {r : Int} {id : List UInt8} {l : List Mk} {t u : Nat} (h1 : medE M h r id l = 0 → IsMed M l t) (h2 : medE M h r id l ≠ 0 → t = 0) (k1 : medE M h r id l = 0 → IsMed M l u) (k2 : medE M h r id l ≠ 0 → u = 0) : t = u := by
  by_cases e : medE M h r id l = 0
  · exact (h1 e).one (k1 e)
  · rw [h2 e, k2 e]

set_option maxRecDepth 100000 in
set_option maxHeartbeats 80000000 in
theorem medians3 (w : World) (vc : Value) (M : List Mb) (hc : Ms w vc M) (hcb : M.length * 24 ≤ 140737488351232) (h : Nat) (r : Int) (id : List UInt8) (hid : id.length = 32) (v : Value) (l : List Mk) (hv : Ks w v l) (hlb : l.length * 32 ≤ 140737488351232) :
    Calls Try.prog 3 #[.agg #[vc], .agg (ctL h r id v).toArray] w fun e w' => e = .returned (.bool true) ∧ Turn no w w' := by
  have hc2 := hc
  have hv2 := hv
  obtain ⟨ca, cc, rfl, hM⟩ := hc2
  obtain ⟨ka, kc, rfl, hK⟩ := hv2
  have HMS := shut hc
  have HKS := shut hv
  have HMA := shut hM
  have HKA := shut hK
  obtain ⟨CT, hCT⟩ : ∃ CT, (ctL h r id (.slice ka l.length kc)).toArray = CT := ⟨_, rfl⟩
  have hs30 : (Try.prog.info? 30).map (·.size) = some CT.size := by rw [← hCT]; exact size30 h r id hid _
  have hCs : CT.size = 35 := by rw [← hCT]; simpa using ctL_len h r id hid _
  have HCT := shut hCT
  obtain ⟨w0, hw0⟩ : ∃ w0, (w.alloc (.cells #[.slice ca M.length cc] 24)).alloc (.cells CT 30) = w0 := ⟨_, rfl⟩
  have T0 : Turn no w w0 := by rw [← hw0]; exact ((Turn.refl no w).alloc _).alloc _
  have B0 : Row w0 w.heap.size #[.slice ca M.length cc] 24 := by rw [← hw0]; exact (Row.new w _ 24).alloc _
  have C0 : Row w0 (w.heap.size + 1) CT 30 := by rw [← hw0]; exact Row.newAt _ _ _ _ (by simp)
  have b0 := B0.cell 0 _ rfl
  have ho5 := own5 w0 _ M (HMS.out.turn_no T0) hcb
  have HT0 := shut T0
  have HB0 := shut B0
  have HC0 := shut C0
  have HID := shut hid
  have HLB := shut hlb
  clear hc hv hM hK T0 B0 C0 hid hlb hcb
  rw [hCT]
  clear hCT
  generalize hm : M.length = mn at *
  have HMN := shut hm
  clear hm
  go_enter Try.func3, Try.ntmps3
  go_upto_region 1 with fail
  try rw [hw0]
  clear hw0
  go_upto_region 2 with (go_at_call 5; refine ho5.mono ?_; rintro e w1 ⟨gd, cd, rfl, hD, t1⟩; clear ho5)
  have HD := shut hD
  have HT1 := shut t1
  obtain ⟨w2, hw2⟩ : ∃ w2, w1.alloc (.cells #[.slice (some ⟨gd, 0, none⟩) mn cd] 24) = w2 := ⟨_, rfl⟩
  have TA2 : Turn no w1 w2 := by rw [← hw2]; exact (Turn.refl no w1).alloc _
  have RD : Row w2 w1.heap.size #[.slice (some ⟨gd, 0, none⟩) mn cd] 24 := by rw [← hw2]; exact Row.new w1 _ 24
  have T2 := t1.then_no TA2
  have C2 := HC0.out.turn T2 (fun q => q)
  have HT2 := shut T2
  have HRD := shut RD
  have HTA2 := shut TA2
  have hB6 := ownB6 w2 (blk Try.zeroCells38 CT) (blk_size hCs) (by rw [blk_low _ (by decide)]; kernel_rfl) (by rw [blk_low _ (by decide)]; kernel_rfl) ka kc l (by rw [show 264 = 230 + 34 from rfl, blk_high, ← HCT.out]; exact ctL_34 h r id HID.out _) (blk_one (by rw [← HCT.out]; exact ctL_one h r id _ rfl)) (HKA.out.turn_no (HT0.out.then_no T2)) HLB.out
  have hb38 := built38 CT hCs
  have HF : Shut (∀ s1 s2 v' W, (Instr.field 38 (.agg ((((blk Try.zeroCells38 CT).setIfInBounds 228 s1).setIfInBounds 229 s2).setIfInBounds 264 v')) 3).run Try.prog W = .ok (.agg (ctL h r id v').toArray) W) := fun s1 s2 v' W => by
    rw [field38, ← HCT.out, own_cert h r id HID.out]
  generalize blk Try.zeroCells38 CT = BK at *
  generalize hln : l.length = ln at *
  have HLN := shut hln
  clear hln t1 hD TA2 RD T2
  rw [hw2]
  clear hw2
  go_upto_region 3 with (first | (refine wpList_load_row rfl 30 (.tmp 3) rfl (w.heap.size + 1) rfl 30 CT _ _ C2 Try.underlying30 rfl hs30 ?_) | (refine wpList_build_one rfl 38 3 (.tmp 13) rfl (.agg CT) rfl BK hb38 ?_; clear hb38) | (go_at_call 6; refine hB6.mono ?_; clear hB6; rintro e w3 ⟨s1, s2, gm, cm, rfl, hKm, t3⟩; have hf := HF.out s1 s2 (.slice (some ⟨gm, 0, none⟩) ln cm) w3; have HKM := shut hKm; have HT3 := shut t3; clear hKm; obtain ⟨C4, hC4⟩ : ∃ C4, (ctL h r id (.slice (some ⟨gm, 0, none⟩) ln cm)).toArray = C4 := ⟨_, rfl⟩; have hs4 : (Try.prog.info? 30).map (·.size) = some C4.size := (by rw [← hC4]; exact size30 h r id HID.out _); have hC4s : C4.size = 35 := (by rw [← hC4]; simpa using ctL_len h r id HID.out _); have ho4 : C4.all (·.oneCell') = true := (by rw [← hC4]; exact ctL_one h r id _ rfl); rw [hC4] at hf; have HC4 := shut hC4; clear hC4) | (refine wpList_field_as rfl 38 (.tmp 15) 3 rfl _ _ rfl hf ?_; clear hf) | (refine wpList_store_anyN rfl rfl 30 (.tmp 6) (.tmp 16) rfl w3.heap.size C4 rfl rfl 30 _ (Row.new w3 _ 30) hs4 (by rw [hC4s]; rfl) ho4 ?_; intro w4 R4 T4))
  have T34 : Turn (fun k => k = w3.heap.size) w3 w4 := ((Turn.refl no w3).alloc _).of_no.trans T4 (fun _ _ e => e)
  have T24 : Turn no w2 w4 := HT3.out.trans T34 (fun i hi e => by have := HT3.out.size; omega)
  have T14 : Turn no w1 w4 := HTA2.out.then_no T24
  have T04 : Turn no w0 w4 := HT1.out.then_no T14
  have TW4 : Turn no w w4 := HT0.out.then_no T04
  have KM4 := HKM.out.turn_ge T34 (fun k e => by omega)
  have HD4 := HD.out.turn_no T14
  have X4 : KsAt w4 (some ⟨gm, 0, none⟩) cm (l ++ [mk71]) := KM4
  have HW : Shut (∀ W, Turn no w4 W → (Row W w.heap.size #[.slice ca mn cc] 24 ∧ Row W (w.heap.size + 1) CT 30 ∧ Row W w1.heap.size #[.slice (some ⟨gd, 0, none⟩) mn cd] 24 ∧ Row W w3.heap.size C4 30) ∧ (Ms W (.slice ca mn cc) M ∧ Ks W (.slice ka ln kc) l ∧ MsAt W (some ⟨gd, 0, none⟩) cd (M ++ [mb71]) ∧ KsAt W (some ⟨gm, 0, none⟩) cm (l ++ [mk71])) ∧ Turn no w W) := fun W t => by
    refine ⟨⟨HB0.out.turn (T04.then_no t) (fun q => q), HC0.out.turn (T04.then_no t) (fun q => q), HRD.out.turn (T24.then_no t) (fun q => q), R4.turn t (fun q => q)⟩, ⟨HMS.out.turn_no (TW4.then_no t), HKS.out.turn_no (TW4.then_no t), HD4.turn_no t, KM4.turn_no t⟩, TW4.then_no t⟩
  have HMS4 : Shut (∀ W, Turn no w4 W → Ms W (.slice (some ⟨gd, 0, none⟩) mn cd) M ∧ Ks W (.slice (some ⟨gm, 0, none⟩) ln cm) l) := fun W t => by
    obtain ⟨_, ⟨_, _, m3, m4⟩, _⟩ := HW.out W t
    have e1 := Ms.of_at m3
    have e2 := Ks.of_at m4
    rw [HMN.out] at e1
    rw [HLN.out] at e2
    exact ⟨e1, e2⟩
  have hm7 := median7 w4 _ M (HMS4.out w4 (Turn.refl no w4)).1 h r id HID.out _ l (HMS4.out w4 (Turn.refl no w4)).2
  rw [HC4.out] at hm7
  have d4 := (HW.out w4 (Turn.refl no w4)).1.2.2.1.cell 0 _ rfl
  clear X4 HD4 KM4 T34 T24 T14 T04 TW4 T4 C2 b0
  go_upto_region 4 with (first | (refine wpList_load_row rfl 30 (.tmp 6) rfl w3.heap.size rfl 30 C4 _ _ R4 Try.underlying30 rfl hs4 ?_) | (go_at_call 7; refine hm7.mono ?_; clear hm7; rintro e w5 ⟨ta, rfl, hta1, hta2, t5⟩; have HTA := shut (And.intro hta1 hta2); clear hta1 hta2 d4 R4))
  have hm8 := rmedian8 w5 _ M (HW.out w5 t5).2.1.1 h r id HID.out _ l (HW.out w5 t5).2.1.2.1
  have hct := HCT.out
  rw [hct] at hm8
  have d5 := (HW.out w5 t5).1.1.cell 0 _ rfl
  have R5 := (HW.out w5 t5).1.2.1
  have HT5 := shut t5
  clear hct t5
  go_upto_region 5 with (first | (refine wpList_load_row rfl 30 (.tmp 3) rfl (w.heap.size + 1) rfl 30 CT _ _ R5 Try.underlying30 rfl hs30 ?_) | (go_at_call 8; refine hm8.mono ?_; clear hm8; rintro e w6 ⟨tb, rfl, htb1, htb2, t6⟩; have htt := med_one HTA.out.1 HTA.out.2 htb1 htb2; subst htt; clear htb1 htb2 d5 R5 HTA))
  have T46 := HT5.out.then_no t6
  have HX : Shut (∀ W, Turn no w6 W → (Row W w.heap.size #[.slice ca mn cc] 24 ∧ Row W (w.heap.size + 1) CT 30 ∧ Row W w1.heap.size #[.slice (some ⟨gd, 0, none⟩) mn cd] 24 ∧ Row W w3.heap.size C4 30) ∧ (Ms W (.slice ca mn cc) M ∧ Ks W (.slice ka ln kc) l ∧ MsAt W (some ⟨gd, 0, none⟩) cd (M ++ [mb71]) ∧ KsAt W (some ⟨gm, 0, none⟩) cm (l ++ [mk71])) ∧ Turn no w W) := fun W t => HW.out W (T46.then_no t)
  have HS10 : Shut (∀ W, Turn no w6 W → Calls Try.prog 10 #[.agg #[.slice (some ⟨gd, 0, none⟩) mn cd], .agg #[.slice ca mn cc]] W fun e w' => e = .returned (.bool true) ∧ Turn no W w') := fun W t => same10 W _ _ M (HMS4.out W (T46.then_no t)).1 (HX.out W t).2.1.1
  have HS11 : Shut (∀ W, Turn no w6 W → Calls Try.prog 11 #[.agg C4, .agg CT] W fun e w' => e = .returned (.bool true) ∧ Turn no W w') := fun W t => by
    have := sameC11 W h r id HID.out _ _ l (HMS4.out W (T46.then_no t)).2 (HX.out W t).2.1.2.1
    rw [HC4.out, HCT.out] at this
    exact this
  have HS12 : Shut (∀ W, Turn no w6 W → Calls Try.prog 12 #[.agg #[.slice (some ⟨gd, 0, none⟩) mn cd]] W fun e w' => e = .returned (.bool true) ∧ Turn no W w') := fun W t => by
    have := marked12 W gd cd M (HX.out W t).2.1.2.2.1
    rw [HMN.out] at this
    exact this
  have HKX := (HX.out w6 (Turn.refl no w6)).2.1.2.2.2
  have hlc : ln + 1 ≤ cm := by have := HKX.le; rw [List.length_append, HLN.out] at this; exact this
  have hcm : cm ≤ 9223372036854775807 := by have := HKX.cap; simp only [maxLen] at this; omega
  have HM36 : Shut (∀ W, Turn no w6 W → W.rangeAt gm (ln * 18) (mkL mk71)) := fun W t => by
    obtain ⟨b, off, e, q⟩ := (HX.out W t).2.1.2.2.2.range ln mk71 (by rw [List.getElem?_append_right (by rw [HLN.out]; exact Nat.le_refl _), HLN.out]; simp)
    cases e
    rw [Nat.zero_add] at q
    exact q
  have H34 : Shut (C4[34]? = some (.slice (some ⟨gm, 0, none⟩) ln cm) ∧ CT[34]? = some (.slice ka ln kc)) := by
    refine ⟨?_, ?_⟩
    · rw [← HC4.out]; exact ctL_34 h r id HID.out _
    · rw [← HCT.out]; exact ctL_34 h r id HID.out _
  have HE50 : Shut (∀ W, (Op.equalIn 10000 50 (.agg (mkL mk71).toArray) (.agg (mkL mk71).toArray)).run Try.prog W = .ok true W) := fun W => eq50 W mk71
  have HS50 := shut (size50 mk71)
  obtain ⟨X, hX⟩ : ∃ X, mkL mk71 = X := ⟨_, rfl⟩
  rw [hX] at HE50 HS50 HM36
  have HX71 := shut hX
  clear hX
  clear HKX HMS4 HW T46 HMS HKS HMA HKA HCT HB0 HC0 HRD HT0 HT1 HT2 HTA2 HF HKM HD HT3 HID HLB HT5 t6 HMN
  generalize medE M h r id l = E at *
  refine wp_region_held_drew (S := fun W => Turn no w6 W) (by kernel_rfl) (Turn.refl no w6).drew (fun hHeld => ?_)
  refine' wpAnyH_take (i := 0) (v := .int .u64 ta) rfl (by kernel_rfl) (by kernel_rfl) (by kernel_rfl) (fun _ _ _ h => h) (Or.inl ⟨by kernel_rfl, fun W hW => ?y1⟩) hHeld ?r1
  · go_simp
  refine' wpAnyH_take (i := 1) (v := .int .u64 ta) rfl (by kernel_rfl) (by kernel_rfl) (by kernel_rfl) (fun _ _ _ h => h) (Or.inl ⟨by kernel_rfl, fun W hW => ?y2⟩) hHeld ?r2
  · go_simp
  refine' wpAnyH_take (i := 2) (v := .bool true) rfl (by kernel_rfl) (by kernel_rfl) (by kernel_rfl) (fun _ _ _ h => h) (Or.inl ⟨by kernel_rfl, fun W hW => ?y3⟩) hHeld ?r3
  · go_simp
  refine' wpAnyH_take (i := 3) (v := .bool true) rfl (by kernel_rfl) (by kernel_rfl) (by kernel_rfl) (fun _ _ _ h => h) (Or.inl ⟨by kernel_rfl, fun W hW => ?y4⟩) hHeld ?r4
  · go_simp
  refine' wpAnyH_take (i := 4) (v := .int .i64 E) rfl (by kernel_rfl) (by kernel_rfl) (by kernel_rfl) (fun _ _ _ h => h) (Or.inl ⟨by kernel_rfl, fun W hW => ?y5⟩) hHeld ?r5
  · go_simp
  refine' wpAnyH_take (i := 6) (v := .int .i64 E) rfl (by kernel_rfl) (by kernel_rfl) (by kernel_rfl) (fun _ _ _ h => h) (Or.inl ⟨by kernel_rfl, fun W hW => ?y6⟩) hHeld ?r6
  · go_simp
  refine wpAnyH_ready (rs := [5]) (by kernel_rfl) (by simp) ?_
  refine AllReadyH.cons rfl (fun K hK => ?_) AllReadyH.nil
  go_simp
  refine (num9 _ E).mono ?_
  rintro e w5c ⟨rfl, t5c⟩
  refine hK.out _ _ (hHeld.then_no t5c) (fun hHeld => ?_)
  clear hK
  refine wpAnyH_ready (rs := [7]) (by kernel_rfl) (by simp) ?_
  refine AllReadyH.cons rfl (fun K hK => ?_) AllReadyH.nil
  go_simp
  refine (num9 _ E).mono ?_
  rintro e w7c ⟨rfl, t7c⟩
  refine hK.out _ _ (hHeld.then_no t7c) (fun hHeld => ?_)
  clear hK
  refine' wpAnyH_take (i := 8) (v := .bool true) rfl (by kernel_rfl) (by kernel_rfl) (by kernel_rfl) (fun _ _ _ h => h) (Or.inl ⟨by kernel_rfl, fun W hW => ?y7⟩) hHeld ?r7
  · go_simp
  refine' wpAnyH_take (i := 9) (v := .bool true) rfl (by kernel_rfl) (by kernel_rfl) (by kernel_rfl) (fun _ _ _ h => h) (Or.inl ⟨by kernel_rfl, fun W hW => ?y8⟩) hHeld ?r8
  · go_simp
  refine' wpAnyH_take (i := 10) (v := .bool true) rfl (by kernel_rfl) (by kernel_rfl) (by kernel_rfl) (fun _ _ _ h => h) (Or.inl ⟨by kernel_rfl, fun W hW => ?y9⟩) hHeld ?r9
  · go_simp
  refine' wpAnyH_take (i := 11) (v := .agg #[.slice (some ⟨gd, 0, none⟩) mn cd]) rfl (by kernel_rfl) (by kernel_rfl) (by kernel_rfl) (fun _ _ _ h => h) (Or.inl ⟨by kernel_rfl, fun W hW => ?y10⟩) hHeld ?r10
  · have z := (HX.out W hW).1.2.2.1.cell 0 _ rfl
    go_simp
  refine' wpAnyH_take (i := 12) (v := .agg #[.slice ca mn cc]) rfl (by kernel_rfl) (by kernel_rfl) (by kernel_rfl) (fun _ _ _ h => h) (Or.inl ⟨by kernel_rfl, fun W hW => ?y11⟩) hHeld ?r11
  · have z := (HX.out W hW).1.1.cell 0 _ rfl
    go_simp
  refine wpAnyH_ready (rs := [13]) (by kernel_rfl) (by simp) ?_
  refine AllReadyH.cons rfl (fun K hK => ?_) AllReadyH.nil
  go_simp
  refine (HS10.out _ hHeld).mono ?_
  rintro e w13c ⟨rfl, t13c⟩
  refine hK.out _ _ (hHeld.then_no t13c) (fun hHeld => ?_)
  clear hK
  refine' wpAnyH_take (i := 14) (v := .bool true) rfl (by kernel_rfl) (by kernel_rfl) (by kernel_rfl) (fun _ _ _ h => h) (Or.inl ⟨by kernel_rfl, fun W hW => ?y12⟩) hHeld ?r12
  · go_simp
  refine' wpAnyH_take (i := 15) (v := .bool true) rfl (by kernel_rfl) (by kernel_rfl) (by kernel_rfl) (fun _ _ _ h => h) (Or.inl ⟨by kernel_rfl, fun W hW => ?y13⟩) hHeld ?r13
  · go_simp
  refine' wpAnyH_take (i := 16) (v := .agg C4) rfl (by kernel_rfl) (by kernel_rfl) (by kernel_rfl) (fun _ _ _ h => h) (yieldsIf_load_mid (by kernel_rfl) 30 (.tmp 6) rfl w3.heap.size 0 (by kernel_rfl) C4.toList _ (fun W h => fun j u hu => by rw [Nat.zero_add]; exact (HX.out W h).1.2.2.2.cell j u (by simpa using hu)) Try.underlying30 rfl (by simpa using hs4)) hHeld ?l16
  refine' wpAnyH_take (i := 17) (v := .agg CT) rfl (by kernel_rfl) (by kernel_rfl) (by kernel_rfl) (fun _ _ _ h => h) (yieldsIf_load_mid (by kernel_rfl) 30 (.tmp 3) rfl (w.heap.size + 1) 0 (by kernel_rfl) CT.toList _ (fun W h => fun j u hu => by rw [Nat.zero_add]; exact (HX.out W h).1.2.1.cell j u (by simpa using hu)) Try.underlying30 rfl (by simpa using hs30)) hHeld ?l17
  refine wpAnyH_ready (rs := [18]) (by kernel_rfl) (by simp) ?_
  refine AllReadyH.cons rfl (fun K hK => ?_) AllReadyH.nil
  go_simp
  refine (HS11.out _ hHeld).mono ?_
  rintro e w18c ⟨rfl, t18c⟩
  refine hK.out _ _ (hHeld.then_no t18c) (fun hHeld => ?_)
  clear hK
  refine' wpAnyH_take (i := 19) (v := .bool true) rfl (by kernel_rfl) (by kernel_rfl) (by kernel_rfl) (fun _ _ _ h => h) (Or.inl ⟨by kernel_rfl, fun W hW => ?y14⟩) hHeld ?r14
  · go_simp
  refine' wpAnyH_take (i := 20) (v := .bool true) rfl (by kernel_rfl) (by kernel_rfl) (by kernel_rfl) (fun _ _ _ h => h) (Or.inl ⟨by kernel_rfl, fun W hW => ?y15⟩) hHeld ?r15
  · go_simp
  refine' wpAnyH_take (i := 21) (v := .agg #[.slice (some ⟨gd, 0, none⟩) mn cd]) rfl (by kernel_rfl) (by kernel_rfl) (by kernel_rfl) (fun _ _ _ h => h) (Or.inl ⟨by kernel_rfl, fun W hW => ?y16⟩) hHeld ?r16
  · have z := (HX.out W hW).1.2.2.1.cell 0 _ rfl
    go_simp
  refine wpAnyH_ready (rs := [22]) (by kernel_rfl) (by simp) ?_
  refine AllReadyH.cons rfl (fun K hK => ?_) AllReadyH.nil
  go_simp
  refine (HS12.out _ hHeld).mono ?_
  rintro e w22c ⟨rfl, t22c⟩
  refine hK.out _ _ (hHeld.then_no t22c) (fun hHeld => ?_)
  clear hK
  refine' wpAnyH_take (i := 23) (v := .bool true) rfl (by kernel_rfl) (by kernel_rfl) (by kernel_rfl) (fun _ _ _ h => h) (Or.inl ⟨by kernel_rfl, fun W hW => ?y17⟩) hHeld ?r17
  · go_simp
  refine' wpAnyH_take (i := 24) (v := .bool true) rfl (by kernel_rfl) (by kernel_rfl) (by kernel_rfl) (fun _ _ _ h => h) (Or.inl ⟨by kernel_rfl, fun W hW => ?y18⟩) hHeld ?r18
  · go_simp
  refine' wpAnyH_take (i := 25) (v := .pointer (some ⟨w3.heap.size, 34, none⟩)) rfl (by kernel_rfl) (by kernel_rfl) (by kernel_rfl) (fun _ _ _ h => h) (Or.inl ⟨by kernel_rfl, fun W hW => ?y19⟩) hHeld ?r19
  · go_simp
  refine' wpAnyH_take (i := 26) (v := .slice (some ⟨gm, 0, none⟩) ln cm) rfl (by kernel_rfl) (by kernel_rfl) (by kernel_rfl) (fun _ _ _ h => h) (Or.inl ⟨by kernel_rfl, fun W hW => ?y20⟩) hHeld ?r20
  · have z := (HX.out W hW).1.2.2.2.cell 34 _ H34.out.1
    go_simp
  refine' wpAnyH_take (i := 27) (v := .pointer (some ⟨w.heap.size + 1, 34, none⟩)) rfl (by kernel_rfl) (by kernel_rfl) (by kernel_rfl) (fun _ _ _ h => h) (Or.inl ⟨by kernel_rfl, fun W hW => ?y21⟩) hHeld ?r21
  · go_simp
  refine' wpAnyH_take (i := 28) (v := .slice ka ln kc) rfl (by kernel_rfl) (by kernel_rfl) (by kernel_rfl) (fun _ _ _ h => h) (Or.inl ⟨by kernel_rfl, fun W hW => ?y22⟩) hHeld ?r22
  · have z := (HX.out W hW).1.2.1.cell 34 _ H34.out.2
    go_simp
  refine' wpAnyH_take (i := 29) (v := .int .i64 ln) rfl (by kernel_rfl) (by kernel_rfl) (by kernel_rfl) (fun _ _ _ h => h) (Or.inl ⟨by kernel_rfl, fun W hW => ?y23⟩) hHeld ?r23
  · go_simp
  refine' wpAnyH_take (i := 30) (v := .int .i64 (ln + 1)) rfl (by kernel_rfl) (by kernel_rfl) (by kernel_rfl) (fun _ _ _ h => h) (Or.inl ⟨by kernel_rfl, fun W hW => ?y24⟩) hHeld ?r24
  · go_simp
    rw [IntKind.wrap_i64]
    omega
  refine' wpAnyH_take (i := 31) (v := .slice (some ⟨gm, 0, none⟩) (ln + 1) cm) rfl (by kernel_rfl) (by kernel_rfl) (by kernel_rfl) (fun _ _ _ h => h) (Or.inl ⟨by kernel_rfl, fun W hW => ?y25⟩) hHeld ?r25
  · go_simp
    intro q
    have := q (by omega)
    omega
  refine' wpAnyH_take (i := 32) (v := .pointer (some ⟨w.heap.size + 1, 34, none⟩)) rfl (by kernel_rfl) (by kernel_rfl) (by kernel_rfl) (fun _ _ _ h => h) (Or.inl ⟨by kernel_rfl, fun W hW => ?y26⟩) hHeld ?r26
  · go_simp
  refine' wpAnyH_take (i := 33) (v := .slice ka ln kc) rfl (by kernel_rfl) (by kernel_rfl) (by kernel_rfl) (fun _ _ _ h => h) (Or.inl ⟨by kernel_rfl, fun W hW => ?y27⟩) hHeld ?r27
  · have z := (HX.out W hW).1.2.1.cell 34 _ H34.out.2
    go_simp
  refine' wpAnyH_take (i := 34) (v := .int .i64 ln) rfl (by kernel_rfl) (by kernel_rfl) (by kernel_rfl) (fun _ _ _ h => h) (Or.inl ⟨by kernel_rfl, fun W hW => ?y28⟩) hHeld ?r28
  · go_simp
  refine' wpAnyH_take (i := 35) (v := .pointer (some ⟨gm, ln * 18, none⟩)) rfl (by kernel_rfl) (by kernel_rfl) (by kernel_rfl) (fun _ _ _ h => h) (Or.inl ⟨by kernel_rfl, fun W hW => ?y29⟩) hHeld ?r29
  · go_simp
    intro q
    omega
  refine' wpAnyH_take (i := 36) (v := .agg X.toArray) rfl (by kernel_rfl) (by kernel_rfl) (by kernel_rfl) (fun _ _ _ h => h) (yieldsIf_load_mid (by kernel_rfl) 50 (.tmp 64) rfl gm (ln * 18) (by kernel_rfl) X _ (fun W h => HM36.out W h) Try.underlying50 rfl HS50.out) hHeld ?l36
  refine' wpAnyH_take (i := 37) (v := .agg X.toArray) rfl (by kernel_rfl) (by kernel_rfl) (by kernel_rfl) (fun _ _ _ h => h) (Or.inl ⟨by kernel_rfl, fun W hW => ?y30⟩) hHeld ?r30
  · go_simp
    rw [← HX71.out]
    rfl
  refine' wpAnyH_take (i := 38) (v := .bool true) rfl (by kernel_rfl) (by kernel_rfl) (by kernel_rfl) (fun _ _ _ h => h) (Or.inl ⟨by kernel_rfl, fun W hW => ?y31⟩) hHeld ?r31
  · have z := HE50.out
    go_simp
  refine' wpAnyH_take (i := 39) (v := .bool true) rfl (by kernel_rfl) (by kernel_rfl) (by kernel_rfl) (fun _ _ _ h => h) (Or.inl ⟨by kernel_rfl, fun W hW => ?y32⟩) hHeld ?r32
  · go_simp
  refine' wpAnyH_take (i := 40) (v := .bool true) rfl (by kernel_rfl) (by kernel_rfl) (by kernel_rfl) (fun _ _ _ h => h) (Or.inl ⟨by kernel_rfl, fun W hW => ?y33⟩) hHeld ?r33
  · go_simp
  refine wpAnyH_done (by kernel_rfl) ?_ _
  go_simp
  have HN := shut hHeld
  clear hHeld
  go_wp2_with fail
  go_ret
  exact ⟨rfl, (HX.out _ HN.out).2.2⟩
end Go.Proofs.Ytbhimedajfkioaa
