/- WireSigns: the walk. -/
import Derived.Test.YtpfjllkmaogafaaN1
import Derived.Test.YtpfjllkmaogafaaK4
import Derived.Test.YtpfjllkmaogafaaH5
namespace Go.Proofs.Ytpfjllkmaogafaa
open Go.RowKit
set_option linter.unusedVariables false

/-- A chain's name, a transaction, a vote, a proposal. -/
def nmC (ch : ByteArray) (x : Tx) (y : Vt) (z : Po) : List Value := .string ch :: (x.cs ++ (y.cs ++ z.cs))
theorem Row.nm {w : World} {g : Nat} {ch : ByteArray} {x : Tx} {y : Vt} {z : Po} (hx : x.ok) (hy : y.ok) (r : Row w g (nmC ch x y z).toArray 35) : w.cell? ⟨g, 0, none⟩ = some (.string ch) ∧ w.rangeAt g 1 x.cs ∧ w.rangeAt g 23 y.cs ∧ w.rangeAt g 76 z.cs := by
  have R := Row.range r
  have e : ∀ j u, (nmC ch x y z)[j]? = some u → w.cell? ⟨g, j, none⟩ = some u := fun j u hu => by have := R j u hu; rwa [Nat.zero_add] at this
  have lx := x.len hx
  have ly := Vt.len hy
  refine ⟨e 0 _ rfl, fun j u hu => e (1 + j) u ?_, fun j u hu => e (23 + j) u ?_, fun j u hu => e (76 + j) u ?_⟩
  · have hj := (List.getElem?_eq_some_iff.1 hu).1
    rw [show 1 + j = j + 1 by omega]
    simp only [nmC, List.getElem?_cons_succ]
    rw [List.getElem?_append_left hj]
    exact hu
  · have hj := (List.getElem?_eq_some_iff.1 hu).1
    rw [show 23 + j = (22 + j) + 1 by omega]
    simp only [nmC, List.getElem?_cons_succ]
    rw [List.getElem?_append_right (by omega), show 22 + j - x.cs.length = j by omega, List.getElem?_append_left hj]
    exact hu
  · rw [show 76 + j = (75 + j) + 1 by omega]
    simp only [nmC, List.getElem?_cons_succ]
    rw [List.getElem?_append_right (by omega), List.getElem?_append_right (by omega), show 75 + j - x.cs.length - y.cs.length = j by omega]
    exact hu
set_option maxRecDepth 100000 in
set_option maxHeartbeats 8000000 in
theorem signs3 (w : World) (ch : ByteArray) (x : Tx) (y : Vt) (z : Po) (hx : x.ok) (hy : y.fits) (hz : z.ok) : Calls Try.prog 3 #[.agg (nmC ch x y z).toArray] w fun e w' => e = .returned (.bool true) ∧ Turn no w w' := by
  obtain ⟨c0, cT, cV, cP⟩ := (Row.new w (nmC ch x y z).toArray 35).nm hx hy.1
  have sT : (Try.prog.info? 27).map (·.size) = some x.cs.length := by rw [x.len hx]; exact size27
  have sV : (Try.prog.info? 31).map (·.size) = some y.cs.length := by rw [Vt.len hy.1]; exact size29
  have sP : (Try.prog.info? 33).map (·.size) = some z.cs.length := by rw [Po.len hz]; exact size33
  have C7 := fun W => txBytes7 W ch x hx
  have C8 := fun W => voteBytes8 W ch y hy
  have C9 := fun W => propBytes9 W ch z hz
  have C10 := fun W => rtxBytes10 W ch x hx
  have C11 := fun W => rvoteBytes11 W ch y hy
  have C12 := fun W => rpropBytes12 W ch z hz
  have lA : (sB ch x).length + 50 ≤ 140737488355328 := by
    unfold sB
    split
    · have hp := plainS_zero (by assumption)
      have := txB_len x
      have a1 := varE_le ch.size
      have a2 : ch.data.toList.length = ch.size := by rw [Array.length_toList]; rfl
      simp only [stB, List.length_append, leB_length]
      omega
    · simp
  have lB : (sBv ch y).length + 50 ≤ 140737488355328 := by
    unfold sBv
    split
    · have hp := plainSv_zero (by assumption)
      have := voB_len (x := y) hy.1.1
      have a1 := varE_le ch.size
      have a2 : ch.data.toList.length = ch.size := by rw [Array.length_toList]; rfl
      simp only [stBv, List.length_append, leB_length]
      omega
    · simp
  have lC : (sBp ch z).length + 50 ≤ 140737488355328 := by
    unfold sBp
    split
    · have hp := plainSp_zero (by assumption)
      have := poB_len (x := z) hz.1
      have a1 := varE_le ch.size
      have a2 : ch.data.toList.length = ch.size := by rw [Array.length_toList]; rfl
      simp only [stBp, List.length_append, leB_length]
      omega
    · simp
  generalize plainS ch x = e1 at *
  generalize sB ch x = A1 at *
  generalize plainSv ch y = e2 at *
  generalize sBv ch y = A2 at *
  generalize plainSp ch z = e3 at *
  generalize sBp ch z = A3 at *
  generalize (nmC ch x y z).toArray = C at *
  generalize x.cs = DT at *
  generalize y.cs = DV at *
  generalize z.cs = DP at *
  have t0 : Turn no w (w.alloc (.cells C 35)) := (Turn.refl no w).alloc _
  have hsz : (w.alloc (.cells C 35)).heap.size = w.heap.size + 1 := by simp
  obtain ⟨w1, hw1⟩ : ∃ W, w.alloc (.cells C 35) = W := ⟨_, rfl⟩
  rw [hw1] at t0 c0 cT cV cP hsz
  have Hc := shutX (fun W (t : Turn (fun g => w1.heap.size ≤ g) w1 W) => And.intro (t.keep c0 (fun q => by simp only at q; omega)) (And.intro (fun j u hu => t.keep (cT j u hu) (fun q => by simp only at q; omega) : W.rangeAt w.heap.size 1 DT) (And.intro (fun j u hu => t.keep (cV j u hu) (fun q => by simp only at q; omega) : W.rangeAt w.heap.size 23 DV) (fun j u hu => t.keep (cP j u hu) (fun q => by simp only at q; omega) : W.rangeAt w.heap.size 76 DP))))
  have HL := shutX (And.intro lA (And.intro lB (And.intro lC hsz)))
  have HS := shutX (And.intro sT (And.intro sV sP))
  have HK := shutX (And.intro C7 (And.intro C8 (And.intro C9 (And.intro C10 (And.intro C11 C12)))))
  have N13 := num13
  clear hx hy hz sT sV sP C7 C8 C9 C10 C11 C12 lA lB lC hsz cT cV cP c0
  go_enter Try.func3, Try.ntmps3
  go_upto_region 1 with fail
  try rw [hw1]
  obtain ⟨b, hbb⟩ : ∃ b, w.heap.size = b := ⟨_, rfl⟩
  rw [hbb] at Hc
  try rw [hbb]
  have Hbb := shutX hbb
  clear hbb hw1
  have U1 : Turn no w1 w1 := Turn.refl _ _
  obtain ⟨d0, m0⟩ : w1.cell? ⟨b, 0, none⟩ = some (.string ch) ∧ w1.rangeAt b 1 DT := ⟨(Hc.out w1 U1.of_no).1, (Hc.out w1 U1.of_no).2.1⟩
  have K0 := HK.out.1 w1
  have z0 := HS.out.1
  go_upto_region 2 with (first | (guard_target =~ wpList _ _ _ ({ dst := _, op := Op.load 27 _, .. } :: _) _ _; refine wpList_load_mid rfl 27 (.tmp 20) rfl b 1 rfl DT _ m0 Try.underlying27 rfl z0 ?_) | (go_at_call 7; refine K0.mono ?_; rintro e w2 ⟨va, rfl, oa0, na, ta⟩; obtain ⟨aa, la, ca, rfl⟩ := oa0.form))
  clear K0 z0 d0 m0
  have U2 := U1.then_no ta
  obtain ⟨d1, m1⟩ : w2.cell? ⟨b, 0, none⟩ = some (.string ch) ∧ w2.rangeAt b 23 DV := ⟨(Hc.out w2 U2.of_no).1, (Hc.out w2 U2.of_no).2.2.1⟩
  have K1 := HK.out.2.1 w2
  have z1 := HS.out.2.1
  go_upto_region 3 with (first | (guard_target =~ wpList _ _ _ ({ dst := _, op := Op.load 31 _, .. } :: _) _ _; refine wpList_load_mid rfl 31 (.tmp 28) rfl b 23 rfl DV _ m1 Try.underlying31 rfl z1 ?_) | (go_at_call 8; refine K1.mono ?_; rintro e w3 ⟨vb, rfl, ob0, nb, tb⟩; obtain ⟨ab, lb, cb, rfl⟩ := ob0.form))
  clear K1 z1 d1 m1
  have U3 := U2.then_no tb
  have oa1 := oa0.turn_no tb
  obtain ⟨d2, m2⟩ : w3.cell? ⟨b, 0, none⟩ = some (.string ch) ∧ w3.rangeAt b 76 DP := ⟨(Hc.out w3 U3.of_no).1, (Hc.out w3 U3.of_no).2.2.2⟩
  have K2 := HK.out.2.2.1 w3
  have z2 := HS.out.2.2
  go_upto_region 4 with (first | (guard_target =~ wpList _ _ _ ({ dst := _, op := Op.load 33 _, .. } :: _) _ _; refine wpList_load_mid rfl 33 (.tmp 36) rfl b 76 rfl DP _ m2 Try.underlying33 rfl z2 ?_) | (go_at_call 9; refine K2.mono ?_; rintro e w4 ⟨vc, rfl, oc0, nc, tc⟩; obtain ⟨ac, lc, cc, rfl⟩ := oc0.form))
  clear K2 z2 d2 m2
  have U4 := U3.then_no tc
  have oa2 := oa1.turn_no tc
  have ob1 := ob0.turn_no tc
  obtain ⟨d3, m3⟩ : w4.cell? ⟨b, 0, none⟩ = some (.string ch) ∧ w4.rangeAt b 1 DT := ⟨(Hc.out w4 U4.of_no).1, (Hc.out w4 U4.of_no).2.1⟩
  have K3 := HK.out.2.2.2.1 w4
  have z3 := HS.out.1
  go_upto_region 5 with (first | (guard_target =~ wpList _ _ _ ({ dst := _, op := Op.load 27 _, .. } :: _) _ _; refine wpList_load_mid rfl 27 (.tmp 44) rfl b 1 rfl DT _ m3 Try.underlying27 rfl z3 ?_) | (go_at_call 10; refine K3.mono ?_; rintro e w5 ⟨vp, rfl, op0, np, tp⟩; obtain ⟨ap, lp, cp, rfl⟩ := op0.form))
  clear K3 z3 d3 m3
  have U5 := U4.then_no tp
  have oa3 := oa2.turn_no tp
  have ob2 := ob1.turn_no tp
  have oc1 := oc0.turn_no tp
  obtain ⟨d4, m4⟩ : w5.cell? ⟨b, 0, none⟩ = some (.string ch) ∧ w5.rangeAt b 23 DV := ⟨(Hc.out w5 U5.of_no).1, (Hc.out w5 U5.of_no).2.2.1⟩
  have K4 := HK.out.2.2.2.2.1 w5
  have z4 := HS.out.2.1
  go_upto_region 6 with (first | (guard_target =~ wpList _ _ _ ({ dst := _, op := Op.load 31 _, .. } :: _) _ _; refine wpList_load_mid rfl 31 (.tmp 52) rfl b 23 rfl DV _ m4 Try.underlying31 rfl z4 ?_) | (go_at_call 11; refine K4.mono ?_; rintro e w6 ⟨vq, rfl, oq0, nq, tq⟩; obtain ⟨aq, lq, cq, rfl⟩ := oq0.form))
  clear K4 z4 d4 m4
  have U6 := U5.then_no tq
  have oa4 := oa3.turn_no tq
  have ob3 := ob2.turn_no tq
  have oc2 := oc1.turn_no tq
  have op1 := op0.turn_no tq
  obtain ⟨d5, m5⟩ : w6.cell? ⟨b, 0, none⟩ = some (.string ch) ∧ w6.rangeAt b 76 DP := ⟨(Hc.out w6 U6.of_no).1, (Hc.out w6 U6.of_no).2.2.2⟩
  have K5 := HK.out.2.2.2.2.2 w6
  have z5 := HS.out.2.2
  go_upto_region 7 with (first | (guard_target =~ wpList _ _ _ ({ dst := _, op := Op.load 33 _, .. } :: _) _ _; refine wpList_load_mid rfl 33 (.tmp 60) rfl b 76 rfl DP _ m5 Try.underlying33 rfl z5 ?_) | (go_at_call 12; refine K5.mono ?_; rintro e w7 ⟨vr, rfl, or0, nr, tr⟩; obtain ⟨ar, lr, cr, rfl⟩ := or0.form))
  clear K5 z5 d5 m5
  have U7 := U6.then_no tr
  have oa5 := oa4.turn_no tr
  have ob4 := ob3.turn_no tr
  have oc3 := oc2.turn_no tr
  have op2 := op1.turn_no tr
  have oq1 := oq0.turn_no tr
  have b1 := oa5
  have b2 := ob4
  have b3 := oc3
  have b4 := op2
  have b5 := oq1
  have b6 := or0
  have S1 : ∀ W, Turn no w7 W → Calls Try.prog 14 #[.slice aa la ca, .slice ap lp cp] W fun e w' => e = .returned (.bool true) ∧ ∃ n, w' = W.drewN n := fun W t => (same14 W _ _ A1 A1 (b1.bs.turn_no t) (b4.bs.turn_no t)).mono (fun e w' ⟨q1, q2⟩ => ⟨by rw [q1]; simp, q2⟩)
  have S2 : ∀ W, Turn no w7 W → Calls Try.prog 14 #[.slice ab lb cb, .slice aq lq cq] W fun e w' => e = .returned (.bool true) ∧ ∃ n, w' = W.drewN n := fun W t => (same14 W _ _ A2 A2 (b2.bs.turn_no t) (b5.bs.turn_no t)).mono (fun e w' ⟨q1, q2⟩ => ⟨by rw [q1]; simp, q2⟩)
  have S3 : ∀ W, Turn no w7 W → Calls Try.prog 14 #[.slice ac lc cc, .slice ar lr cr] W fun e w' => e = .returned (.bool true) ∧ ∃ n, w' = W.drewN n := fun W t => (same14 W _ _ A3 A3 (b3.bs.turn_no t) (b6.bs.turn_no t)).mono (fun e w' ⟨q1, q2⟩ => ⟨by rw [q1]; simp, q2⟩)
  have HSS := shutX (And.intro S1 (And.intro S2 S3))
  clear S1 S2 S3
  have La : ∀ g, (Value.slice aa la ca).ownBlock = some g → w1.heap.size ≤ g ∧ g < w2.heap.size := fun g hg => ⟨na g hg, oa0.lt hg⟩
  have Lb : ∀ g, (Value.slice ab lb cb).ownBlock = some g → w2.heap.size ≤ g ∧ g < w3.heap.size := fun g hg => ⟨nb g hg, ob0.lt hg⟩
  have Lc : ∀ g, (Value.slice ac lc cc).ownBlock = some g → w3.heap.size ≤ g ∧ g < w4.heap.size := fun g hg => ⟨nc g hg, oc0.lt hg⟩
  have Lq : ∀ g, (Value.slice aq lq cq).ownBlock = some g → w5.heap.size ≤ g := nq
  have SZ := shutX (And.intro ta.size (And.intro tb.size (And.intro tc.size (And.intro tp.size (And.intro tq.size tr.size)))))
  have HB := shutX (And.intro b1 (And.intro b2 (And.intro b3 (And.intro b5 (And.intro La (And.intro Lb (And.intro Lc (And.intro Lq U7))))))))
  clear b1 b2 b3 b4 b5 b6 La Lb Lc Lq
  clear oa0 oa1 oa2 oa3 oa4 oa5 ob0 ob1 ob2 ob3 ob4 oc0 oc1 oc2 oc3 op0 op1 op2 oq0 oq1 or0 na nb nc np nq nr ta tb tc tp tq tr U1 U2 U3 U4 U5 U6 U7
  go_upto_region 9 with (first | (go_at_call 13; refine (N13 _ _).mono ?_; rintro e w' ⟨rfl, rfl⟩) | (go_at_call 14; refine (HSS.out.1 _ (Turn.refl _ _)).mono ?_; rintro e w' ⟨rfl, j1, rfl⟩; have G2 := shutX (HSS.out.2.1 (w7.drewN j1) ((Turn.refl no w7).drewN j1)); have G4 := shutX HSS.out.2.2; clear HSS) | (go_at_call 14; refine G2.out.mono ?_; rintro e w' ⟨rfl, j2, rfl⟩; have G3 := shutX (G4.out (w7.drewN (j1 + j2)) ((Turn.refl no w7).drewN _)); clear G2 G4) | (go_at_call 14; refine G3.out.mono ?_; rintro e w' ⟨rfl, j3, rfl⟩; clear G3))
  obtain ⟨w8, hw8⟩ : ∃ W, w7.drewN (j1 + j2 + j3) = W := ⟨_, rfl⟩
  have t8 : Turn no w7 w8 := by rw [← hw8]; exact (Turn.refl no w7).drewN _
  rw [hw8]
  clear hw8
  have sz8 := t8.size
  have f1 := HB.out.1.turn_no t8
  have f2 := HB.out.2.1.turn_no t8
  have f3 := HB.out.2.2.1.turn_no t8
  have f5 := HB.out.2.2.2.1.bs.turn_no t8
  have D1 : Calls Try.prog 15 #[.slice aa la ca, .int .u8 1] w8 _ := turn15 w8 _ A1 1 f1 HL.out.1
  go_upto_region 10 with (go_at_call 15; refine D1.mono ?_; rintro e w9 ⟨vA, rfl, -, t9, -⟩; clear D1)
  have g2 := f2.turn t9 (fun g hg q => by have := HB.out.2.2.2.2.1 g q; have := HB.out.2.2.2.2.2.1 g hg; omega)
  have g3 := f3.turn t9 (fun g hg q => by have := HB.out.2.2.2.2.1 g q; have := HB.out.2.2.2.2.2.2.1 g hg; have := SZ.out; omega)
  have g5 := f5.turn t9 (fun g hg q => by have := HB.out.2.2.2.2.1 g q; have := HB.out.2.2.2.2.2.2.2.1 g hg; have := SZ.out; omega)
  have D2 : Calls Try.prog 15 #[.slice ab lb cb, .int .u8 2] w9 _ := turn15 w9 _ A2 2 g2 HL.out.2.1
  clear f1 f2 f3 f5
  go_upto_region 11 with (go_at_call 15; refine D2.mono ?_; rintro e w10 ⟨vB, rfl, -, t10, -⟩; clear D2)
  have h3 := g3.turn t10 (fun g hg q => by have := HB.out.2.2.2.2.2.1 g q; have := HB.out.2.2.2.2.2.2.1 g hg; omega)
  have h5 := g5.turn t10 (fun g hg q => by have := HB.out.2.2.2.2.2.1 g q; have := HB.out.2.2.2.2.2.2.2.1 g hg; have := SZ.out; omega)
  have D3 : Calls Try.prog 15 #[.slice ac lc cc, .int .u8 3] w10 _ := turn15 w10 _ A3 3 h3 HL.out.2.2.1
  clear g2 g3 g5
  go_upto_region 12 with (go_at_call 15; refine D3.mono ?_; rintro e w11 ⟨vC, rfl, -, t11, -⟩; clear D3)
  have i5 := h5.turn t11 (fun g hg q => by have := HB.out.2.2.2.2.2.2.1 g q; have := HB.out.2.2.2.2.2.2.2.1 g hg; have := SZ.out; omega)
  clear h3 h5
  have U8 : Turn (fun g => w1.heap.size ≤ g) w1 w11 := (((HB.out.2.2.2.2.2.2.2.2.then_no t8).of_no.trans t9 (fun g _ q => (HB.out.2.2.2.2.1 g q).1)).trans t10 (fun g _ q => by have := HB.out.2.2.2.2.2.1 g q; have := SZ.out; show w1.heap.size ≤ g; omega)).trans t11 (fun g _ q => by have := HB.out.2.2.2.2.2.2.1 g q; have := SZ.out; show w1.heap.size ≤ g; omega)
  have HU := shutX (And.intro U8 i5)
  clear U8 i5 t8 t9 t10 t11 sz8
  have d9 := (Hc.out w11 HU.out.1).1
  have m9 := (Hc.out w11 HU.out.1).2.2.1
  have K9 := HK.out.2.1 w11
  have z9 := HS.out.2.1
  go_upto_region 13 with (first | (guard_target =~ wpList _ _ _ ({ dst := _, op := Op.load 31 _, .. } :: _) _ _; refine wpList_load_mid rfl 31 (.tmp 108) rfl b 23 rfl DV _ m9 Try.underlying31 rfl z9 ?_) | (go_at_call 8; refine K9.mono ?_; rintro e w12 ⟨vd, rfl, od0, nd, td⟩; obtain ⟨ad, ld, cd, rfl⟩ := od0.form))
  clear K9 z9 d9 m9
  have SD : Calls Try.prog 14 #[.slice ad ld cd, .slice aq lq cq] w12 fun e w' => e = .returned (.bool true) ∧ ∃ n, w' = w12.drewN n := (same14 w12 _ _ A2 A2 od0.bs (HU.out.2.turn_no td)).mono (fun e w' ⟨q1, q2⟩ => ⟨by rw [q1]; simp, q2⟩)
  clear od0 nd
  go_wp2_with (first | (go_at_call 13; refine (N13 _ _).mono ?_; rintro e w' ⟨rfl, rfl⟩) | (go_at_call 14; refine SD.mono ?_; rintro e w' ⟨rfl, j9, rfl⟩; clear SD))
  go_ret
  refine ⟨rfl, ?_⟩
  have tA : Turn no w w11 := t0.trans HU.out.1 (fun g hg q => by have q2 : w1.heap.size ≤ g := q; have := t0.size; omega)
  exact (tA.then_no td).drewN _
end Go.Proofs.Ytpfjllkmaogafaa
