/- verifyGap. -/
import Derived.Test.YtlacfenenbblaaaGreatDoorY4
namespace Go.Proofs.YtlacfenenbblaaaGreatDoor
open Go.RowKit
set_option linter.unusedVariables false

def gpB (a : Nat) (m n : Ac) (q s : Pf) : Bool := (decide (a ≤ m.ad)) || (decide (n.ad ≤ a)) || (s.t != q.t) || (s.i != IntKind.i64.wrap (q.i + 1))
def gpE (X R : List UInt8) (a : Nat) (m n : Ac) (q s : Pf) : Int := if gpB a m n q s = true then 20 else if tpE X R q m = 0 then verE (tpH X R q m) s.t s.i s.A (formB n) else tpE X R q m
set_option maxRecDepth 100000 in
set_option maxHeartbeats 16000000 in
theorem gap12 (w : World) (hl : Laid1 w) (h2 : 2 ≤ w.heap.size) (X R : List UInt8) (hX : X.length = 32) (hR : R.length = 32) (a : Nat) (va vp : Value) (m n : Ac) (l : List Ac) (q s : Pf) (qs : List Pf) (ha : As w va (m :: n :: l)) (hq : Qs w vp (q :: s :: qs)) :
    Calls Tryz.prog 32 #[.agg (hb32 X), .int .u64 a, .agg (wtL R va vp).toArray] w fun e w' => e = .returned (.int .i64 (gpE X R a m n q s)) ∧ Turn no w w' := by
  have HTOP : Shut (∀ W, Turn no w W → Calls Tryz.prog 64 #[.agg (hb32 X), .agg (wtL R va vp).toArray] W fun e w' => e = .returned (.tuple #[.agg (hb32 (tpH X R q m)), .int .i64 (tpE X R q m)]) ∧ Turn no W w') := fun W t => topOf29 W (hl.turn t (fun q => q)) (by have := t.size; omega) X R hX hR va vp m (n :: l) q (s :: qs) (ha.turn_no t) (by obtain ⟨p, c, e, h⟩ := hq; exact ⟨p, c, e, h.turn_no t⟩)
  obtain ⟨a0, ca, rfl, hA⟩ := ha
  obtain ⟨p0, cp, rfl, hQ⟩ := hq
  have HON : Shut n.ok := hA.ok n (by simp)
  obtain ⟨ab, ao, rfl, ra⟩ := hA.range 0 m rfl
  obtain ⟨ab1, ao1, e0, rn⟩ := hA.range 1 n rfl
  cases e0
  obtain ⟨pb, po, a', c', e1, hs, rp⟩ := hQ.cells 0 q rfl
  cases e1
  obtain ⟨pb1, po1, b', d', e2, hs2, rs⟩ := hQ.cells 1 s rfl
  cases e2
  rw [Nat.zero_mul, Nat.add_zero] at ra rp
  rw [Nat.one_mul] at rn rs
  obtain ⟨na, hna⟩ : ∃ n', Hid ((m :: n :: l).length = n') := ⟨_, rfl⟩
  obtain ⟨np, hnp⟩ : ∃ n, Hid ((q :: s :: qs).length = n) := ⟨_, rfl⟩
  have na0 : 0 < na := by rw [← hna.out]; simp
  have np0 : 0 < np := by rw [← hnp.out]; simp
  have na1 : 1 < na := by rw [← hna.out]; simp
  have np1 : 1 < np := by rw [← hnp.out]; simp
  have nal : na ≤ 9223372036854775807 := by have := hA.le; have := hA.cap; have := hna.out; simp only [maxLen] at *; omega
  have npl : np ≤ 9223372036854775807 := by have := hQ.le; have := hQ.cap; have := hnp.out; simp only [maxLen] at *; omega
  rw [hna.out, hnp.out] at HTOP ⊢
  have lW := wtL_len hR (.slice (some ⟨ab, ao, none⟩) na ca) (.slice (some ⟨pb, po, none⟩) np cp)
  obtain ⟨w0, hw0⟩ : ∃ w0, (w.alloc (.cells (hb32 X) 29)).alloc (.cells (wtL R (.slice (some ⟨ab, ao, none⟩) na ca) (.slice (some ⟨pb, po, none⟩) np cp)).toArray 32) = w0 := ⟨_, rfl⟩
  have T0 : Turn no w w0 := by rw [← hw0]; exact ((Turn.refl no w).alloc _).alloc _
  have RX : Row w0 w.heap.size (hb32 X) 29 := by rw [← hw0]; exact (Row.new w _ 29).alloc _
  have RW : Row w0 (w.heap.size + 1) (wtL R (.slice (some ⟨ab, ao, none⟩) na ca) (.slice (some ⟨pb, po, none⟩) np cp)).toArray 32 := by rw [← hw0]; exact Row.newAt _ _ _ _ (by simp)
  have HC : Shut (∀ W, Turn no w0 W → W.cell? ⟨w.heap.size + 1, 32, none⟩ = some (.slice (some ⟨ab, ao, none⟩) na ca) ∧ W.cell? ⟨w.heap.size + 1, 33, none⟩ = some (.slice (some ⟨pb, po, none⟩) np cp) ∧ W.rangeAt ab ao (acs m) ∧ W.rangeAt ab (ao + 5) (acs n) ∧ W.rangeAt pb po (pfC q a' c') ∧ W.rangeAt pb (po + 3) (pfC s b' d')) := fun W t =>
    ⟨t.keep (RW.cell 32 _ (wtL_32 hR _ _)) (fun q => q), t.keep (RW.cell 33 _ (wtL_33 hR _ _)) (fun q => q), fun j u hu => (T0.then_no t).keep (ra j u hu) (fun q => q), fun j u hu => (T0.then_no t).keep (rn j u hu) (fun q => q), fun j u hu => (T0.then_no t).keep (rp j u hu) (fun q => q), fun j u hu => (T0.then_no t).keep (rs j u hu) (fun q => q)⟩
  have HE : Shut (gpE X R a m n q s = if gpB a m n q s = true then 20 else if tpE X R q m = 0 then verE (tpH X R q m) s.t s.i s.A (formB n) else tpE X R q m) := rfl
  have HB : Shut (gpB a m n q s = ((decide (a ≤ m.ad)) || (decide (n.ad ≤ a)) || (s.t != q.t) || (s.i != IntKind.i64.wrap (q.i + 1)))) := rfl
  have lT := tpH_len X R q m
  have HV : Shut (∀ W v, Turn no w W → Bs W v (formB n) → Calls Tryz.prog 65 #[.agg (hb32 (tpH X R q m)), .agg (pfC s b' d').toArray, v] W fun e w' => e = .returned (.int .i64 (verE (tpH X R q m) s.t s.i s.A (formB n))) ∧ Turn no W w') := fun W v t hb => verify26 W (tpH X R q m) lT s.t s.i s.A b' d' (hs2.turn_no t) v (formB n) hb (hl.turn t (fun q => q)) (by have := t.size; omega)
  have F31 : Shut (∀ W, Calls Tryz.prog 55 #[.agg (acs n).toArray] W fun e w' => ∃ v, e = .returned v ∧ Fr W w' v (formB n)) := fun W => form31 W n HON.out
  have sT := hb32_size lT
  have oT := hb32_one (tpH X R q m)
  have iT := hb32_info lT
  have sZ := hb32_size z32_len
  have iX := hb32_info hX
  have sZT : (hb32 z32).size = (hb32 (tpH X R q m)).size := by rw [sZ, sT]
  have HTR : Shut (hb32 (tpH X R q m) = ((tpH X R q m).map bv).toArray ∧ (Tryz.prog.info? 29).map (·.size) = some ((tpH X R q m).map bv).length) := ⟨rfl, by rw [List.length_map, lT]; exact size35⟩
  have iW : (Tryz.prog.info? 32).map (·.size) = some (wtL R (.slice (some ⟨ab, ao, none⟩) na ca) (.slice (some ⟨pb, po, none⟩) np cp)).toArray.size := by rw [List.size_toArray, lW]; exact size29w
  have iM := acs_info m
  have oM := acs_one m
  have sM : AZ.size = (acs m).toArray.size := rfl
  have iN := acs_info n
  have oN := acs_one n
  have sN : AZ.size = (acs n).toArray.size := rfl
  have iPf := pfC_info q a' c'
  have oPf := pfC_one q a' c'
  have sPf : ZQ.size = (pfC q a' c').toArray.size := rfl
  have iS := pfC_info s b' d'
  have oS := pfC_one s b' d'
  have sS : ZQ.size = (pfC s b' d').toArray.size := rfl
  have zP : (Tryz.prog.info? 47).map (·.size) = some (pfC q a' c').length := size57
  have zS : (Tryz.prog.info? 47).map (·.size) = some (pfC s b' d').length := size57
  have zM : (Tryz.prog.info? 38).map (·.size) = some (acs m).length := size32a
  have zN : (Tryz.prog.info? 38).map (·.size) = some (acs n).length := size32a
  have HM0 : Shut ((acs m).toArray[(0 : Nat)]? = some (.int .u64 m.ad) ∧ (acs n).toArray[(0 : Nat)]? = some (.int .u64 n.ad)) := ⟨rfl, rfl⟩
  have HP0 : Shut (((pfC q a' c').toArray[(0 : Nat)]? = some (.int .i64 q.t) ∧ (pfC q a' c').toArray[(1 : Nat)]? = some (.int .i64 q.i)) ∧ (pfC s b' d').toArray[(0 : Nat)]? = some (.int .i64 s.t) ∧ (pfC s b' d').toArray[(1 : Nat)]? = some (.int .i64 s.i)) := ⟨⟨rfl, rfl⟩, rfl, rfl⟩
  have hzv := zero35v
  have hz32 := zero32v
  have hz57 := zero57v
  have HRW := shut (And.intro RX RW)
  have HT0 := shut T0
  clear hs hs2 rp ra rn rs hA hQ hl h2 RX RW T0 lT lW hX hR sT sZ
  generalize gpE X R a m n q s = EE at *
  generalize gpB a m n q s = BB at *
  generalize tpE X R q m = TE at *
  generalize verE (tpH X R q m) s.t s.i s.A (formB n) = VE at *
  generalize hb32 (tpH X R q m) = TH at *
  generalize (tpH X R q m).map bv = THl at *
  generalize hb32 z32 = Z at *
  generalize AZ = AZ0 at *
  generalize ZQ = ZQ0 at *
  generalize hb32 X = XA at *
  generalize q.i = qi at *
  generalize q.t = qt at *
  generalize s.i = si at *
  generalize s.t = st at *
  generalize pfC q a' c' = PL at *
  generalize pfC s b' d' = SL at *
  generalize acs m = ML at *
  generalize acs n = NL at *
  generalize m.ad = md at *
  generalize n.ad = nd at *
  obtain ⟨P0, hP0⟩ : ∃ A, PL.toArray = A := ⟨_, rfl⟩
  obtain ⟨S0, hS0⟩ : ∃ A, SL.toArray = A := ⟨_, rfl⟩
  obtain ⟨M0, hM0⟩ : ∃ A, ML.toArray = A := ⟨_, rfl⟩
  obtain ⟨N0, hN0⟩ : ∃ A, NL.toArray = A := ⟨_, rfl⟩
  rw [hP0] at iPf oPf sPf HP0
  rw [hS0] at iS oS sS HP0 HV
  rw [hM0] at iM oM sM HM0
  rw [hN0] at iN oN sN HM0 F31
  have HPL := shut hP0
  have HSL := shut hS0
  have HML := shut hM0
  have HNL := shut hN0
  clear hP0 hM0 hS0 hN0
  generalize (wtL R (.slice (some ⟨ab, ao, none⟩) na ca) (.slice (some ⟨pb, po, none⟩) np cp)).toArray = WA at *
  go_enter Tryz.func32, Tryz.ntmps32
  go_upto_region 1 with fail
  try rw [hw0]
  clear hw0
  go_cut [7, 8, 9, 10] from 13 to 28 (fun x y z u wx => ∃ g1 g2 g3 g4, x = .pointer (some ⟨g1, 0, none⟩) ∧ y = .pointer (some ⟨g2, 0, none⟩) ∧ z = .pointer (some ⟨g3, 0, none⟩) ∧ u = .pointer (some ⟨g4, 0, none⟩) ∧ Shut (Row wx g1 M0 38 ∧ Row wx g2 N0 38 ∧ Row wx g3 P0 47 ∧ Row wx g4 S0 47 ∧ Turn no w0 wx))
  case first =>
    refine wp_region_held_drew (S := fun W => Turn no w0 W) (by kernel_rfl) (Turn.refl no w0).drew (fun hHeld => ?_)
    refine' wpAnyH_take (i := 0) (v := .pointer (some ⟨w.heap.size + 1, 32, none⟩)) rfl (by kernel_rfl) (by kernel_rfl) (by kernel_rfl) (fun _ _ _ h => h) (Or.inl ⟨by kernel_rfl, fun W hW => ?y1⟩) hHeld ?r1
    · go_simp
    refine' wpAnyH_take (i := 1) (v := .slice (some ⟨ab, ao, none⟩) na ca) rfl (by kernel_rfl) (by kernel_rfl) (by kernel_rfl) (fun _ _ _ h => h) (Or.inl ⟨by kernel_rfl, fun W hW => ?y2⟩) hHeld ?r2
    · obtain ⟨y0, y1, _⟩ := HC.out W hW
      go_simp
    refine' wpAnyH_take (i := 2) (v := .pointer (some ⟨ab, ao, none⟩)) rfl (by kernel_rfl) (by kernel_rfl) (by kernel_rfl) (fun _ _ _ h => h) (Or.inl ⟨by kernel_rfl, fun W hW => ?y3⟩) hHeld ?r3
    · go_simp
    refine' wpAnyH_take (i := 3) (v := .agg M0) rfl (by kernel_rfl) (by kernel_rfl) (by kernel_rfl) (fun _ _ _ h => h) (by rw [← HML.out]; exact yieldsIf_load_mid (by kernel_rfl) 38 (.tmp 15) rfl ab (ao) (by kernel_rfl) ML _ (fun W h => (HC.out W h).2.2.1) Tryz.underlying38 rfl zM) hHeld ?s0
    refine' wpAnyH_take (i := 4) (v := .pointer (some ⟨w.heap.size + 1, 32, none⟩)) rfl (by kernel_rfl) (by kernel_rfl) (by kernel_rfl) (fun _ _ _ h => h) (Or.inl ⟨by kernel_rfl, fun W hW => ?y4⟩) hHeld ?r4
    · go_simp
    refine' wpAnyH_take (i := 5) (v := .slice (some ⟨ab, ao, none⟩) na ca) rfl (by kernel_rfl) (by kernel_rfl) (by kernel_rfl) (fun _ _ _ h => h) (Or.inl ⟨by kernel_rfl, fun W hW => ?y5⟩) hHeld ?r5
    · obtain ⟨y0, y1, _⟩ := HC.out W hW
      go_simp
    refine' wpAnyH_take (i := 6) (v := .pointer (some ⟨ab, ao + 5, none⟩)) rfl (by kernel_rfl) (by kernel_rfl) (by kernel_rfl) (fun _ _ _ h => h) (Or.inl ⟨by kernel_rfl, fun W hW => ?y6⟩) hHeld ?r6
    · go_simp
      intro hq7
      omega
    refine' wpAnyH_take (i := 7) (v := .agg N0) rfl (by kernel_rfl) (by kernel_rfl) (by kernel_rfl) (fun _ _ _ h => h) (by rw [← HNL.out]; exact yieldsIf_load_mid (by kernel_rfl) 38 (.tmp 19) rfl ab (ao + 5) (by kernel_rfl) NL _ (fun W h => (HC.out W h).2.2.2.1) Tryz.underlying38 rfl zN) hHeld ?s4
    refine' wpAnyH_take (i := 8) (v := .pointer (some ⟨w.heap.size + 1, 33, none⟩)) rfl (by kernel_rfl) (by kernel_rfl) (by kernel_rfl) (fun _ _ _ h => h) (Or.inl ⟨by kernel_rfl, fun W hW => ?y7⟩) hHeld ?r7
    · go_simp
    refine' wpAnyH_take (i := 9) (v := .slice (some ⟨pb, po, none⟩) np cp) rfl (by kernel_rfl) (by kernel_rfl) (by kernel_rfl) (fun _ _ _ h => h) (Or.inl ⟨by kernel_rfl, fun W hW => ?y8⟩) hHeld ?r8
    · obtain ⟨y0, y1, _⟩ := HC.out W hW
      go_simp
    refine' wpAnyH_take (i := 10) (v := .pointer (some ⟨pb, po, none⟩)) rfl (by kernel_rfl) (by kernel_rfl) (by kernel_rfl) (fun _ _ _ h => h) (Or.inl ⟨by kernel_rfl, fun W hW => ?y9⟩) hHeld ?r9
    · go_simp
    refine' wpAnyH_take (i := 11) (v := .agg P0) rfl (by kernel_rfl) (by kernel_rfl) (by kernel_rfl) (fun _ _ _ h => h) (by rw [← HPL.out]; exact yieldsIf_load_mid (by kernel_rfl) 47 (.tmp 23) rfl pb (po) (by kernel_rfl) PL _ (fun W h => (HC.out W h).2.2.2.2.1) Tryz.underlying47 rfl zP) hHeld ?s8
    refine' wpAnyH_take (i := 12) (v := .pointer (some ⟨w.heap.size + 1, 33, none⟩)) rfl (by kernel_rfl) (by kernel_rfl) (by kernel_rfl) (fun _ _ _ h => h) (Or.inl ⟨by kernel_rfl, fun W hW => ?y10⟩) hHeld ?r10
    · go_simp
    refine' wpAnyH_take (i := 13) (v := .slice (some ⟨pb, po, none⟩) np cp) rfl (by kernel_rfl) (by kernel_rfl) (by kernel_rfl) (fun _ _ _ h => h) (Or.inl ⟨by kernel_rfl, fun W hW => ?y11⟩) hHeld ?r11
    · obtain ⟨y0, y1, _⟩ := HC.out W hW
      go_simp
    refine' wpAnyH_take (i := 14) (v := .pointer (some ⟨pb, po + 3, none⟩)) rfl (by kernel_rfl) (by kernel_rfl) (by kernel_rfl) (fun _ _ _ h => h) (Or.inl ⟨by kernel_rfl, fun W hW => ?y12⟩) hHeld ?r12
    · go_simp
      intro hq7
      omega
    refine' wpAnyH_take (i := 15) (v := .agg S0) rfl (by kernel_rfl) (by kernel_rfl) (by kernel_rfl) (fun _ _ _ h => h) (by rw [← HSL.out]; exact yieldsIf_load_mid (by kernel_rfl) 47 (.tmp 27) rfl pb (po + 3) (by kernel_rfl) SL _ (fun W h => (HC.out W h).2.2.2.2.2) Tryz.underlying47 rfl zS) hHeld ?s12
    obtain ⟨X0, hX0⟩ : ∃ X, w0.drew = X := ⟨_, rfl⟩
    rw [hX0] at hHeld ⊢
    clear hX0
    refine wpAnyH_ready (rs := [16, 17, 18, 19]) (by kernel_rfl) (by simp) ?_
    refine AllReadyH.cons rfl (fun K hK => ?_) (AllReadyH.cons rfl (fun K hK => ?_) (AllReadyH.cons rfl (fun K hK => ?_) (AllReadyH.cons rfl (fun K hK => ?_) AllReadyH.nil)))
    · skip
      go_simp
      have hs1 := hHeld.size
      refine hK.out _ _ (hHeld.alloc _) (fun hHeld => ?_)
      clear hK
      obtain ⟨X1, hX1⟩ : ∃ X, X0.alloc (.cells AZ0 38) = X := ⟨_, rfl⟩
      have r1 : Row X1 X0.heap.size AZ0 38 := by rw [← hX1]; exact Row.new X0 _ _
      rw [hX1] at hHeld ⊢
      clear hX1
      generalize X0.heap.size = g1 at *
      refine wpAnyH_ready (rs := [17, 18, 19]) (by kernel_rfl) (by simp) ?_
      refine AllReadyH.cons rfl (fun K hK => ?_) (AllReadyH.cons rfl (fun K hK => ?_) (AllReadyH.cons rfl (fun K hK => ?_) AllReadyH.nil))
      · skip
        go_simp
        have hs2 := hHeld.size
        have lt2m := Row.lt r1
        refine hK.out _ _ (hHeld.alloc _) (fun hHeld => ?_)
        clear hK
        obtain ⟨X2, hX2⟩ : ∃ X, X1.alloc (.cells AZ0 38) = X := ⟨_, rfl⟩
        have r2 : Row X2 X1.heap.size AZ0 38 := by rw [← hX2]; exact Row.new X1 _ _
        have r1 : Row X2 g1 AZ0 38 := by rw [← hX2]; exact Row.alloc r1 _
        rw [hX2] at hHeld ⊢
        clear hX2
        generalize X1.heap.size = g2 at *
        refine wpAnyH_ready (rs := [18, 19]) (by kernel_rfl) (by simp) ?_
        refine AllReadyH.cons rfl (fun K hK => ?_) (AllReadyH.cons rfl (fun K hK => ?_) AllReadyH.nil)
        · skip
          go_simp
          have hs3 := hHeld.size
          have lt3m := Row.lt r1
          have lt3n := Row.lt r2
          refine hK.out _ _ (hHeld.alloc _) (fun hHeld => ?_)
          clear hK
          obtain ⟨X3, hX3⟩ : ∃ X, X2.alloc (.cells ZQ0 47) = X := ⟨_, rfl⟩
          have r3 : Row X3 X2.heap.size ZQ0 47 := by rw [← hX3]; exact Row.new X2 _ _
          have r1 : Row X3 g1 AZ0 38 := by rw [← hX3]; exact Row.alloc r1 _
          have r2 : Row X3 g2 AZ0 38 := by rw [← hX3]; exact Row.alloc r2 _
          rw [hX3] at hHeld ⊢
          clear hX3
          generalize X2.heap.size = g3 at *
          refine wpAnyH_ready (rs := [19]) (by kernel_rfl) (by simp) ?_
          refine AllReadyH.cons rfl (fun K hK => ?_) AllReadyH.nil
          go_simp
          have hs4 := hHeld.size
          have lt4m := Row.lt r1
          have lt4n := Row.lt r2
          have lt4p := Row.lt r3
          refine hK.out _ _ (hHeld.alloc _) (fun hHeld => ?_)
          clear hK
          obtain ⟨X4, hX4⟩ : ∃ X, X3.alloc (.cells ZQ0 47) = X := ⟨_, rfl⟩
          have r4 : Row X4 X3.heap.size ZQ0 47 := by rw [← hX4]; exact Row.new X3 _ _
          have r1 : Row X4 g1 AZ0 38 := by rw [← hX4]; exact Row.alloc r1 _
          have r2 : Row X4 g2 AZ0 38 := by rw [← hX4]; exact Row.alloc r2 _
          have r3 : Row X4 g3 ZQ0 47 := by rw [← hX4]; exact Row.alloc r3 _
          rw [hX4] at hHeld ⊢
          clear hX4
          generalize X3.heap.size = g4 at *
          refine wpAnyH_ready (rs := [20]) (by kernel_rfl) (by simp) ?_
          refine AllReadyH.cons rfl (fun K hK => ?_) AllReadyH.nil
          rw [if_pos (by rfl)]
          refine wp_store_row 38 _ _ rfl g1 M0 rfl rfl 38 AZ0 r1 iM sM oM ?_
          have r2 : Row (X4.setRow g1 M0) g2 AZ0 38 := Row.setOther r2 (by omega) M0
          have r3 : Row (X4.setRow g1 M0) g3 ZQ0 47 := Row.setOther r3 (by omega) M0
          have r4 : Row (X4.setRow g1 M0) g4 ZQ0 47 := Row.setOther r4 (by omega) M0
          have r1 : Row (X4.setRow g1 M0) g1 M0 38 := setRow_heap X4 g1 _ M0 38 _ r1
          have T5 : Turn no w0 (X4.setRow g1 M0) := hHeld.setRow g1 M0 (fun q => by omega)
          refine hK.out _ _ T5 (fun hHeld => ?_)
          clear hK
          clear T5
          obtain ⟨Y5, hY5⟩ : ∃ X, X4.setRow g1 M0 = X := ⟨_, rfl⟩
          rw [hY5] at r1 r2 r3 r4 hHeld ⊢
          clear hY5
          refine wpAnyH_ready (rs := [21]) (by kernel_rfl) (by simp) ?_
          refine AllReadyH.cons rfl (fun K hK => ?_) AllReadyH.nil
          rw [if_pos (by rfl)]
          refine wp_store_row 38 _ _ rfl g2 N0 rfl rfl 38 AZ0 r2 iN sN oN ?_
          have r1 : Row (Y5.setRow g2 N0) g1 M0 38 := Row.setOther r1 (by omega) N0
          have r3 : Row (Y5.setRow g2 N0) g3 ZQ0 47 := Row.setOther r3 (by omega) N0
          have r4 : Row (Y5.setRow g2 N0) g4 ZQ0 47 := Row.setOther r4 (by omega) N0
          have r2 : Row (Y5.setRow g2 N0) g2 N0 38 := setRow_heap Y5 g2 _ N0 38 _ r2
          have T6 : Turn no w0 (Y5.setRow g2 N0) := hHeld.setRow g2 N0 (fun q => by omega)
          refine hK.out _ _ T6 (fun hHeld => ?_)
          clear hK
          clear T6
          obtain ⟨Y6, hY6⟩ : ∃ X, Y5.setRow g2 N0 = X := ⟨_, rfl⟩
          rw [hY6] at r1 r2 r3 r4 hHeld ⊢
          clear hY6
          refine wpAnyH_ready (rs := [22]) (by kernel_rfl) (by simp) ?_
          refine AllReadyH.cons rfl (fun K hK => ?_) AllReadyH.nil
          rw [if_pos (by rfl)]
          refine wp_store_row 47 _ _ rfl g3 P0 rfl rfl 47 ZQ0 r3 iPf sPf oPf ?_
          have r1 : Row (Y6.setRow g3 P0) g1 M0 38 := Row.setOther r1 (by omega) P0
          have r2 : Row (Y6.setRow g3 P0) g2 N0 38 := Row.setOther r2 (by omega) P0
          have r4 : Row (Y6.setRow g3 P0) g4 ZQ0 47 := Row.setOther r4 (by omega) P0
          have r3 : Row (Y6.setRow g3 P0) g3 P0 47 := setRow_heap Y6 g3 _ P0 47 _ r3
          have T7 : Turn no w0 (Y6.setRow g3 P0) := hHeld.setRow g3 P0 (fun q => by omega)
          refine hK.out _ _ T7 (fun hHeld => ?_)
          clear hK
          clear T7
          obtain ⟨Y7, hY7⟩ : ∃ X, Y6.setRow g3 P0 = X := ⟨_, rfl⟩
          rw [hY7] at r1 r2 r3 r4 hHeld ⊢
          clear hY7
          refine wpAnyH_ready (rs := [23]) (by kernel_rfl) (by simp) ?_
          refine AllReadyH.cons rfl (fun K hK => ?_) AllReadyH.nil
          rw [if_pos (by rfl)]
          refine wp_store_row 47 _ _ rfl g4 S0 rfl rfl 47 ZQ0 r4 iS sS oS ?_
          have r1 : Row (Y7.setRow g4 S0) g1 M0 38 := Row.setOther r1 (by omega) S0
          have r2 : Row (Y7.setRow g4 S0) g2 N0 38 := Row.setOther r2 (by omega) S0
          have r3 : Row (Y7.setRow g4 S0) g3 P0 47 := Row.setOther r3 (by omega) S0
          have r4 : Row (Y7.setRow g4 S0) g4 S0 47 := setRow_heap Y7 g4 _ S0 47 _ r4
          have T8 : Turn no w0 (Y7.setRow g4 S0) := hHeld.setRow g4 S0 (fun q => by omega)
          refine hK.out _ _ T8 (fun hHeld => ?_)
          clear hK
          clear T8
          obtain ⟨Y8, hY8⟩ : ∃ X, Y7.setRow g4 S0 = X := ⟨_, rfl⟩
          rw [hY8] at r1 r2 r3 r4 hHeld ⊢
          clear hY8
          refine wpAnyH_done (by kernel_rfl) ?_ _
          go_simp
          go_wp2_with fail
          go_meet
          case rel => exact ⟨g1, g2, g3, g4, rfl, rfl, rfl, rfl, ⟨r1, r2, r3, r4, hHeld⟩⟩
        · skip
          go_simp
          have hs9 := hHeld.size
          have lt9m := Row.lt r1
          have lt9n := Row.lt r2
          refine hK.out _ _ (hHeld.alloc _) (fun hHeld => ?_)
          clear hK
          obtain ⟨X9, hX9⟩ : ∃ X, X2.alloc (.cells ZQ0 47) = X := ⟨_, rfl⟩
          have r9 : Row X9 X2.heap.size ZQ0 47 := by rw [← hX9]; exact Row.new X2 _ _
          have r1 : Row X9 g1 AZ0 38 := by rw [← hX9]; exact Row.alloc r1 _
          have r2 : Row X9 g2 AZ0 38 := by rw [← hX9]; exact Row.alloc r2 _
          rw [hX9] at hHeld ⊢
          clear hX9
          generalize X2.heap.size = g9 at *
          refine wpAnyH_ready (rs := [18]) (by kernel_rfl) (by simp) ?_
          refine AllReadyH.cons rfl (fun K hK => ?_) AllReadyH.nil
          go_simp
          have hs10 := hHeld.size
          have lt10m := Row.lt r1
          have lt10n := Row.lt r2
          have lt10s := Row.lt r9
          refine hK.out _ _ (hHeld.alloc _) (fun hHeld => ?_)
          clear hK
          obtain ⟨X10, hX10⟩ : ∃ X, X9.alloc (.cells ZQ0 47) = X := ⟨_, rfl⟩
          have r10 : Row X10 X9.heap.size ZQ0 47 := by rw [← hX10]; exact Row.new X9 _ _
          have r1 : Row X10 g1 AZ0 38 := by rw [← hX10]; exact Row.alloc r1 _
          have r2 : Row X10 g2 AZ0 38 := by rw [← hX10]; exact Row.alloc r2 _
          have r9 : Row X10 g9 ZQ0 47 := by rw [← hX10]; exact Row.alloc r9 _
          rw [hX10] at hHeld ⊢
          clear hX10
          generalize X9.heap.size = g10 at *
          refine wpAnyH_ready (rs := [20]) (by kernel_rfl) (by simp) ?_
          refine AllReadyH.cons rfl (fun K hK => ?_) AllReadyH.nil
          rw [if_pos (by rfl)]
          refine wp_store_row 38 _ _ rfl g1 M0 rfl rfl 38 AZ0 r1 iM sM oM ?_
          have r2 : Row (X10.setRow g1 M0) g2 AZ0 38 := Row.setOther r2 (by omega) M0
          have r9 : Row (X10.setRow g1 M0) g9 ZQ0 47 := Row.setOther r9 (by omega) M0
          have r10 : Row (X10.setRow g1 M0) g10 ZQ0 47 := Row.setOther r10 (by omega) M0
          have r1 : Row (X10.setRow g1 M0) g1 M0 38 := setRow_heap X10 g1 _ M0 38 _ r1
          have T11 : Turn no w0 (X10.setRow g1 M0) := hHeld.setRow g1 M0 (fun q => by omega)
          refine hK.out _ _ T11 (fun hHeld => ?_)
          clear hK
          clear T11
          obtain ⟨Y11, hY11⟩ : ∃ X, X10.setRow g1 M0 = X := ⟨_, rfl⟩
          rw [hY11] at r1 r2 r9 r10 hHeld ⊢
          clear hY11
          refine wpAnyH_ready (rs := [21]) (by kernel_rfl) (by simp) ?_
          refine AllReadyH.cons rfl (fun K hK => ?_) AllReadyH.nil
          rw [if_pos (by rfl)]
          refine wp_store_row 38 _ _ rfl g2 N0 rfl rfl 38 AZ0 r2 iN sN oN ?_
          have r1 : Row (Y11.setRow g2 N0) g1 M0 38 := Row.setOther r1 (by omega) N0
          have r9 : Row (Y11.setRow g2 N0) g9 ZQ0 47 := Row.setOther r9 (by omega) N0
          have r10 : Row (Y11.setRow g2 N0) g10 ZQ0 47 := Row.setOther r10 (by omega) N0
          have r2 : Row (Y11.setRow g2 N0) g2 N0 38 := setRow_heap Y11 g2 _ N0 38 _ r2
          have T12 : Turn no w0 (Y11.setRow g2 N0) := hHeld.setRow g2 N0 (fun q => by omega)
          refine hK.out _ _ T12 (fun hHeld => ?_)
          clear hK
          clear T12
          obtain ⟨Y12, hY12⟩ : ∃ X, Y11.setRow g2 N0 = X := ⟨_, rfl⟩
          rw [hY12] at r1 r2 r9 r10 hHeld ⊢
          clear hY12
          refine wpAnyH_ready (rs := [22]) (by kernel_rfl) (by simp) ?_
          refine AllReadyH.cons rfl (fun K hK => ?_) AllReadyH.nil
          rw [if_pos (by rfl)]
          refine wp_store_row 47 _ _ rfl g10 P0 rfl rfl 47 ZQ0 r10 iPf sPf oPf ?_
          have r1 : Row (Y12.setRow g10 P0) g1 M0 38 := Row.setOther r1 (by omega) P0
          have r2 : Row (Y12.setRow g10 P0) g2 N0 38 := Row.setOther r2 (by omega) P0
          have r9 : Row (Y12.setRow g10 P0) g9 ZQ0 47 := Row.setOther r9 (by omega) P0
          have r10 : Row (Y12.setRow g10 P0) g10 P0 47 := setRow_heap Y12 g10 _ P0 47 _ r10
          have T13 : Turn no w0 (Y12.setRow g10 P0) := hHeld.setRow g10 P0 (fun q => by omega)
          refine hK.out _ _ T13 (fun hHeld => ?_)
          clear hK
          clear T13
          obtain ⟨Y13, hY13⟩ : ∃ X, Y12.setRow g10 P0 = X := ⟨_, rfl⟩
          rw [hY13] at r1 r2 r9 r10 hHeld ⊢
          clear hY13
          refine wpAnyH_ready (rs := [23]) (by kernel_rfl) (by simp) ?_
          refine AllReadyH.cons rfl (fun K hK => ?_) AllReadyH.nil
          rw [if_pos (by rfl)]
          refine wp_store_row 47 _ _ rfl g9 S0 rfl rfl 47 ZQ0 r9 iS sS oS ?_
          have r1 : Row (Y13.setRow g9 S0) g1 M0 38 := Row.setOther r1 (by omega) S0
          have r2 : Row (Y13.setRow g9 S0) g2 N0 38 := Row.setOther r2 (by omega) S0
          have r10 : Row (Y13.setRow g9 S0) g10 P0 47 := Row.setOther r10 (by omega) S0
          have r9 : Row (Y13.setRow g9 S0) g9 S0 47 := setRow_heap Y13 g9 _ S0 47 _ r9
          have T14 : Turn no w0 (Y13.setRow g9 S0) := hHeld.setRow g9 S0 (fun q => by omega)
          refine hK.out _ _ T14 (fun hHeld => ?_)
          clear hK
          clear T14
          obtain ⟨Y14, hY14⟩ : ∃ X, Y13.setRow g9 S0 = X := ⟨_, rfl⟩
          rw [hY14] at r1 r2 r9 r10 hHeld ⊢
          clear hY14
          refine wpAnyH_done (by kernel_rfl) ?_ _
          go_simp
          go_wp2_with fail
          go_meet
          case rel => exact ⟨g1, g2, g10, g9, rfl, rfl, rfl, rfl, ⟨r1, r2, r10, r9, hHeld⟩⟩
      · skip
        go_simp
        have hs15 := hHeld.size
        have lt15m := Row.lt r1
        refine hK.out _ _ (hHeld.alloc _) (fun hHeld => ?_)
        clear hK
        obtain ⟨X15, hX15⟩ : ∃ X, X1.alloc (.cells ZQ0 47) = X := ⟨_, rfl⟩
        have r15 : Row X15 X1.heap.size ZQ0 47 := by rw [← hX15]; exact Row.new X1 _ _
        have r1 : Row X15 g1 AZ0 38 := by rw [← hX15]; exact Row.alloc r1 _
        rw [hX15] at hHeld ⊢
        clear hX15
        generalize X1.heap.size = g15 at *
        refine wpAnyH_ready (rs := [17, 19]) (by kernel_rfl) (by simp) ?_
        refine AllReadyH.cons rfl (fun K hK => ?_) (AllReadyH.cons rfl (fun K hK => ?_) AllReadyH.nil)
        · skip
          go_simp
          have hs16 := hHeld.size
          have lt16m := Row.lt r1
          have lt16p := Row.lt r15
          refine hK.out _ _ (hHeld.alloc _) (fun hHeld => ?_)
          clear hK
          obtain ⟨X16, hX16⟩ : ∃ X, X15.alloc (.cells AZ0 38) = X := ⟨_, rfl⟩
          have r16 : Row X16 X15.heap.size AZ0 38 := by rw [← hX16]; exact Row.new X15 _ _
          have r1 : Row X16 g1 AZ0 38 := by rw [← hX16]; exact Row.alloc r1 _
          have r15 : Row X16 g15 ZQ0 47 := by rw [← hX16]; exact Row.alloc r15 _
          rw [hX16] at hHeld ⊢
          clear hX16
          generalize X15.heap.size = g16 at *
          refine wpAnyH_ready (rs := [19]) (by kernel_rfl) (by simp) ?_
          refine AllReadyH.cons rfl (fun K hK => ?_) AllReadyH.nil
          go_simp
          have hs17 := hHeld.size
          have lt17m := Row.lt r1
          have lt17p := Row.lt r15
          have lt17n := Row.lt r16
          refine hK.out _ _ (hHeld.alloc _) (fun hHeld => ?_)
          clear hK
          obtain ⟨X17, hX17⟩ : ∃ X, X16.alloc (.cells ZQ0 47) = X := ⟨_, rfl⟩
          have r17 : Row X17 X16.heap.size ZQ0 47 := by rw [← hX17]; exact Row.new X16 _ _
          have r1 : Row X17 g1 AZ0 38 := by rw [← hX17]; exact Row.alloc r1 _
          have r15 : Row X17 g15 ZQ0 47 := by rw [← hX17]; exact Row.alloc r15 _
          have r16 : Row X17 g16 AZ0 38 := by rw [← hX17]; exact Row.alloc r16 _
          rw [hX17] at hHeld ⊢
          clear hX17
          generalize X16.heap.size = g17 at *
          refine wpAnyH_ready (rs := [20]) (by kernel_rfl) (by simp) ?_
          refine AllReadyH.cons rfl (fun K hK => ?_) AllReadyH.nil
          rw [if_pos (by rfl)]
          refine wp_store_row 38 _ _ rfl g1 M0 rfl rfl 38 AZ0 r1 iM sM oM ?_
          have r15 : Row (X17.setRow g1 M0) g15 ZQ0 47 := Row.setOther r15 (by omega) M0
          have r16 : Row (X17.setRow g1 M0) g16 AZ0 38 := Row.setOther r16 (by omega) M0
          have r17 : Row (X17.setRow g1 M0) g17 ZQ0 47 := Row.setOther r17 (by omega) M0
          have r1 : Row (X17.setRow g1 M0) g1 M0 38 := setRow_heap X17 g1 _ M0 38 _ r1
          have T18 : Turn no w0 (X17.setRow g1 M0) := hHeld.setRow g1 M0 (fun q => by omega)
          refine hK.out _ _ T18 (fun hHeld => ?_)
          clear hK
          clear T18
          obtain ⟨Y18, hY18⟩ : ∃ X, X17.setRow g1 M0 = X := ⟨_, rfl⟩
          rw [hY18] at r1 r15 r16 r17 hHeld ⊢
          clear hY18
          refine wpAnyH_ready (rs := [21]) (by kernel_rfl) (by simp) ?_
          refine AllReadyH.cons rfl (fun K hK => ?_) AllReadyH.nil
          rw [if_pos (by rfl)]
          refine wp_store_row 38 _ _ rfl g16 N0 rfl rfl 38 AZ0 r16 iN sN oN ?_
          have r1 : Row (Y18.setRow g16 N0) g1 M0 38 := Row.setOther r1 (by omega) N0
          have r15 : Row (Y18.setRow g16 N0) g15 ZQ0 47 := Row.setOther r15 (by omega) N0
          have r17 : Row (Y18.setRow g16 N0) g17 ZQ0 47 := Row.setOther r17 (by omega) N0
          have r16 : Row (Y18.setRow g16 N0) g16 N0 38 := setRow_heap Y18 g16 _ N0 38 _ r16
          have T19 : Turn no w0 (Y18.setRow g16 N0) := hHeld.setRow g16 N0 (fun q => by omega)
          refine hK.out _ _ T19 (fun hHeld => ?_)
          clear hK
          clear T19
          obtain ⟨Y19, hY19⟩ : ∃ X, Y18.setRow g16 N0 = X := ⟨_, rfl⟩
          rw [hY19] at r1 r15 r16 r17 hHeld ⊢
          clear hY19
          refine wpAnyH_ready (rs := [22]) (by kernel_rfl) (by simp) ?_
          refine AllReadyH.cons rfl (fun K hK => ?_) AllReadyH.nil
          rw [if_pos (by rfl)]
          refine wp_store_row 47 _ _ rfl g15 P0 rfl rfl 47 ZQ0 r15 iPf sPf oPf ?_
          have r1 : Row (Y19.setRow g15 P0) g1 M0 38 := Row.setOther r1 (by omega) P0
          have r16 : Row (Y19.setRow g15 P0) g16 N0 38 := Row.setOther r16 (by omega) P0
          have r17 : Row (Y19.setRow g15 P0) g17 ZQ0 47 := Row.setOther r17 (by omega) P0
          have r15 : Row (Y19.setRow g15 P0) g15 P0 47 := setRow_heap Y19 g15 _ P0 47 _ r15
          have T20 : Turn no w0 (Y19.setRow g15 P0) := hHeld.setRow g15 P0 (fun q => by omega)
          refine hK.out _ _ T20 (fun hHeld => ?_)
          clear hK
          clear T20
          obtain ⟨Y20, hY20⟩ : ∃ X, Y19.setRow g15 P0 = X := ⟨_, rfl⟩
          rw [hY20] at r1 r15 r16 r17 hHeld ⊢
          clear hY20
          refine wpAnyH_ready (rs := [23]) (by kernel_rfl) (by simp) ?_
          refine AllReadyH.cons rfl (fun K hK => ?_) AllReadyH.nil
          rw [if_pos (by rfl)]
          refine wp_store_row 47 _ _ rfl g17 S0 rfl rfl 47 ZQ0 r17 iS sS oS ?_
          have r1 : Row (Y20.setRow g17 S0) g1 M0 38 := Row.setOther r1 (by omega) S0
          have r15 : Row (Y20.setRow g17 S0) g15 P0 47 := Row.setOther r15 (by omega) S0
          have r16 : Row (Y20.setRow g17 S0) g16 N0 38 := Row.setOther r16 (by omega) S0
          have r17 : Row (Y20.setRow g17 S0) g17 S0 47 := setRow_heap Y20 g17 _ S0 47 _ r17
          have T21 : Turn no w0 (Y20.setRow g17 S0) := hHeld.setRow g17 S0 (fun q => by omega)
          refine hK.out _ _ T21 (fun hHeld => ?_)
          clear hK
          clear T21
          obtain ⟨Y21, hY21⟩ : ∃ X, Y20.setRow g17 S0 = X := ⟨_, rfl⟩
          rw [hY21] at r1 r15 r16 r17 hHeld ⊢
          clear hY21
          refine wpAnyH_done (by kernel_rfl) ?_ _
          go_simp
          go_wp2_with fail
          go_meet
          case rel => exact ⟨g1, g16, g15, g17, rfl, rfl, rfl, rfl, ⟨r1, r16, r15, r17, hHeld⟩⟩
        · skip
          go_simp
          have hs22 := hHeld.size
          have lt22m := Row.lt r1
          have lt22p := Row.lt r15
          refine hK.out _ _ (hHeld.alloc _) (fun hHeld => ?_)
          clear hK
          obtain ⟨X22, hX22⟩ : ∃ X, X15.alloc (.cells ZQ0 47) = X := ⟨_, rfl⟩
          have r22 : Row X22 X15.heap.size ZQ0 47 := by rw [← hX22]; exact Row.new X15 _ _
          have r1 : Row X22 g1 AZ0 38 := by rw [← hX22]; exact Row.alloc r1 _
          have r15 : Row X22 g15 ZQ0 47 := by rw [← hX22]; exact Row.alloc r15 _
          rw [hX22] at hHeld ⊢
          clear hX22
          generalize X15.heap.size = g22 at *
          refine wpAnyH_ready (rs := [17]) (by kernel_rfl) (by simp) ?_
          refine AllReadyH.cons rfl (fun K hK => ?_) AllReadyH.nil
          go_simp
          have hs23 := hHeld.size
          have lt23m := Row.lt r1
          have lt23p := Row.lt r15
          have lt23s := Row.lt r22
          refine hK.out _ _ (hHeld.alloc _) (fun hHeld => ?_)
          clear hK
          obtain ⟨X23, hX23⟩ : ∃ X, X22.alloc (.cells AZ0 38) = X := ⟨_, rfl⟩
          have r23 : Row X23 X22.heap.size AZ0 38 := by rw [← hX23]; exact Row.new X22 _ _
          have r1 : Row X23 g1 AZ0 38 := by rw [← hX23]; exact Row.alloc r1 _
          have r15 : Row X23 g15 ZQ0 47 := by rw [← hX23]; exact Row.alloc r15 _
          have r22 : Row X23 g22 ZQ0 47 := by rw [← hX23]; exact Row.alloc r22 _
          rw [hX23] at hHeld ⊢
          clear hX23
          generalize X22.heap.size = g23 at *
          refine wpAnyH_ready (rs := [20]) (by kernel_rfl) (by simp) ?_
          refine AllReadyH.cons rfl (fun K hK => ?_) AllReadyH.nil
          rw [if_pos (by rfl)]
          refine wp_store_row 38 _ _ rfl g1 M0 rfl rfl 38 AZ0 r1 iM sM oM ?_
          have r15 : Row (X23.setRow g1 M0) g15 ZQ0 47 := Row.setOther r15 (by omega) M0
          have r22 : Row (X23.setRow g1 M0) g22 ZQ0 47 := Row.setOther r22 (by omega) M0
          have r23 : Row (X23.setRow g1 M0) g23 AZ0 38 := Row.setOther r23 (by omega) M0
          have r1 : Row (X23.setRow g1 M0) g1 M0 38 := setRow_heap X23 g1 _ M0 38 _ r1
          have T24 : Turn no w0 (X23.setRow g1 M0) := hHeld.setRow g1 M0 (fun q => by omega)
          refine hK.out _ _ T24 (fun hHeld => ?_)
          clear hK
          clear T24
          obtain ⟨Y24, hY24⟩ : ∃ X, X23.setRow g1 M0 = X := ⟨_, rfl⟩
          rw [hY24] at r1 r15 r22 r23 hHeld ⊢
          clear hY24
          refine wpAnyH_ready (rs := [21]) (by kernel_rfl) (by simp) ?_
          refine AllReadyH.cons rfl (fun K hK => ?_) AllReadyH.nil
          rw [if_pos (by rfl)]
          refine wp_store_row 38 _ _ rfl g23 N0 rfl rfl 38 AZ0 r23 iN sN oN ?_
          have r1 : Row (Y24.setRow g23 N0) g1 M0 38 := Row.setOther r1 (by omega) N0
          have r15 : Row (Y24.setRow g23 N0) g15 ZQ0 47 := Row.setOther r15 (by omega) N0
          have r22 : Row (Y24.setRow g23 N0) g22 ZQ0 47 := Row.setOther r22 (by omega) N0
          have r23 : Row (Y24.setRow g23 N0) g23 N0 38 := setRow_heap Y24 g23 _ N0 38 _ r23
          have T25 : Turn no w0 (Y24.setRow g23 N0) := hHeld.setRow g23 N0 (fun q => by omega)
          refine hK.out _ _ T25 (fun hHeld => ?_)
          clear hK
          clear T25
          obtain ⟨Y25, hY25⟩ : ∃ X, Y24.setRow g23 N0 = X := ⟨_, rfl⟩
          rw [hY25] at r1 r15 r22 r23 hHeld ⊢
          clear hY25
          refine wpAnyH_ready (rs := [22]) (by kernel_rfl) (by simp) ?_
          refine AllReadyH.cons rfl (fun K hK => ?_) AllReadyH.nil
          rw [if_pos (by rfl)]
          refine wp_store_row 47 _ _ rfl g15 P0 rfl rfl 47 ZQ0 r15 iPf sPf oPf ?_
          have r1 : Row (Y25.setRow g15 P0) g1 M0 38 := Row.setOther r1 (by omega) P0
          have r22 : Row (Y25.setRow g15 P0) g22 ZQ0 47 := Row.setOther r22 (by omega) P0
          have r23 : Row (Y25.setRow g15 P0) g23 N0 38 := Row.setOther r23 (by omega) P0
          have r15 : Row (Y25.setRow g15 P0) g15 P0 47 := setRow_heap Y25 g15 _ P0 47 _ r15
          have T26 : Turn no w0 (Y25.setRow g15 P0) := hHeld.setRow g15 P0 (fun q => by omega)
          refine hK.out _ _ T26 (fun hHeld => ?_)
          clear hK
          clear T26
          obtain ⟨Y26, hY26⟩ : ∃ X, Y25.setRow g15 P0 = X := ⟨_, rfl⟩
          rw [hY26] at r1 r15 r22 r23 hHeld ⊢
          clear hY26
          refine wpAnyH_ready (rs := [23]) (by kernel_rfl) (by simp) ?_
          refine AllReadyH.cons rfl (fun K hK => ?_) AllReadyH.nil
          rw [if_pos (by rfl)]
          refine wp_store_row 47 _ _ rfl g22 S0 rfl rfl 47 ZQ0 r22 iS sS oS ?_
          have r1 : Row (Y26.setRow g22 S0) g1 M0 38 := Row.setOther r1 (by omega) S0
          have r15 : Row (Y26.setRow g22 S0) g15 P0 47 := Row.setOther r15 (by omega) S0
          have r23 : Row (Y26.setRow g22 S0) g23 N0 38 := Row.setOther r23 (by omega) S0
          have r22 : Row (Y26.setRow g22 S0) g22 S0 47 := setRow_heap Y26 g22 _ S0 47 _ r22
          have T27 : Turn no w0 (Y26.setRow g22 S0) := hHeld.setRow g22 S0 (fun q => by omega)
          refine hK.out _ _ T27 (fun hHeld => ?_)
          clear hK
          clear T27
          obtain ⟨Y27, hY27⟩ : ∃ X, Y26.setRow g22 S0 = X := ⟨_, rfl⟩
          rw [hY27] at r1 r15 r22 r23 hHeld ⊢
          clear hY27
          refine wpAnyH_done (by kernel_rfl) ?_ _
          go_simp
          go_wp2_with fail
          go_meet
          case rel => exact ⟨g1, g23, g15, g22, rfl, rfl, rfl, rfl, ⟨r1, r23, r15, r22, hHeld⟩⟩
      · skip
        go_simp
        have hs28 := hHeld.size
        have lt28m := Row.lt r1
        refine hK.out _ _ (hHeld.alloc _) (fun hHeld => ?_)
        clear hK
        obtain ⟨X28, hX28⟩ : ∃ X, X1.alloc (.cells ZQ0 47) = X := ⟨_, rfl⟩
        have r28 : Row X28 X1.heap.size ZQ0 47 := by rw [← hX28]; exact Row.new X1 _ _
        have r1 : Row X28 g1 AZ0 38 := by rw [← hX28]; exact Row.alloc r1 _
        rw [hX28] at hHeld ⊢
        clear hX28
        generalize X1.heap.size = g28 at *
        refine wpAnyH_ready (rs := [17, 18]) (by kernel_rfl) (by simp) ?_
        refine AllReadyH.cons rfl (fun K hK => ?_) (AllReadyH.cons rfl (fun K hK => ?_) AllReadyH.nil)
        · skip
          go_simp
          have hs29 := hHeld.size
          have lt29m := Row.lt r1
          have lt29s := Row.lt r28
          refine hK.out _ _ (hHeld.alloc _) (fun hHeld => ?_)
          clear hK
          obtain ⟨X29, hX29⟩ : ∃ X, X28.alloc (.cells AZ0 38) = X := ⟨_, rfl⟩
          have r29 : Row X29 X28.heap.size AZ0 38 := by rw [← hX29]; exact Row.new X28 _ _
          have r1 : Row X29 g1 AZ0 38 := by rw [← hX29]; exact Row.alloc r1 _
          have r28 : Row X29 g28 ZQ0 47 := by rw [← hX29]; exact Row.alloc r28 _
          rw [hX29] at hHeld ⊢
          clear hX29
          generalize X28.heap.size = g29 at *
          refine wpAnyH_ready (rs := [18]) (by kernel_rfl) (by simp) ?_
          refine AllReadyH.cons rfl (fun K hK => ?_) AllReadyH.nil
          go_simp
          have hs30 := hHeld.size
          have lt30m := Row.lt r1
          have lt30s := Row.lt r28
          have lt30n := Row.lt r29
          refine hK.out _ _ (hHeld.alloc _) (fun hHeld => ?_)
          clear hK
          obtain ⟨X30, hX30⟩ : ∃ X, X29.alloc (.cells ZQ0 47) = X := ⟨_, rfl⟩
          have r30 : Row X30 X29.heap.size ZQ0 47 := by rw [← hX30]; exact Row.new X29 _ _
          have r1 : Row X30 g1 AZ0 38 := by rw [← hX30]; exact Row.alloc r1 _
          have r28 : Row X30 g28 ZQ0 47 := by rw [← hX30]; exact Row.alloc r28 _
          have r29 : Row X30 g29 AZ0 38 := by rw [← hX30]; exact Row.alloc r29 _
          rw [hX30] at hHeld ⊢
          clear hX30
          generalize X29.heap.size = g30 at *
          refine wpAnyH_ready (rs := [20]) (by kernel_rfl) (by simp) ?_
          refine AllReadyH.cons rfl (fun K hK => ?_) AllReadyH.nil
          rw [if_pos (by rfl)]
          refine wp_store_row 38 _ _ rfl g1 M0 rfl rfl 38 AZ0 r1 iM sM oM ?_
          have r28 : Row (X30.setRow g1 M0) g28 ZQ0 47 := Row.setOther r28 (by omega) M0
          have r29 : Row (X30.setRow g1 M0) g29 AZ0 38 := Row.setOther r29 (by omega) M0
          have r30 : Row (X30.setRow g1 M0) g30 ZQ0 47 := Row.setOther r30 (by omega) M0
          have r1 : Row (X30.setRow g1 M0) g1 M0 38 := setRow_heap X30 g1 _ M0 38 _ r1
          have T31 : Turn no w0 (X30.setRow g1 M0) := hHeld.setRow g1 M0 (fun q => by omega)
          refine hK.out _ _ T31 (fun hHeld => ?_)
          clear hK
          clear T31
          obtain ⟨Y31, hY31⟩ : ∃ X, X30.setRow g1 M0 = X := ⟨_, rfl⟩
          rw [hY31] at r1 r28 r29 r30 hHeld ⊢
          clear hY31
          refine wpAnyH_ready (rs := [21]) (by kernel_rfl) (by simp) ?_
          refine AllReadyH.cons rfl (fun K hK => ?_) AllReadyH.nil
          rw [if_pos (by rfl)]
          refine wp_store_row 38 _ _ rfl g29 N0 rfl rfl 38 AZ0 r29 iN sN oN ?_
          have r1 : Row (Y31.setRow g29 N0) g1 M0 38 := Row.setOther r1 (by omega) N0
          have r28 : Row (Y31.setRow g29 N0) g28 ZQ0 47 := Row.setOther r28 (by omega) N0
          have r30 : Row (Y31.setRow g29 N0) g30 ZQ0 47 := Row.setOther r30 (by omega) N0
          have r29 : Row (Y31.setRow g29 N0) g29 N0 38 := setRow_heap Y31 g29 _ N0 38 _ r29
          have T32 : Turn no w0 (Y31.setRow g29 N0) := hHeld.setRow g29 N0 (fun q => by omega)
          refine hK.out _ _ T32 (fun hHeld => ?_)
          clear hK
          clear T32
          obtain ⟨Y32, hY32⟩ : ∃ X, Y31.setRow g29 N0 = X := ⟨_, rfl⟩
          rw [hY32] at r1 r28 r29 r30 hHeld ⊢
          clear hY32
          refine wpAnyH_ready (rs := [22]) (by kernel_rfl) (by simp) ?_
          refine AllReadyH.cons rfl (fun K hK => ?_) AllReadyH.nil
          rw [if_pos (by rfl)]
          refine wp_store_row 47 _ _ rfl g30 P0 rfl rfl 47 ZQ0 r30 iPf sPf oPf ?_
          have r1 : Row (Y32.setRow g30 P0) g1 M0 38 := Row.setOther r1 (by omega) P0
          have r28 : Row (Y32.setRow g30 P0) g28 ZQ0 47 := Row.setOther r28 (by omega) P0
          have r29 : Row (Y32.setRow g30 P0) g29 N0 38 := Row.setOther r29 (by omega) P0
          have r30 : Row (Y32.setRow g30 P0) g30 P0 47 := setRow_heap Y32 g30 _ P0 47 _ r30
          have T33 : Turn no w0 (Y32.setRow g30 P0) := hHeld.setRow g30 P0 (fun q => by omega)
          refine hK.out _ _ T33 (fun hHeld => ?_)
          clear hK
          clear T33
          obtain ⟨Y33, hY33⟩ : ∃ X, Y32.setRow g30 P0 = X := ⟨_, rfl⟩
          rw [hY33] at r1 r28 r29 r30 hHeld ⊢
          clear hY33
          refine wpAnyH_ready (rs := [23]) (by kernel_rfl) (by simp) ?_
          refine AllReadyH.cons rfl (fun K hK => ?_) AllReadyH.nil
          rw [if_pos (by rfl)]
          refine wp_store_row 47 _ _ rfl g28 S0 rfl rfl 47 ZQ0 r28 iS sS oS ?_
          have r1 : Row (Y33.setRow g28 S0) g1 M0 38 := Row.setOther r1 (by omega) S0
          have r29 : Row (Y33.setRow g28 S0) g29 N0 38 := Row.setOther r29 (by omega) S0
          have r30 : Row (Y33.setRow g28 S0) g30 P0 47 := Row.setOther r30 (by omega) S0
          have r28 : Row (Y33.setRow g28 S0) g28 S0 47 := setRow_heap Y33 g28 _ S0 47 _ r28
          have T34 : Turn no w0 (Y33.setRow g28 S0) := hHeld.setRow g28 S0 (fun q => by omega)
          refine hK.out _ _ T34 (fun hHeld => ?_)
          clear hK
          clear T34
          obtain ⟨Y34, hY34⟩ : ∃ X, Y33.setRow g28 S0 = X := ⟨_, rfl⟩
          rw [hY34] at r1 r28 r29 r30 hHeld ⊢
          clear hY34
          refine wpAnyH_done (by kernel_rfl) ?_ _
          go_simp
          go_wp2_with fail
          go_meet
          case rel => exact ⟨g1, g29, g30, g28, rfl, rfl, rfl, rfl, ⟨r1, r29, r30, r28, hHeld⟩⟩
        · skip
          go_simp
          have hs35 := hHeld.size
          have lt35m := Row.lt r1
          have lt35s := Row.lt r28
          refine hK.out _ _ (hHeld.alloc _) (fun hHeld => ?_)
          clear hK
          obtain ⟨X35, hX35⟩ : ∃ X, X28.alloc (.cells ZQ0 47) = X := ⟨_, rfl⟩
          have r35 : Row X35 X28.heap.size ZQ0 47 := by rw [← hX35]; exact Row.new X28 _ _
          have r1 : Row X35 g1 AZ0 38 := by rw [← hX35]; exact Row.alloc r1 _
          have r28 : Row X35 g28 ZQ0 47 := by rw [← hX35]; exact Row.alloc r28 _
          rw [hX35] at hHeld ⊢
          clear hX35
          generalize X28.heap.size = g35 at *
          refine wpAnyH_ready (rs := [17]) (by kernel_rfl) (by simp) ?_
          refine AllReadyH.cons rfl (fun K hK => ?_) AllReadyH.nil
          go_simp
          have hs36 := hHeld.size
          have lt36m := Row.lt r1
          have lt36s := Row.lt r28
          have lt36p := Row.lt r35
          refine hK.out _ _ (hHeld.alloc _) (fun hHeld => ?_)
          clear hK
          obtain ⟨X36, hX36⟩ : ∃ X, X35.alloc (.cells AZ0 38) = X := ⟨_, rfl⟩
          have r36 : Row X36 X35.heap.size AZ0 38 := by rw [← hX36]; exact Row.new X35 _ _
          have r1 : Row X36 g1 AZ0 38 := by rw [← hX36]; exact Row.alloc r1 _
          have r28 : Row X36 g28 ZQ0 47 := by rw [← hX36]; exact Row.alloc r28 _
          have r35 : Row X36 g35 ZQ0 47 := by rw [← hX36]; exact Row.alloc r35 _
          rw [hX36] at hHeld ⊢
          clear hX36
          generalize X35.heap.size = g36 at *
          refine wpAnyH_ready (rs := [20]) (by kernel_rfl) (by simp) ?_
          refine AllReadyH.cons rfl (fun K hK => ?_) AllReadyH.nil
          rw [if_pos (by rfl)]
          refine wp_store_row 38 _ _ rfl g1 M0 rfl rfl 38 AZ0 r1 iM sM oM ?_
          have r28 : Row (X36.setRow g1 M0) g28 ZQ0 47 := Row.setOther r28 (by omega) M0
          have r35 : Row (X36.setRow g1 M0) g35 ZQ0 47 := Row.setOther r35 (by omega) M0
          have r36 : Row (X36.setRow g1 M0) g36 AZ0 38 := Row.setOther r36 (by omega) M0
          have r1 : Row (X36.setRow g1 M0) g1 M0 38 := setRow_heap X36 g1 _ M0 38 _ r1
          have T37 : Turn no w0 (X36.setRow g1 M0) := hHeld.setRow g1 M0 (fun q => by omega)
          refine hK.out _ _ T37 (fun hHeld => ?_)
          clear hK
          clear T37
          obtain ⟨Y37, hY37⟩ : ∃ X, X36.setRow g1 M0 = X := ⟨_, rfl⟩
          rw [hY37] at r1 r28 r35 r36 hHeld ⊢
          clear hY37
          refine wpAnyH_ready (rs := [21]) (by kernel_rfl) (by simp) ?_
          refine AllReadyH.cons rfl (fun K hK => ?_) AllReadyH.nil
          rw [if_pos (by rfl)]
          refine wp_store_row 38 _ _ rfl g36 N0 rfl rfl 38 AZ0 r36 iN sN oN ?_
          have r1 : Row (Y37.setRow g36 N0) g1 M0 38 := Row.setOther r1 (by omega) N0
          have r28 : Row (Y37.setRow g36 N0) g28 ZQ0 47 := Row.setOther r28 (by omega) N0
          have r35 : Row (Y37.setRow g36 N0) g35 ZQ0 47 := Row.setOther r35 (by omega) N0
          have r36 : Row (Y37.setRow g36 N0) g36 N0 38 := setRow_heap Y37 g36 _ N0 38 _ r36
          have T38 : Turn no w0 (Y37.setRow g36 N0) := hHeld.setRow g36 N0 (fun q => by omega)
          refine hK.out _ _ T38 (fun hHeld => ?_)
          clear hK
          clear T38
          obtain ⟨Y38, hY38⟩ : ∃ X, Y37.setRow g36 N0 = X := ⟨_, rfl⟩
          rw [hY38] at r1 r28 r35 r36 hHeld ⊢
          clear hY38
          refine wpAnyH_ready (rs := [22]) (by kernel_rfl) (by simp) ?_
          refine AllReadyH.cons rfl (fun K hK => ?_) AllReadyH.nil
          rw [if_pos (by rfl)]
          refine wp_store_row 47 _ _ rfl g35 P0 rfl rfl 47 ZQ0 r35 iPf sPf oPf ?_
          have r1 : Row (Y38.setRow g35 P0) g1 M0 38 := Row.setOther r1 (by omega) P0
          have r28 : Row (Y38.setRow g35 P0) g28 ZQ0 47 := Row.setOther r28 (by omega) P0
          have r36 : Row (Y38.setRow g35 P0) g36 N0 38 := Row.setOther r36 (by omega) P0
          have r35 : Row (Y38.setRow g35 P0) g35 P0 47 := setRow_heap Y38 g35 _ P0 47 _ r35
          have T39 : Turn no w0 (Y38.setRow g35 P0) := hHeld.setRow g35 P0 (fun q => by omega)
          refine hK.out _ _ T39 (fun hHeld => ?_)
          clear hK
          clear T39
          obtain ⟨Y39, hY39⟩ : ∃ X, Y38.setRow g35 P0 = X := ⟨_, rfl⟩
          rw [hY39] at r1 r28 r35 r36 hHeld ⊢
          clear hY39
          refine wpAnyH_ready (rs := [23]) (by kernel_rfl) (by simp) ?_
          refine AllReadyH.cons rfl (fun K hK => ?_) AllReadyH.nil
          rw [if_pos (by rfl)]
          refine wp_store_row 47 _ _ rfl g28 S0 rfl rfl 47 ZQ0 r28 iS sS oS ?_
          have r1 : Row (Y39.setRow g28 S0) g1 M0 38 := Row.setOther r1 (by omega) S0
          have r35 : Row (Y39.setRow g28 S0) g35 P0 47 := Row.setOther r35 (by omega) S0
          have r36 : Row (Y39.setRow g28 S0) g36 N0 38 := Row.setOther r36 (by omega) S0
          have r28 : Row (Y39.setRow g28 S0) g28 S0 47 := setRow_heap Y39 g28 _ S0 47 _ r28
          have T40 : Turn no w0 (Y39.setRow g28 S0) := hHeld.setRow g28 S0 (fun q => by omega)
          refine hK.out _ _ T40 (fun hHeld => ?_)
          clear hK
          clear T40
          obtain ⟨Y40, hY40⟩ : ∃ X, Y39.setRow g28 S0 = X := ⟨_, rfl⟩
          rw [hY40] at r1 r28 r35 r36 hHeld ⊢
          clear hY40
          refine wpAnyH_done (by kernel_rfl) ?_ _
          go_simp
          go_wp2_with fail
          go_meet
          case rel => exact ⟨g1, g36, g35, g28, rfl, rfl, rfl, rfl, ⟨r1, r36, r35, r28, hHeld⟩⟩
    · skip
      go_simp
      have hs41 := hHeld.size
      refine hK.out _ _ (hHeld.alloc _) (fun hHeld => ?_)
      clear hK
      obtain ⟨X41, hX41⟩ : ∃ X, X0.alloc (.cells AZ0 38) = X := ⟨_, rfl⟩
      have r41 : Row X41 X0.heap.size AZ0 38 := by rw [← hX41]; exact Row.new X0 _ _
      rw [hX41] at hHeld ⊢
      clear hX41
      generalize X0.heap.size = g41 at *
      refine wpAnyH_ready (rs := [16, 18, 19]) (by kernel_rfl) (by simp) ?_
      refine AllReadyH.cons rfl (fun K hK => ?_) (AllReadyH.cons rfl (fun K hK => ?_) (AllReadyH.cons rfl (fun K hK => ?_) AllReadyH.nil))
      · skip
        go_simp
        have hs42 := hHeld.size
        have lt42n := Row.lt r41
        refine hK.out _ _ (hHeld.alloc _) (fun hHeld => ?_)
        clear hK
        obtain ⟨X42, hX42⟩ : ∃ X, X41.alloc (.cells AZ0 38) = X := ⟨_, rfl⟩
        have r42 : Row X42 X41.heap.size AZ0 38 := by rw [← hX42]; exact Row.new X41 _ _
        have r41 : Row X42 g41 AZ0 38 := by rw [← hX42]; exact Row.alloc r41 _
        rw [hX42] at hHeld ⊢
        clear hX42
        generalize X41.heap.size = g42 at *
        refine wpAnyH_ready (rs := [18, 19]) (by kernel_rfl) (by simp) ?_
        refine AllReadyH.cons rfl (fun K hK => ?_) (AllReadyH.cons rfl (fun K hK => ?_) AllReadyH.nil)
        · skip
          go_simp
          have hs43 := hHeld.size
          have lt43n := Row.lt r41
          have lt43m := Row.lt r42
          refine hK.out _ _ (hHeld.alloc _) (fun hHeld => ?_)
          clear hK
          obtain ⟨X43, hX43⟩ : ∃ X, X42.alloc (.cells ZQ0 47) = X := ⟨_, rfl⟩
          have r43 : Row X43 X42.heap.size ZQ0 47 := by rw [← hX43]; exact Row.new X42 _ _
          have r41 : Row X43 g41 AZ0 38 := by rw [← hX43]; exact Row.alloc r41 _
          have r42 : Row X43 g42 AZ0 38 := by rw [← hX43]; exact Row.alloc r42 _
          rw [hX43] at hHeld ⊢
          clear hX43
          generalize X42.heap.size = g43 at *
          refine wpAnyH_ready (rs := [19]) (by kernel_rfl) (by simp) ?_
          refine AllReadyH.cons rfl (fun K hK => ?_) AllReadyH.nil
          go_simp
          have hs44 := hHeld.size
          have lt44n := Row.lt r41
          have lt44m := Row.lt r42
          have lt44p := Row.lt r43
          refine hK.out _ _ (hHeld.alloc _) (fun hHeld => ?_)
          clear hK
          obtain ⟨X44, hX44⟩ : ∃ X, X43.alloc (.cells ZQ0 47) = X := ⟨_, rfl⟩
          have r44 : Row X44 X43.heap.size ZQ0 47 := by rw [← hX44]; exact Row.new X43 _ _
          have r41 : Row X44 g41 AZ0 38 := by rw [← hX44]; exact Row.alloc r41 _
          have r42 : Row X44 g42 AZ0 38 := by rw [← hX44]; exact Row.alloc r42 _
          have r43 : Row X44 g43 ZQ0 47 := by rw [← hX44]; exact Row.alloc r43 _
          rw [hX44] at hHeld ⊢
          clear hX44
          generalize X43.heap.size = g44 at *
          refine wpAnyH_ready (rs := [20]) (by kernel_rfl) (by simp) ?_
          refine AllReadyH.cons rfl (fun K hK => ?_) AllReadyH.nil
          rw [if_pos (by rfl)]
          refine wp_store_row 38 _ _ rfl g42 M0 rfl rfl 38 AZ0 r42 iM sM oM ?_
          have r41 : Row (X44.setRow g42 M0) g41 AZ0 38 := Row.setOther r41 (by omega) M0
          have r43 : Row (X44.setRow g42 M0) g43 ZQ0 47 := Row.setOther r43 (by omega) M0
          have r44 : Row (X44.setRow g42 M0) g44 ZQ0 47 := Row.setOther r44 (by omega) M0
          have r42 : Row (X44.setRow g42 M0) g42 M0 38 := setRow_heap X44 g42 _ M0 38 _ r42
          have T45 : Turn no w0 (X44.setRow g42 M0) := hHeld.setRow g42 M0 (fun q => by omega)
          refine hK.out _ _ T45 (fun hHeld => ?_)
          clear hK
          clear T45
          obtain ⟨Y45, hY45⟩ : ∃ X, X44.setRow g42 M0 = X := ⟨_, rfl⟩
          rw [hY45] at r41 r42 r43 r44 hHeld ⊢
          clear hY45
          refine wpAnyH_ready (rs := [21]) (by kernel_rfl) (by simp) ?_
          refine AllReadyH.cons rfl (fun K hK => ?_) AllReadyH.nil
          rw [if_pos (by rfl)]
          refine wp_store_row 38 _ _ rfl g41 N0 rfl rfl 38 AZ0 r41 iN sN oN ?_
          have r42 : Row (Y45.setRow g41 N0) g42 M0 38 := Row.setOther r42 (by omega) N0
          have r43 : Row (Y45.setRow g41 N0) g43 ZQ0 47 := Row.setOther r43 (by omega) N0
          have r44 : Row (Y45.setRow g41 N0) g44 ZQ0 47 := Row.setOther r44 (by omega) N0
          have r41 : Row (Y45.setRow g41 N0) g41 N0 38 := setRow_heap Y45 g41 _ N0 38 _ r41
          have T46 : Turn no w0 (Y45.setRow g41 N0) := hHeld.setRow g41 N0 (fun q => by omega)
          refine hK.out _ _ T46 (fun hHeld => ?_)
          clear hK
          clear T46
          obtain ⟨Y46, hY46⟩ : ∃ X, Y45.setRow g41 N0 = X := ⟨_, rfl⟩
          rw [hY46] at r41 r42 r43 r44 hHeld ⊢
          clear hY46
          refine wpAnyH_ready (rs := [22]) (by kernel_rfl) (by simp) ?_
          refine AllReadyH.cons rfl (fun K hK => ?_) AllReadyH.nil
          rw [if_pos (by rfl)]
          refine wp_store_row 47 _ _ rfl g43 P0 rfl rfl 47 ZQ0 r43 iPf sPf oPf ?_
          have r41 : Row (Y46.setRow g43 P0) g41 N0 38 := Row.setOther r41 (by omega) P0
          have r42 : Row (Y46.setRow g43 P0) g42 M0 38 := Row.setOther r42 (by omega) P0
          have r44 : Row (Y46.setRow g43 P0) g44 ZQ0 47 := Row.setOther r44 (by omega) P0
          have r43 : Row (Y46.setRow g43 P0) g43 P0 47 := setRow_heap Y46 g43 _ P0 47 _ r43
          have T47 : Turn no w0 (Y46.setRow g43 P0) := hHeld.setRow g43 P0 (fun q => by omega)
          refine hK.out _ _ T47 (fun hHeld => ?_)
          clear hK
          clear T47
          obtain ⟨Y47, hY47⟩ : ∃ X, Y46.setRow g43 P0 = X := ⟨_, rfl⟩
          rw [hY47] at r41 r42 r43 r44 hHeld ⊢
          clear hY47
          refine wpAnyH_ready (rs := [23]) (by kernel_rfl) (by simp) ?_
          refine AllReadyH.cons rfl (fun K hK => ?_) AllReadyH.nil
          rw [if_pos (by rfl)]
          refine wp_store_row 47 _ _ rfl g44 S0 rfl rfl 47 ZQ0 r44 iS sS oS ?_
          have r41 : Row (Y47.setRow g44 S0) g41 N0 38 := Row.setOther r41 (by omega) S0
          have r42 : Row (Y47.setRow g44 S0) g42 M0 38 := Row.setOther r42 (by omega) S0
          have r43 : Row (Y47.setRow g44 S0) g43 P0 47 := Row.setOther r43 (by omega) S0
          have r44 : Row (Y47.setRow g44 S0) g44 S0 47 := setRow_heap Y47 g44 _ S0 47 _ r44
          have T48 : Turn no w0 (Y47.setRow g44 S0) := hHeld.setRow g44 S0 (fun q => by omega)
          refine hK.out _ _ T48 (fun hHeld => ?_)
          clear hK
          clear T48
          obtain ⟨Y48, hY48⟩ : ∃ X, Y47.setRow g44 S0 = X := ⟨_, rfl⟩
          rw [hY48] at r41 r42 r43 r44 hHeld ⊢
          clear hY48
          refine wpAnyH_done (by kernel_rfl) ?_ _
          go_simp
          go_wp2_with fail
          go_meet
          case rel => exact ⟨g42, g41, g43, g44, rfl, rfl, rfl, rfl, ⟨r42, r41, r43, r44, hHeld⟩⟩
        · skip
          go_simp
          have hs49 := hHeld.size
          have lt49n := Row.lt r41
          have lt49m := Row.lt r42
          refine hK.out _ _ (hHeld.alloc _) (fun hHeld => ?_)
          clear hK
          obtain ⟨X49, hX49⟩ : ∃ X, X42.alloc (.cells ZQ0 47) = X := ⟨_, rfl⟩
          have r49 : Row X49 X42.heap.size ZQ0 47 := by rw [← hX49]; exact Row.new X42 _ _
          have r41 : Row X49 g41 AZ0 38 := by rw [← hX49]; exact Row.alloc r41 _
          have r42 : Row X49 g42 AZ0 38 := by rw [← hX49]; exact Row.alloc r42 _
          rw [hX49] at hHeld ⊢
          clear hX49
          generalize X42.heap.size = g49 at *
          refine wpAnyH_ready (rs := [18]) (by kernel_rfl) (by simp) ?_
          refine AllReadyH.cons rfl (fun K hK => ?_) AllReadyH.nil
          go_simp
          have hs50 := hHeld.size
          have lt50n := Row.lt r41
          have lt50m := Row.lt r42
          have lt50s := Row.lt r49
          refine hK.out _ _ (hHeld.alloc _) (fun hHeld => ?_)
          clear hK
          obtain ⟨X50, hX50⟩ : ∃ X, X49.alloc (.cells ZQ0 47) = X := ⟨_, rfl⟩
          have r50 : Row X50 X49.heap.size ZQ0 47 := by rw [← hX50]; exact Row.new X49 _ _
          have r41 : Row X50 g41 AZ0 38 := by rw [← hX50]; exact Row.alloc r41 _
          have r42 : Row X50 g42 AZ0 38 := by rw [← hX50]; exact Row.alloc r42 _
          have r49 : Row X50 g49 ZQ0 47 := by rw [← hX50]; exact Row.alloc r49 _
          rw [hX50] at hHeld ⊢
          clear hX50
          generalize X49.heap.size = g50 at *
          refine wpAnyH_ready (rs := [20]) (by kernel_rfl) (by simp) ?_
          refine AllReadyH.cons rfl (fun K hK => ?_) AllReadyH.nil
          rw [if_pos (by rfl)]
          refine wp_store_row 38 _ _ rfl g42 M0 rfl rfl 38 AZ0 r42 iM sM oM ?_
          have r41 : Row (X50.setRow g42 M0) g41 AZ0 38 := Row.setOther r41 (by omega) M0
          have r49 : Row (X50.setRow g42 M0) g49 ZQ0 47 := Row.setOther r49 (by omega) M0
          have r50 : Row (X50.setRow g42 M0) g50 ZQ0 47 := Row.setOther r50 (by omega) M0
          have r42 : Row (X50.setRow g42 M0) g42 M0 38 := setRow_heap X50 g42 _ M0 38 _ r42
          have T51 : Turn no w0 (X50.setRow g42 M0) := hHeld.setRow g42 M0 (fun q => by omega)
          refine hK.out _ _ T51 (fun hHeld => ?_)
          clear hK
          clear T51
          obtain ⟨Y51, hY51⟩ : ∃ X, X50.setRow g42 M0 = X := ⟨_, rfl⟩
          rw [hY51] at r41 r42 r49 r50 hHeld ⊢
          clear hY51
          refine wpAnyH_ready (rs := [21]) (by kernel_rfl) (by simp) ?_
          refine AllReadyH.cons rfl (fun K hK => ?_) AllReadyH.nil
          rw [if_pos (by rfl)]
          refine wp_store_row 38 _ _ rfl g41 N0 rfl rfl 38 AZ0 r41 iN sN oN ?_
          have r42 : Row (Y51.setRow g41 N0) g42 M0 38 := Row.setOther r42 (by omega) N0
          have r49 : Row (Y51.setRow g41 N0) g49 ZQ0 47 := Row.setOther r49 (by omega) N0
          have r50 : Row (Y51.setRow g41 N0) g50 ZQ0 47 := Row.setOther r50 (by omega) N0
          have r41 : Row (Y51.setRow g41 N0) g41 N0 38 := setRow_heap Y51 g41 _ N0 38 _ r41
          have T52 : Turn no w0 (Y51.setRow g41 N0) := hHeld.setRow g41 N0 (fun q => by omega)
          refine hK.out _ _ T52 (fun hHeld => ?_)
          clear hK
          clear T52
          obtain ⟨Y52, hY52⟩ : ∃ X, Y51.setRow g41 N0 = X := ⟨_, rfl⟩
          rw [hY52] at r41 r42 r49 r50 hHeld ⊢
          clear hY52
          refine wpAnyH_ready (rs := [22]) (by kernel_rfl) (by simp) ?_
          refine AllReadyH.cons rfl (fun K hK => ?_) AllReadyH.nil
          rw [if_pos (by rfl)]
          refine wp_store_row 47 _ _ rfl g50 P0 rfl rfl 47 ZQ0 r50 iPf sPf oPf ?_
          have r41 : Row (Y52.setRow g50 P0) g41 N0 38 := Row.setOther r41 (by omega) P0
          have r42 : Row (Y52.setRow g50 P0) g42 M0 38 := Row.setOther r42 (by omega) P0
          have r49 : Row (Y52.setRow g50 P0) g49 ZQ0 47 := Row.setOther r49 (by omega) P0
          have r50 : Row (Y52.setRow g50 P0) g50 P0 47 := setRow_heap Y52 g50 _ P0 47 _ r50
          have T53 : Turn no w0 (Y52.setRow g50 P0) := hHeld.setRow g50 P0 (fun q => by omega)
          refine hK.out _ _ T53 (fun hHeld => ?_)
          clear hK
          clear T53
          obtain ⟨Y53, hY53⟩ : ∃ X, Y52.setRow g50 P0 = X := ⟨_, rfl⟩
          rw [hY53] at r41 r42 r49 r50 hHeld ⊢
          clear hY53
          refine wpAnyH_ready (rs := [23]) (by kernel_rfl) (by simp) ?_
          refine AllReadyH.cons rfl (fun K hK => ?_) AllReadyH.nil
          rw [if_pos (by rfl)]
          refine wp_store_row 47 _ _ rfl g49 S0 rfl rfl 47 ZQ0 r49 iS sS oS ?_
          have r41 : Row (Y53.setRow g49 S0) g41 N0 38 := Row.setOther r41 (by omega) S0
          have r42 : Row (Y53.setRow g49 S0) g42 M0 38 := Row.setOther r42 (by omega) S0
          have r50 : Row (Y53.setRow g49 S0) g50 P0 47 := Row.setOther r50 (by omega) S0
          have r49 : Row (Y53.setRow g49 S0) g49 S0 47 := setRow_heap Y53 g49 _ S0 47 _ r49
          have T54 : Turn no w0 (Y53.setRow g49 S0) := hHeld.setRow g49 S0 (fun q => by omega)
          refine hK.out _ _ T54 (fun hHeld => ?_)
          clear hK
          clear T54
          obtain ⟨Y54, hY54⟩ : ∃ X, Y53.setRow g49 S0 = X := ⟨_, rfl⟩
          rw [hY54] at r41 r42 r49 r50 hHeld ⊢
          clear hY54
          refine wpAnyH_done (by kernel_rfl) ?_ _
          go_simp
          go_wp2_with fail
          go_meet
          case rel => exact ⟨g42, g41, g50, g49, rfl, rfl, rfl, rfl, ⟨r42, r41, r50, r49, hHeld⟩⟩
      · skip
        go_simp
        have hs55 := hHeld.size
        have lt55n := Row.lt r41
        refine hK.out _ _ (hHeld.alloc _) (fun hHeld => ?_)
        clear hK
        obtain ⟨X55, hX55⟩ : ∃ X, X41.alloc (.cells ZQ0 47) = X := ⟨_, rfl⟩
        have r55 : Row X55 X41.heap.size ZQ0 47 := by rw [← hX55]; exact Row.new X41 _ _
        have r41 : Row X55 g41 AZ0 38 := by rw [← hX55]; exact Row.alloc r41 _
        rw [hX55] at hHeld ⊢
        clear hX55
        generalize X41.heap.size = g55 at *
        refine wpAnyH_ready (rs := [16, 19]) (by kernel_rfl) (by simp) ?_
        refine AllReadyH.cons rfl (fun K hK => ?_) (AllReadyH.cons rfl (fun K hK => ?_) AllReadyH.nil)
        · skip
          go_simp
          have hs56 := hHeld.size
          have lt56n := Row.lt r41
          have lt56p := Row.lt r55
          refine hK.out _ _ (hHeld.alloc _) (fun hHeld => ?_)
          clear hK
          obtain ⟨X56, hX56⟩ : ∃ X, X55.alloc (.cells AZ0 38) = X := ⟨_, rfl⟩
          have r56 : Row X56 X55.heap.size AZ0 38 := by rw [← hX56]; exact Row.new X55 _ _
          have r41 : Row X56 g41 AZ0 38 := by rw [← hX56]; exact Row.alloc r41 _
          have r55 : Row X56 g55 ZQ0 47 := by rw [← hX56]; exact Row.alloc r55 _
          rw [hX56] at hHeld ⊢
          clear hX56
          generalize X55.heap.size = g56 at *
          refine wpAnyH_ready (rs := [19]) (by kernel_rfl) (by simp) ?_
          refine AllReadyH.cons rfl (fun K hK => ?_) AllReadyH.nil
          go_simp
          have hs57 := hHeld.size
          have lt57n := Row.lt r41
          have lt57p := Row.lt r55
          have lt57m := Row.lt r56
          refine hK.out _ _ (hHeld.alloc _) (fun hHeld => ?_)
          clear hK
          obtain ⟨X57, hX57⟩ : ∃ X, X56.alloc (.cells ZQ0 47) = X := ⟨_, rfl⟩
          have r57 : Row X57 X56.heap.size ZQ0 47 := by rw [← hX57]; exact Row.new X56 _ _
          have r41 : Row X57 g41 AZ0 38 := by rw [← hX57]; exact Row.alloc r41 _
          have r55 : Row X57 g55 ZQ0 47 := by rw [← hX57]; exact Row.alloc r55 _
          have r56 : Row X57 g56 AZ0 38 := by rw [← hX57]; exact Row.alloc r56 _
          rw [hX57] at hHeld ⊢
          clear hX57
          generalize X56.heap.size = g57 at *
          refine wpAnyH_ready (rs := [20]) (by kernel_rfl) (by simp) ?_
          refine AllReadyH.cons rfl (fun K hK => ?_) AllReadyH.nil
          rw [if_pos (by rfl)]
          refine wp_store_row 38 _ _ rfl g56 M0 rfl rfl 38 AZ0 r56 iM sM oM ?_
          have r41 : Row (X57.setRow g56 M0) g41 AZ0 38 := Row.setOther r41 (by omega) M0
          have r55 : Row (X57.setRow g56 M0) g55 ZQ0 47 := Row.setOther r55 (by omega) M0
          have r57 : Row (X57.setRow g56 M0) g57 ZQ0 47 := Row.setOther r57 (by omega) M0
          have r56 : Row (X57.setRow g56 M0) g56 M0 38 := setRow_heap X57 g56 _ M0 38 _ r56
          have T58 : Turn no w0 (X57.setRow g56 M0) := hHeld.setRow g56 M0 (fun q => by omega)
          refine hK.out _ _ T58 (fun hHeld => ?_)
          clear hK
          clear T58
          obtain ⟨Y58, hY58⟩ : ∃ X, X57.setRow g56 M0 = X := ⟨_, rfl⟩
          rw [hY58] at r41 r55 r56 r57 hHeld ⊢
          clear hY58
          refine wpAnyH_ready (rs := [21]) (by kernel_rfl) (by simp) ?_
          refine AllReadyH.cons rfl (fun K hK => ?_) AllReadyH.nil
          rw [if_pos (by rfl)]
          refine wp_store_row 38 _ _ rfl g41 N0 rfl rfl 38 AZ0 r41 iN sN oN ?_
          have r55 : Row (Y58.setRow g41 N0) g55 ZQ0 47 := Row.setOther r55 (by omega) N0
          have r56 : Row (Y58.setRow g41 N0) g56 M0 38 := Row.setOther r56 (by omega) N0
          have r57 : Row (Y58.setRow g41 N0) g57 ZQ0 47 := Row.setOther r57 (by omega) N0
          have r41 : Row (Y58.setRow g41 N0) g41 N0 38 := setRow_heap Y58 g41 _ N0 38 _ r41
          have T59 : Turn no w0 (Y58.setRow g41 N0) := hHeld.setRow g41 N0 (fun q => by omega)
          refine hK.out _ _ T59 (fun hHeld => ?_)
          clear hK
          clear T59
          obtain ⟨Y59, hY59⟩ : ∃ X, Y58.setRow g41 N0 = X := ⟨_, rfl⟩
          rw [hY59] at r41 r55 r56 r57 hHeld ⊢
          clear hY59
          refine wpAnyH_ready (rs := [22]) (by kernel_rfl) (by simp) ?_
          refine AllReadyH.cons rfl (fun K hK => ?_) AllReadyH.nil
          rw [if_pos (by rfl)]
          refine wp_store_row 47 _ _ rfl g55 P0 rfl rfl 47 ZQ0 r55 iPf sPf oPf ?_
          have r41 : Row (Y59.setRow g55 P0) g41 N0 38 := Row.setOther r41 (by omega) P0
          have r56 : Row (Y59.setRow g55 P0) g56 M0 38 := Row.setOther r56 (by omega) P0
          have r57 : Row (Y59.setRow g55 P0) g57 ZQ0 47 := Row.setOther r57 (by omega) P0
          have r55 : Row (Y59.setRow g55 P0) g55 P0 47 := setRow_heap Y59 g55 _ P0 47 _ r55
          have T60 : Turn no w0 (Y59.setRow g55 P0) := hHeld.setRow g55 P0 (fun q => by omega)
          refine hK.out _ _ T60 (fun hHeld => ?_)
          clear hK
          clear T60
          obtain ⟨Y60, hY60⟩ : ∃ X, Y59.setRow g55 P0 = X := ⟨_, rfl⟩
          rw [hY60] at r41 r55 r56 r57 hHeld ⊢
          clear hY60
          refine wpAnyH_ready (rs := [23]) (by kernel_rfl) (by simp) ?_
          refine AllReadyH.cons rfl (fun K hK => ?_) AllReadyH.nil
          rw [if_pos (by rfl)]
          refine wp_store_row 47 _ _ rfl g57 S0 rfl rfl 47 ZQ0 r57 iS sS oS ?_
          have r41 : Row (Y60.setRow g57 S0) g41 N0 38 := Row.setOther r41 (by omega) S0
          have r55 : Row (Y60.setRow g57 S0) g55 P0 47 := Row.setOther r55 (by omega) S0
          have r56 : Row (Y60.setRow g57 S0) g56 M0 38 := Row.setOther r56 (by omega) S0
          have r57 : Row (Y60.setRow g57 S0) g57 S0 47 := setRow_heap Y60 g57 _ S0 47 _ r57
          have T61 : Turn no w0 (Y60.setRow g57 S0) := hHeld.setRow g57 S0 (fun q => by omega)
          refine hK.out _ _ T61 (fun hHeld => ?_)
          clear hK
          clear T61
          obtain ⟨Y61, hY61⟩ : ∃ X, Y60.setRow g57 S0 = X := ⟨_, rfl⟩
          rw [hY61] at r41 r55 r56 r57 hHeld ⊢
          clear hY61
          refine wpAnyH_done (by kernel_rfl) ?_ _
          go_simp
          go_wp2_with fail
          go_meet
          case rel => exact ⟨g56, g41, g55, g57, rfl, rfl, rfl, rfl, ⟨r56, r41, r55, r57, hHeld⟩⟩
        · skip
          go_simp
          have hs62 := hHeld.size
          have lt62n := Row.lt r41
          have lt62p := Row.lt r55
          refine hK.out _ _ (hHeld.alloc _) (fun hHeld => ?_)
          clear hK
          obtain ⟨X62, hX62⟩ : ∃ X, X55.alloc (.cells ZQ0 47) = X := ⟨_, rfl⟩
          have r62 : Row X62 X55.heap.size ZQ0 47 := by rw [← hX62]; exact Row.new X55 _ _
          have r41 : Row X62 g41 AZ0 38 := by rw [← hX62]; exact Row.alloc r41 _
          have r55 : Row X62 g55 ZQ0 47 := by rw [← hX62]; exact Row.alloc r55 _
          rw [hX62] at hHeld ⊢
          clear hX62
          generalize X55.heap.size = g62 at *
          refine wpAnyH_ready (rs := [16]) (by kernel_rfl) (by simp) ?_
          refine AllReadyH.cons rfl (fun K hK => ?_) AllReadyH.nil
          go_simp
          have hs63 := hHeld.size
          have lt63n := Row.lt r41
          have lt63p := Row.lt r55
          have lt63s := Row.lt r62
          refine hK.out _ _ (hHeld.alloc _) (fun hHeld => ?_)
          clear hK
          obtain ⟨X63, hX63⟩ : ∃ X, X62.alloc (.cells AZ0 38) = X := ⟨_, rfl⟩
          have r63 : Row X63 X62.heap.size AZ0 38 := by rw [← hX63]; exact Row.new X62 _ _
          have r41 : Row X63 g41 AZ0 38 := by rw [← hX63]; exact Row.alloc r41 _
          have r55 : Row X63 g55 ZQ0 47 := by rw [← hX63]; exact Row.alloc r55 _
          have r62 : Row X63 g62 ZQ0 47 := by rw [← hX63]; exact Row.alloc r62 _
          rw [hX63] at hHeld ⊢
          clear hX63
          generalize X62.heap.size = g63 at *
          refine wpAnyH_ready (rs := [20]) (by kernel_rfl) (by simp) ?_
          refine AllReadyH.cons rfl (fun K hK => ?_) AllReadyH.nil
          rw [if_pos (by rfl)]
          refine wp_store_row 38 _ _ rfl g63 M0 rfl rfl 38 AZ0 r63 iM sM oM ?_
          have r41 : Row (X63.setRow g63 M0) g41 AZ0 38 := Row.setOther r41 (by omega) M0
          have r55 : Row (X63.setRow g63 M0) g55 ZQ0 47 := Row.setOther r55 (by omega) M0
          have r62 : Row (X63.setRow g63 M0) g62 ZQ0 47 := Row.setOther r62 (by omega) M0
          have r63 : Row (X63.setRow g63 M0) g63 M0 38 := setRow_heap X63 g63 _ M0 38 _ r63
          have T64 : Turn no w0 (X63.setRow g63 M0) := hHeld.setRow g63 M0 (fun q => by omega)
          refine hK.out _ _ T64 (fun hHeld => ?_)
          clear hK
          clear T64
          obtain ⟨Y64, hY64⟩ : ∃ X, X63.setRow g63 M0 = X := ⟨_, rfl⟩
          rw [hY64] at r41 r55 r62 r63 hHeld ⊢
          clear hY64
          refine wpAnyH_ready (rs := [21]) (by kernel_rfl) (by simp) ?_
          refine AllReadyH.cons rfl (fun K hK => ?_) AllReadyH.nil
          rw [if_pos (by rfl)]
          refine wp_store_row 38 _ _ rfl g41 N0 rfl rfl 38 AZ0 r41 iN sN oN ?_
          have r55 : Row (Y64.setRow g41 N0) g55 ZQ0 47 := Row.setOther r55 (by omega) N0
          have r62 : Row (Y64.setRow g41 N0) g62 ZQ0 47 := Row.setOther r62 (by omega) N0
          have r63 : Row (Y64.setRow g41 N0) g63 M0 38 := Row.setOther r63 (by omega) N0
          have r41 : Row (Y64.setRow g41 N0) g41 N0 38 := setRow_heap Y64 g41 _ N0 38 _ r41
          have T65 : Turn no w0 (Y64.setRow g41 N0) := hHeld.setRow g41 N0 (fun q => by omega)
          refine hK.out _ _ T65 (fun hHeld => ?_)
          clear hK
          clear T65
          obtain ⟨Y65, hY65⟩ : ∃ X, Y64.setRow g41 N0 = X := ⟨_, rfl⟩
          rw [hY65] at r41 r55 r62 r63 hHeld ⊢
          clear hY65
          refine wpAnyH_ready (rs := [22]) (by kernel_rfl) (by simp) ?_
          refine AllReadyH.cons rfl (fun K hK => ?_) AllReadyH.nil
          rw [if_pos (by rfl)]
          refine wp_store_row 47 _ _ rfl g55 P0 rfl rfl 47 ZQ0 r55 iPf sPf oPf ?_
          have r41 : Row (Y65.setRow g55 P0) g41 N0 38 := Row.setOther r41 (by omega) P0
          have r62 : Row (Y65.setRow g55 P0) g62 ZQ0 47 := Row.setOther r62 (by omega) P0
          have r63 : Row (Y65.setRow g55 P0) g63 M0 38 := Row.setOther r63 (by omega) P0
          have r55 : Row (Y65.setRow g55 P0) g55 P0 47 := setRow_heap Y65 g55 _ P0 47 _ r55
          have T66 : Turn no w0 (Y65.setRow g55 P0) := hHeld.setRow g55 P0 (fun q => by omega)
          refine hK.out _ _ T66 (fun hHeld => ?_)
          clear hK
          clear T66
          obtain ⟨Y66, hY66⟩ : ∃ X, Y65.setRow g55 P0 = X := ⟨_, rfl⟩
          rw [hY66] at r41 r55 r62 r63 hHeld ⊢
          clear hY66
          refine wpAnyH_ready (rs := [23]) (by kernel_rfl) (by simp) ?_
          refine AllReadyH.cons rfl (fun K hK => ?_) AllReadyH.nil
          rw [if_pos (by rfl)]
          refine wp_store_row 47 _ _ rfl g62 S0 rfl rfl 47 ZQ0 r62 iS sS oS ?_
          have r41 : Row (Y66.setRow g62 S0) g41 N0 38 := Row.setOther r41 (by omega) S0
          have r55 : Row (Y66.setRow g62 S0) g55 P0 47 := Row.setOther r55 (by omega) S0
          have r63 : Row (Y66.setRow g62 S0) g63 M0 38 := Row.setOther r63 (by omega) S0
          have r62 : Row (Y66.setRow g62 S0) g62 S0 47 := setRow_heap Y66 g62 _ S0 47 _ r62
          have T67 : Turn no w0 (Y66.setRow g62 S0) := hHeld.setRow g62 S0 (fun q => by omega)
          refine hK.out _ _ T67 (fun hHeld => ?_)
          clear hK
          clear T67
          obtain ⟨Y67, hY67⟩ : ∃ X, Y66.setRow g62 S0 = X := ⟨_, rfl⟩
          rw [hY67] at r41 r55 r62 r63 hHeld ⊢
          clear hY67
          refine wpAnyH_done (by kernel_rfl) ?_ _
          go_simp
          go_wp2_with fail
          go_meet
          case rel => exact ⟨g63, g41, g55, g62, rfl, rfl, rfl, rfl, ⟨r63, r41, r55, r62, hHeld⟩⟩
      · skip
        go_simp
        have hs68 := hHeld.size
        have lt68n := Row.lt r41
        refine hK.out _ _ (hHeld.alloc _) (fun hHeld => ?_)
        clear hK
        obtain ⟨X68, hX68⟩ : ∃ X, X41.alloc (.cells ZQ0 47) = X := ⟨_, rfl⟩
        have r68 : Row X68 X41.heap.size ZQ0 47 := by rw [← hX68]; exact Row.new X41 _ _
        have r41 : Row X68 g41 AZ0 38 := by rw [← hX68]; exact Row.alloc r41 _
        rw [hX68] at hHeld ⊢
        clear hX68
        generalize X41.heap.size = g68 at *
        refine wpAnyH_ready (rs := [16, 18]) (by kernel_rfl) (by simp) ?_
        refine AllReadyH.cons rfl (fun K hK => ?_) (AllReadyH.cons rfl (fun K hK => ?_) AllReadyH.nil)
        · skip
          go_simp
          have hs69 := hHeld.size
          have lt69n := Row.lt r41
          have lt69s := Row.lt r68
          refine hK.out _ _ (hHeld.alloc _) (fun hHeld => ?_)
          clear hK
          obtain ⟨X69, hX69⟩ : ∃ X, X68.alloc (.cells AZ0 38) = X := ⟨_, rfl⟩
          have r69 : Row X69 X68.heap.size AZ0 38 := by rw [← hX69]; exact Row.new X68 _ _
          have r41 : Row X69 g41 AZ0 38 := by rw [← hX69]; exact Row.alloc r41 _
          have r68 : Row X69 g68 ZQ0 47 := by rw [← hX69]; exact Row.alloc r68 _
          rw [hX69] at hHeld ⊢
          clear hX69
          generalize X68.heap.size = g69 at *
          refine wpAnyH_ready (rs := [18]) (by kernel_rfl) (by simp) ?_
          refine AllReadyH.cons rfl (fun K hK => ?_) AllReadyH.nil
          go_simp
          have hs70 := hHeld.size
          have lt70n := Row.lt r41
          have lt70s := Row.lt r68
          have lt70m := Row.lt r69
          refine hK.out _ _ (hHeld.alloc _) (fun hHeld => ?_)
          clear hK
          obtain ⟨X70, hX70⟩ : ∃ X, X69.alloc (.cells ZQ0 47) = X := ⟨_, rfl⟩
          have r70 : Row X70 X69.heap.size ZQ0 47 := by rw [← hX70]; exact Row.new X69 _ _
          have r41 : Row X70 g41 AZ0 38 := by rw [← hX70]; exact Row.alloc r41 _
          have r68 : Row X70 g68 ZQ0 47 := by rw [← hX70]; exact Row.alloc r68 _
          have r69 : Row X70 g69 AZ0 38 := by rw [← hX70]; exact Row.alloc r69 _
          rw [hX70] at hHeld ⊢
          clear hX70
          generalize X69.heap.size = g70 at *
          refine wpAnyH_ready (rs := [20]) (by kernel_rfl) (by simp) ?_
          refine AllReadyH.cons rfl (fun K hK => ?_) AllReadyH.nil
          rw [if_pos (by rfl)]
          refine wp_store_row 38 _ _ rfl g69 M0 rfl rfl 38 AZ0 r69 iM sM oM ?_
          have r41 : Row (X70.setRow g69 M0) g41 AZ0 38 := Row.setOther r41 (by omega) M0
          have r68 : Row (X70.setRow g69 M0) g68 ZQ0 47 := Row.setOther r68 (by omega) M0
          have r70 : Row (X70.setRow g69 M0) g70 ZQ0 47 := Row.setOther r70 (by omega) M0
          have r69 : Row (X70.setRow g69 M0) g69 M0 38 := setRow_heap X70 g69 _ M0 38 _ r69
          have T71 : Turn no w0 (X70.setRow g69 M0) := hHeld.setRow g69 M0 (fun q => by omega)
          refine hK.out _ _ T71 (fun hHeld => ?_)
          clear hK
          clear T71
          obtain ⟨Y71, hY71⟩ : ∃ X, X70.setRow g69 M0 = X := ⟨_, rfl⟩
          rw [hY71] at r41 r68 r69 r70 hHeld ⊢
          clear hY71
          refine wpAnyH_ready (rs := [21]) (by kernel_rfl) (by simp) ?_
          refine AllReadyH.cons rfl (fun K hK => ?_) AllReadyH.nil
          rw [if_pos (by rfl)]
          refine wp_store_row 38 _ _ rfl g41 N0 rfl rfl 38 AZ0 r41 iN sN oN ?_
          have r68 : Row (Y71.setRow g41 N0) g68 ZQ0 47 := Row.setOther r68 (by omega) N0
          have r69 : Row (Y71.setRow g41 N0) g69 M0 38 := Row.setOther r69 (by omega) N0
          have r70 : Row (Y71.setRow g41 N0) g70 ZQ0 47 := Row.setOther r70 (by omega) N0
          have r41 : Row (Y71.setRow g41 N0) g41 N0 38 := setRow_heap Y71 g41 _ N0 38 _ r41
          have T72 : Turn no w0 (Y71.setRow g41 N0) := hHeld.setRow g41 N0 (fun q => by omega)
          refine hK.out _ _ T72 (fun hHeld => ?_)
          clear hK
          clear T72
          obtain ⟨Y72, hY72⟩ : ∃ X, Y71.setRow g41 N0 = X := ⟨_, rfl⟩
          rw [hY72] at r41 r68 r69 r70 hHeld ⊢
          clear hY72
          refine wpAnyH_ready (rs := [22]) (by kernel_rfl) (by simp) ?_
          refine AllReadyH.cons rfl (fun K hK => ?_) AllReadyH.nil
          rw [if_pos (by rfl)]
          refine wp_store_row 47 _ _ rfl g70 P0 rfl rfl 47 ZQ0 r70 iPf sPf oPf ?_
          have r41 : Row (Y72.setRow g70 P0) g41 N0 38 := Row.setOther r41 (by omega) P0
          have r68 : Row (Y72.setRow g70 P0) g68 ZQ0 47 := Row.setOther r68 (by omega) P0
          have r69 : Row (Y72.setRow g70 P0) g69 M0 38 := Row.setOther r69 (by omega) P0
          have r70 : Row (Y72.setRow g70 P0) g70 P0 47 := setRow_heap Y72 g70 _ P0 47 _ r70
          have T73 : Turn no w0 (Y72.setRow g70 P0) := hHeld.setRow g70 P0 (fun q => by omega)
          refine hK.out _ _ T73 (fun hHeld => ?_)
          clear hK
          clear T73
          obtain ⟨Y73, hY73⟩ : ∃ X, Y72.setRow g70 P0 = X := ⟨_, rfl⟩
          rw [hY73] at r41 r68 r69 r70 hHeld ⊢
          clear hY73
          refine wpAnyH_ready (rs := [23]) (by kernel_rfl) (by simp) ?_
          refine AllReadyH.cons rfl (fun K hK => ?_) AllReadyH.nil
          rw [if_pos (by rfl)]
          refine wp_store_row 47 _ _ rfl g68 S0 rfl rfl 47 ZQ0 r68 iS sS oS ?_
          have r41 : Row (Y73.setRow g68 S0) g41 N0 38 := Row.setOther r41 (by omega) S0
          have r69 : Row (Y73.setRow g68 S0) g69 M0 38 := Row.setOther r69 (by omega) S0
          have r70 : Row (Y73.setRow g68 S0) g70 P0 47 := Row.setOther r70 (by omega) S0
          have r68 : Row (Y73.setRow g68 S0) g68 S0 47 := setRow_heap Y73 g68 _ S0 47 _ r68
          have T74 : Turn no w0 (Y73.setRow g68 S0) := hHeld.setRow g68 S0 (fun q => by omega)
          refine hK.out _ _ T74 (fun hHeld => ?_)
          clear hK
          clear T74
          obtain ⟨Y74, hY74⟩ : ∃ X, Y73.setRow g68 S0 = X := ⟨_, rfl⟩
          rw [hY74] at r41 r68 r69 r70 hHeld ⊢
          clear hY74
          refine wpAnyH_done (by kernel_rfl) ?_ _
          go_simp
          go_wp2_with fail
          go_meet
          case rel => exact ⟨g69, g41, g70, g68, rfl, rfl, rfl, rfl, ⟨r69, r41, r70, r68, hHeld⟩⟩
        · skip
          go_simp
          have hs75 := hHeld.size
          have lt75n := Row.lt r41
          have lt75s := Row.lt r68
          refine hK.out _ _ (hHeld.alloc _) (fun hHeld => ?_)
          clear hK
          obtain ⟨X75, hX75⟩ : ∃ X, X68.alloc (.cells ZQ0 47) = X := ⟨_, rfl⟩
          have r75 : Row X75 X68.heap.size ZQ0 47 := by rw [← hX75]; exact Row.new X68 _ _
          have r41 : Row X75 g41 AZ0 38 := by rw [← hX75]; exact Row.alloc r41 _
          have r68 : Row X75 g68 ZQ0 47 := by rw [← hX75]; exact Row.alloc r68 _
          rw [hX75] at hHeld ⊢
          clear hX75
          generalize X68.heap.size = g75 at *
          refine wpAnyH_ready (rs := [16]) (by kernel_rfl) (by simp) ?_
          refine AllReadyH.cons rfl (fun K hK => ?_) AllReadyH.nil
          go_simp
          have hs76 := hHeld.size
          have lt76n := Row.lt r41
          have lt76s := Row.lt r68
          have lt76p := Row.lt r75
          refine hK.out _ _ (hHeld.alloc _) (fun hHeld => ?_)
          clear hK
          obtain ⟨X76, hX76⟩ : ∃ X, X75.alloc (.cells AZ0 38) = X := ⟨_, rfl⟩
          have r76 : Row X76 X75.heap.size AZ0 38 := by rw [← hX76]; exact Row.new X75 _ _
          have r41 : Row X76 g41 AZ0 38 := by rw [← hX76]; exact Row.alloc r41 _
          have r68 : Row X76 g68 ZQ0 47 := by rw [← hX76]; exact Row.alloc r68 _
          have r75 : Row X76 g75 ZQ0 47 := by rw [← hX76]; exact Row.alloc r75 _
          rw [hX76] at hHeld ⊢
          clear hX76
          generalize X75.heap.size = g76 at *
          refine wpAnyH_ready (rs := [20]) (by kernel_rfl) (by simp) ?_
          refine AllReadyH.cons rfl (fun K hK => ?_) AllReadyH.nil
          rw [if_pos (by rfl)]
          refine wp_store_row 38 _ _ rfl g76 M0 rfl rfl 38 AZ0 r76 iM sM oM ?_
          have r41 : Row (X76.setRow g76 M0) g41 AZ0 38 := Row.setOther r41 (by omega) M0
          have r68 : Row (X76.setRow g76 M0) g68 ZQ0 47 := Row.setOther r68 (by omega) M0
          have r75 : Row (X76.setRow g76 M0) g75 ZQ0 47 := Row.setOther r75 (by omega) M0
          have r76 : Row (X76.setRow g76 M0) g76 M0 38 := setRow_heap X76 g76 _ M0 38 _ r76
          have T77 : Turn no w0 (X76.setRow g76 M0) := hHeld.setRow g76 M0 (fun q => by omega)
          refine hK.out _ _ T77 (fun hHeld => ?_)
          clear hK
          clear T77
          obtain ⟨Y77, hY77⟩ : ∃ X, X76.setRow g76 M0 = X := ⟨_, rfl⟩
          rw [hY77] at r41 r68 r75 r76 hHeld ⊢
          clear hY77
          refine wpAnyH_ready (rs := [21]) (by kernel_rfl) (by simp) ?_
          refine AllReadyH.cons rfl (fun K hK => ?_) AllReadyH.nil
          rw [if_pos (by rfl)]
          refine wp_store_row 38 _ _ rfl g41 N0 rfl rfl 38 AZ0 r41 iN sN oN ?_
          have r68 : Row (Y77.setRow g41 N0) g68 ZQ0 47 := Row.setOther r68 (by omega) N0
          have r75 : Row (Y77.setRow g41 N0) g75 ZQ0 47 := Row.setOther r75 (by omega) N0
          have r76 : Row (Y77.setRow g41 N0) g76 M0 38 := Row.setOther r76 (by omega) N0
          have r41 : Row (Y77.setRow g41 N0) g41 N0 38 := setRow_heap Y77 g41 _ N0 38 _ r41
          have T78 : Turn no w0 (Y77.setRow g41 N0) := hHeld.setRow g41 N0 (fun q => by omega)
          refine hK.out _ _ T78 (fun hHeld => ?_)
          clear hK
          clear T78
          obtain ⟨Y78, hY78⟩ : ∃ X, Y77.setRow g41 N0 = X := ⟨_, rfl⟩
          rw [hY78] at r41 r68 r75 r76 hHeld ⊢
          clear hY78
          refine wpAnyH_ready (rs := [22]) (by kernel_rfl) (by simp) ?_
          refine AllReadyH.cons rfl (fun K hK => ?_) AllReadyH.nil
          rw [if_pos (by rfl)]
          refine wp_store_row 47 _ _ rfl g75 P0 rfl rfl 47 ZQ0 r75 iPf sPf oPf ?_
          have r41 : Row (Y78.setRow g75 P0) g41 N0 38 := Row.setOther r41 (by omega) P0
          have r68 : Row (Y78.setRow g75 P0) g68 ZQ0 47 := Row.setOther r68 (by omega) P0
          have r76 : Row (Y78.setRow g75 P0) g76 M0 38 := Row.setOther r76 (by omega) P0
          have r75 : Row (Y78.setRow g75 P0) g75 P0 47 := setRow_heap Y78 g75 _ P0 47 _ r75
          have T79 : Turn no w0 (Y78.setRow g75 P0) := hHeld.setRow g75 P0 (fun q => by omega)
          refine hK.out _ _ T79 (fun hHeld => ?_)
          clear hK
          clear T79
          obtain ⟨Y79, hY79⟩ : ∃ X, Y78.setRow g75 P0 = X := ⟨_, rfl⟩
          rw [hY79] at r41 r68 r75 r76 hHeld ⊢
          clear hY79
          refine wpAnyH_ready (rs := [23]) (by kernel_rfl) (by simp) ?_
          refine AllReadyH.cons rfl (fun K hK => ?_) AllReadyH.nil
          rw [if_pos (by rfl)]
          refine wp_store_row 47 _ _ rfl g68 S0 rfl rfl 47 ZQ0 r68 iS sS oS ?_
          have r41 : Row (Y79.setRow g68 S0) g41 N0 38 := Row.setOther r41 (by omega) S0
          have r75 : Row (Y79.setRow g68 S0) g75 P0 47 := Row.setOther r75 (by omega) S0
          have r76 : Row (Y79.setRow g68 S0) g76 M0 38 := Row.setOther r76 (by omega) S0
          have r68 : Row (Y79.setRow g68 S0) g68 S0 47 := setRow_heap Y79 g68 _ S0 47 _ r68
          have T80 : Turn no w0 (Y79.setRow g68 S0) := hHeld.setRow g68 S0 (fun q => by omega)
          refine hK.out _ _ T80 (fun hHeld => ?_)
          clear hK
          clear T80
          obtain ⟨Y80, hY80⟩ : ∃ X, Y79.setRow g68 S0 = X := ⟨_, rfl⟩
          rw [hY80] at r41 r68 r75 r76 hHeld ⊢
          clear hY80
          refine wpAnyH_done (by kernel_rfl) ?_ _
          go_simp
          go_wp2_with fail
          go_meet
          case rel => exact ⟨g76, g41, g75, g68, rfl, rfl, rfl, rfl, ⟨r76, r41, r75, r68, hHeld⟩⟩
    · skip
      go_simp
      have hs81 := hHeld.size
      refine hK.out _ _ (hHeld.alloc _) (fun hHeld => ?_)
      clear hK
      obtain ⟨X81, hX81⟩ : ∃ X, X0.alloc (.cells ZQ0 47) = X := ⟨_, rfl⟩
      have r81 : Row X81 X0.heap.size ZQ0 47 := by rw [← hX81]; exact Row.new X0 _ _
      rw [hX81] at hHeld ⊢
      clear hX81
      generalize X0.heap.size = g81 at *
      refine wpAnyH_ready (rs := [16, 17, 19]) (by kernel_rfl) (by simp) ?_
      refine AllReadyH.cons rfl (fun K hK => ?_) (AllReadyH.cons rfl (fun K hK => ?_) (AllReadyH.cons rfl (fun K hK => ?_) AllReadyH.nil))
      · skip
        go_simp
        have hs82 := hHeld.size
        have lt82p := Row.lt r81
        refine hK.out _ _ (hHeld.alloc _) (fun hHeld => ?_)
        clear hK
        obtain ⟨X82, hX82⟩ : ∃ X, X81.alloc (.cells AZ0 38) = X := ⟨_, rfl⟩
        have r82 : Row X82 X81.heap.size AZ0 38 := by rw [← hX82]; exact Row.new X81 _ _
        have r81 : Row X82 g81 ZQ0 47 := by rw [← hX82]; exact Row.alloc r81 _
        rw [hX82] at hHeld ⊢
        clear hX82
        generalize X81.heap.size = g82 at *
        refine wpAnyH_ready (rs := [17, 19]) (by kernel_rfl) (by simp) ?_
        refine AllReadyH.cons rfl (fun K hK => ?_) (AllReadyH.cons rfl (fun K hK => ?_) AllReadyH.nil)
        · skip
          go_simp
          have hs83 := hHeld.size
          have lt83p := Row.lt r81
          have lt83m := Row.lt r82
          refine hK.out _ _ (hHeld.alloc _) (fun hHeld => ?_)
          clear hK
          obtain ⟨X83, hX83⟩ : ∃ X, X82.alloc (.cells AZ0 38) = X := ⟨_, rfl⟩
          have r83 : Row X83 X82.heap.size AZ0 38 := by rw [← hX83]; exact Row.new X82 _ _
          have r81 : Row X83 g81 ZQ0 47 := by rw [← hX83]; exact Row.alloc r81 _
          have r82 : Row X83 g82 AZ0 38 := by rw [← hX83]; exact Row.alloc r82 _
          rw [hX83] at hHeld ⊢
          clear hX83
          generalize X82.heap.size = g83 at *
          refine wpAnyH_ready (rs := [19]) (by kernel_rfl) (by simp) ?_
          refine AllReadyH.cons rfl (fun K hK => ?_) AllReadyH.nil
          go_simp
          have hs84 := hHeld.size
          have lt84p := Row.lt r81
          have lt84m := Row.lt r82
          have lt84n := Row.lt r83
          refine hK.out _ _ (hHeld.alloc _) (fun hHeld => ?_)
          clear hK
          obtain ⟨X84, hX84⟩ : ∃ X, X83.alloc (.cells ZQ0 47) = X := ⟨_, rfl⟩
          have r84 : Row X84 X83.heap.size ZQ0 47 := by rw [← hX84]; exact Row.new X83 _ _
          have r81 : Row X84 g81 ZQ0 47 := by rw [← hX84]; exact Row.alloc r81 _
          have r82 : Row X84 g82 AZ0 38 := by rw [← hX84]; exact Row.alloc r82 _
          have r83 : Row X84 g83 AZ0 38 := by rw [← hX84]; exact Row.alloc r83 _
          rw [hX84] at hHeld ⊢
          clear hX84
          generalize X83.heap.size = g84 at *
          refine wpAnyH_ready (rs := [20]) (by kernel_rfl) (by simp) ?_
          refine AllReadyH.cons rfl (fun K hK => ?_) AllReadyH.nil
          rw [if_pos (by rfl)]
          refine wp_store_row 38 _ _ rfl g82 M0 rfl rfl 38 AZ0 r82 iM sM oM ?_
          have r81 : Row (X84.setRow g82 M0) g81 ZQ0 47 := Row.setOther r81 (by omega) M0
          have r83 : Row (X84.setRow g82 M0) g83 AZ0 38 := Row.setOther r83 (by omega) M0
          have r84 : Row (X84.setRow g82 M0) g84 ZQ0 47 := Row.setOther r84 (by omega) M0
          have r82 : Row (X84.setRow g82 M0) g82 M0 38 := setRow_heap X84 g82 _ M0 38 _ r82
          have T85 : Turn no w0 (X84.setRow g82 M0) := hHeld.setRow g82 M0 (fun q => by omega)
          refine hK.out _ _ T85 (fun hHeld => ?_)
          clear hK
          clear T85
          obtain ⟨Y85, hY85⟩ : ∃ X, X84.setRow g82 M0 = X := ⟨_, rfl⟩
          rw [hY85] at r81 r82 r83 r84 hHeld ⊢
          clear hY85
          refine wpAnyH_ready (rs := [21]) (by kernel_rfl) (by simp) ?_
          refine AllReadyH.cons rfl (fun K hK => ?_) AllReadyH.nil
          rw [if_pos (by rfl)]
          refine wp_store_row 38 _ _ rfl g83 N0 rfl rfl 38 AZ0 r83 iN sN oN ?_
          have r81 : Row (Y85.setRow g83 N0) g81 ZQ0 47 := Row.setOther r81 (by omega) N0
          have r82 : Row (Y85.setRow g83 N0) g82 M0 38 := Row.setOther r82 (by omega) N0
          have r84 : Row (Y85.setRow g83 N0) g84 ZQ0 47 := Row.setOther r84 (by omega) N0
          have r83 : Row (Y85.setRow g83 N0) g83 N0 38 := setRow_heap Y85 g83 _ N0 38 _ r83
          have T86 : Turn no w0 (Y85.setRow g83 N0) := hHeld.setRow g83 N0 (fun q => by omega)
          refine hK.out _ _ T86 (fun hHeld => ?_)
          clear hK
          clear T86
          obtain ⟨Y86, hY86⟩ : ∃ X, Y85.setRow g83 N0 = X := ⟨_, rfl⟩
          rw [hY86] at r81 r82 r83 r84 hHeld ⊢
          clear hY86
          refine wpAnyH_ready (rs := [22]) (by kernel_rfl) (by simp) ?_
          refine AllReadyH.cons rfl (fun K hK => ?_) AllReadyH.nil
          rw [if_pos (by rfl)]
          refine wp_store_row 47 _ _ rfl g81 P0 rfl rfl 47 ZQ0 r81 iPf sPf oPf ?_
          have r82 : Row (Y86.setRow g81 P0) g82 M0 38 := Row.setOther r82 (by omega) P0
          have r83 : Row (Y86.setRow g81 P0) g83 N0 38 := Row.setOther r83 (by omega) P0
          have r84 : Row (Y86.setRow g81 P0) g84 ZQ0 47 := Row.setOther r84 (by omega) P0
          have r81 : Row (Y86.setRow g81 P0) g81 P0 47 := setRow_heap Y86 g81 _ P0 47 _ r81
          have T87 : Turn no w0 (Y86.setRow g81 P0) := hHeld.setRow g81 P0 (fun q => by omega)
          refine hK.out _ _ T87 (fun hHeld => ?_)
          clear hK
          clear T87
          obtain ⟨Y87, hY87⟩ : ∃ X, Y86.setRow g81 P0 = X := ⟨_, rfl⟩
          rw [hY87] at r81 r82 r83 r84 hHeld ⊢
          clear hY87
          refine wpAnyH_ready (rs := [23]) (by kernel_rfl) (by simp) ?_
          refine AllReadyH.cons rfl (fun K hK => ?_) AllReadyH.nil
          rw [if_pos (by rfl)]
          refine wp_store_row 47 _ _ rfl g84 S0 rfl rfl 47 ZQ0 r84 iS sS oS ?_
          have r81 : Row (Y87.setRow g84 S0) g81 P0 47 := Row.setOther r81 (by omega) S0
          have r82 : Row (Y87.setRow g84 S0) g82 M0 38 := Row.setOther r82 (by omega) S0
          have r83 : Row (Y87.setRow g84 S0) g83 N0 38 := Row.setOther r83 (by omega) S0
          have r84 : Row (Y87.setRow g84 S0) g84 S0 47 := setRow_heap Y87 g84 _ S0 47 _ r84
          have T88 : Turn no w0 (Y87.setRow g84 S0) := hHeld.setRow g84 S0 (fun q => by omega)
          refine hK.out _ _ T88 (fun hHeld => ?_)
          clear hK
          clear T88
          obtain ⟨Y88, hY88⟩ : ∃ X, Y87.setRow g84 S0 = X := ⟨_, rfl⟩
          rw [hY88] at r81 r82 r83 r84 hHeld ⊢
          clear hY88
          refine wpAnyH_done (by kernel_rfl) ?_ _
          go_simp
          go_wp2_with fail
          go_meet
          case rel => exact ⟨g82, g83, g81, g84, rfl, rfl, rfl, rfl, ⟨r82, r83, r81, r84, hHeld⟩⟩
        · skip
          go_simp
          have hs89 := hHeld.size
          have lt89p := Row.lt r81
          have lt89m := Row.lt r82
          refine hK.out _ _ (hHeld.alloc _) (fun hHeld => ?_)
          clear hK
          obtain ⟨X89, hX89⟩ : ∃ X, X82.alloc (.cells ZQ0 47) = X := ⟨_, rfl⟩
          have r89 : Row X89 X82.heap.size ZQ0 47 := by rw [← hX89]; exact Row.new X82 _ _
          have r81 : Row X89 g81 ZQ0 47 := by rw [← hX89]; exact Row.alloc r81 _
          have r82 : Row X89 g82 AZ0 38 := by rw [← hX89]; exact Row.alloc r82 _
          rw [hX89] at hHeld ⊢
          clear hX89
          generalize X82.heap.size = g89 at *
          refine wpAnyH_ready (rs := [17]) (by kernel_rfl) (by simp) ?_
          refine AllReadyH.cons rfl (fun K hK => ?_) AllReadyH.nil
          go_simp
          have hs90 := hHeld.size
          have lt90p := Row.lt r81
          have lt90m := Row.lt r82
          have lt90s := Row.lt r89
          refine hK.out _ _ (hHeld.alloc _) (fun hHeld => ?_)
          clear hK
          obtain ⟨X90, hX90⟩ : ∃ X, X89.alloc (.cells AZ0 38) = X := ⟨_, rfl⟩
          have r90 : Row X90 X89.heap.size AZ0 38 := by rw [← hX90]; exact Row.new X89 _ _
          have r81 : Row X90 g81 ZQ0 47 := by rw [← hX90]; exact Row.alloc r81 _
          have r82 : Row X90 g82 AZ0 38 := by rw [← hX90]; exact Row.alloc r82 _
          have r89 : Row X90 g89 ZQ0 47 := by rw [← hX90]; exact Row.alloc r89 _
          rw [hX90] at hHeld ⊢
          clear hX90
          generalize X89.heap.size = g90 at *
          refine wpAnyH_ready (rs := [20]) (by kernel_rfl) (by simp) ?_
          refine AllReadyH.cons rfl (fun K hK => ?_) AllReadyH.nil
          rw [if_pos (by rfl)]
          refine wp_store_row 38 _ _ rfl g82 M0 rfl rfl 38 AZ0 r82 iM sM oM ?_
          have r81 : Row (X90.setRow g82 M0) g81 ZQ0 47 := Row.setOther r81 (by omega) M0
          have r89 : Row (X90.setRow g82 M0) g89 ZQ0 47 := Row.setOther r89 (by omega) M0
          have r90 : Row (X90.setRow g82 M0) g90 AZ0 38 := Row.setOther r90 (by omega) M0
          have r82 : Row (X90.setRow g82 M0) g82 M0 38 := setRow_heap X90 g82 _ M0 38 _ r82
          have T91 : Turn no w0 (X90.setRow g82 M0) := hHeld.setRow g82 M0 (fun q => by omega)
          refine hK.out _ _ T91 (fun hHeld => ?_)
          clear hK
          clear T91
          obtain ⟨Y91, hY91⟩ : ∃ X, X90.setRow g82 M0 = X := ⟨_, rfl⟩
          rw [hY91] at r81 r82 r89 r90 hHeld ⊢
          clear hY91
          refine wpAnyH_ready (rs := [21]) (by kernel_rfl) (by simp) ?_
          refine AllReadyH.cons rfl (fun K hK => ?_) AllReadyH.nil
          rw [if_pos (by rfl)]
          refine wp_store_row 38 _ _ rfl g90 N0 rfl rfl 38 AZ0 r90 iN sN oN ?_
          have r81 : Row (Y91.setRow g90 N0) g81 ZQ0 47 := Row.setOther r81 (by omega) N0
          have r82 : Row (Y91.setRow g90 N0) g82 M0 38 := Row.setOther r82 (by omega) N0
          have r89 : Row (Y91.setRow g90 N0) g89 ZQ0 47 := Row.setOther r89 (by omega) N0
          have r90 : Row (Y91.setRow g90 N0) g90 N0 38 := setRow_heap Y91 g90 _ N0 38 _ r90
          have T92 : Turn no w0 (Y91.setRow g90 N0) := hHeld.setRow g90 N0 (fun q => by omega)
          refine hK.out _ _ T92 (fun hHeld => ?_)
          clear hK
          clear T92
          obtain ⟨Y92, hY92⟩ : ∃ X, Y91.setRow g90 N0 = X := ⟨_, rfl⟩
          rw [hY92] at r81 r82 r89 r90 hHeld ⊢
          clear hY92
          refine wpAnyH_ready (rs := [22]) (by kernel_rfl) (by simp) ?_
          refine AllReadyH.cons rfl (fun K hK => ?_) AllReadyH.nil
          rw [if_pos (by rfl)]
          refine wp_store_row 47 _ _ rfl g81 P0 rfl rfl 47 ZQ0 r81 iPf sPf oPf ?_
          have r82 : Row (Y92.setRow g81 P0) g82 M0 38 := Row.setOther r82 (by omega) P0
          have r89 : Row (Y92.setRow g81 P0) g89 ZQ0 47 := Row.setOther r89 (by omega) P0
          have r90 : Row (Y92.setRow g81 P0) g90 N0 38 := Row.setOther r90 (by omega) P0
          have r81 : Row (Y92.setRow g81 P0) g81 P0 47 := setRow_heap Y92 g81 _ P0 47 _ r81
          have T93 : Turn no w0 (Y92.setRow g81 P0) := hHeld.setRow g81 P0 (fun q => by omega)
          refine hK.out _ _ T93 (fun hHeld => ?_)
          clear hK
          clear T93
          obtain ⟨Y93, hY93⟩ : ∃ X, Y92.setRow g81 P0 = X := ⟨_, rfl⟩
          rw [hY93] at r81 r82 r89 r90 hHeld ⊢
          clear hY93
          refine wpAnyH_ready (rs := [23]) (by kernel_rfl) (by simp) ?_
          refine AllReadyH.cons rfl (fun K hK => ?_) AllReadyH.nil
          rw [if_pos (by rfl)]
          refine wp_store_row 47 _ _ rfl g89 S0 rfl rfl 47 ZQ0 r89 iS sS oS ?_
          have r81 : Row (Y93.setRow g89 S0) g81 P0 47 := Row.setOther r81 (by omega) S0
          have r82 : Row (Y93.setRow g89 S0) g82 M0 38 := Row.setOther r82 (by omega) S0
          have r90 : Row (Y93.setRow g89 S0) g90 N0 38 := Row.setOther r90 (by omega) S0
          have r89 : Row (Y93.setRow g89 S0) g89 S0 47 := setRow_heap Y93 g89 _ S0 47 _ r89
          have T94 : Turn no w0 (Y93.setRow g89 S0) := hHeld.setRow g89 S0 (fun q => by omega)
          refine hK.out _ _ T94 (fun hHeld => ?_)
          clear hK
          clear T94
          obtain ⟨Y94, hY94⟩ : ∃ X, Y93.setRow g89 S0 = X := ⟨_, rfl⟩
          rw [hY94] at r81 r82 r89 r90 hHeld ⊢
          clear hY94
          refine wpAnyH_done (by kernel_rfl) ?_ _
          go_simp
          go_wp2_with fail
          go_meet
          case rel => exact ⟨g82, g90, g81, g89, rfl, rfl, rfl, rfl, ⟨r82, r90, r81, r89, hHeld⟩⟩
      · skip
        go_simp
        have hs95 := hHeld.size
        have lt95p := Row.lt r81
        refine hK.out _ _ (hHeld.alloc _) (fun hHeld => ?_)
        clear hK
        obtain ⟨X95, hX95⟩ : ∃ X, X81.alloc (.cells AZ0 38) = X := ⟨_, rfl⟩
        have r95 : Row X95 X81.heap.size AZ0 38 := by rw [← hX95]; exact Row.new X81 _ _
        have r81 : Row X95 g81 ZQ0 47 := by rw [← hX95]; exact Row.alloc r81 _
        rw [hX95] at hHeld ⊢
        clear hX95
        generalize X81.heap.size = g95 at *
        refine wpAnyH_ready (rs := [16, 19]) (by kernel_rfl) (by simp) ?_
        refine AllReadyH.cons rfl (fun K hK => ?_) (AllReadyH.cons rfl (fun K hK => ?_) AllReadyH.nil)
        · skip
          go_simp
          have hs96 := hHeld.size
          have lt96p := Row.lt r81
          have lt96n := Row.lt r95
          refine hK.out _ _ (hHeld.alloc _) (fun hHeld => ?_)
          clear hK
          obtain ⟨X96, hX96⟩ : ∃ X, X95.alloc (.cells AZ0 38) = X := ⟨_, rfl⟩
          have r96 : Row X96 X95.heap.size AZ0 38 := by rw [← hX96]; exact Row.new X95 _ _
          have r81 : Row X96 g81 ZQ0 47 := by rw [← hX96]; exact Row.alloc r81 _
          have r95 : Row X96 g95 AZ0 38 := by rw [← hX96]; exact Row.alloc r95 _
          rw [hX96] at hHeld ⊢
          clear hX96
          generalize X95.heap.size = g96 at *
          refine wpAnyH_ready (rs := [19]) (by kernel_rfl) (by simp) ?_
          refine AllReadyH.cons rfl (fun K hK => ?_) AllReadyH.nil
          go_simp
          have hs97 := hHeld.size
          have lt97p := Row.lt r81
          have lt97n := Row.lt r95
          have lt97m := Row.lt r96
          refine hK.out _ _ (hHeld.alloc _) (fun hHeld => ?_)
          clear hK
          obtain ⟨X97, hX97⟩ : ∃ X, X96.alloc (.cells ZQ0 47) = X := ⟨_, rfl⟩
          have r97 : Row X97 X96.heap.size ZQ0 47 := by rw [← hX97]; exact Row.new X96 _ _
          have r81 : Row X97 g81 ZQ0 47 := by rw [← hX97]; exact Row.alloc r81 _
          have r95 : Row X97 g95 AZ0 38 := by rw [← hX97]; exact Row.alloc r95 _
          have r96 : Row X97 g96 AZ0 38 := by rw [← hX97]; exact Row.alloc r96 _
          rw [hX97] at hHeld ⊢
          clear hX97
          generalize X96.heap.size = g97 at *
          refine wpAnyH_ready (rs := [20]) (by kernel_rfl) (by simp) ?_
          refine AllReadyH.cons rfl (fun K hK => ?_) AllReadyH.nil
          rw [if_pos (by rfl)]
          refine wp_store_row 38 _ _ rfl g96 M0 rfl rfl 38 AZ0 r96 iM sM oM ?_
          have r81 : Row (X97.setRow g96 M0) g81 ZQ0 47 := Row.setOther r81 (by omega) M0
          have r95 : Row (X97.setRow g96 M0) g95 AZ0 38 := Row.setOther r95 (by omega) M0
          have r97 : Row (X97.setRow g96 M0) g97 ZQ0 47 := Row.setOther r97 (by omega) M0
          have r96 : Row (X97.setRow g96 M0) g96 M0 38 := setRow_heap X97 g96 _ M0 38 _ r96
          have T98 : Turn no w0 (X97.setRow g96 M0) := hHeld.setRow g96 M0 (fun q => by omega)
          refine hK.out _ _ T98 (fun hHeld => ?_)
          clear hK
          clear T98
          obtain ⟨Y98, hY98⟩ : ∃ X, X97.setRow g96 M0 = X := ⟨_, rfl⟩
          rw [hY98] at r81 r95 r96 r97 hHeld ⊢
          clear hY98
          refine wpAnyH_ready (rs := [21]) (by kernel_rfl) (by simp) ?_
          refine AllReadyH.cons rfl (fun K hK => ?_) AllReadyH.nil
          rw [if_pos (by rfl)]
          refine wp_store_row 38 _ _ rfl g95 N0 rfl rfl 38 AZ0 r95 iN sN oN ?_
          have r81 : Row (Y98.setRow g95 N0) g81 ZQ0 47 := Row.setOther r81 (by omega) N0
          have r96 : Row (Y98.setRow g95 N0) g96 M0 38 := Row.setOther r96 (by omega) N0
          have r97 : Row (Y98.setRow g95 N0) g97 ZQ0 47 := Row.setOther r97 (by omega) N0
          have r95 : Row (Y98.setRow g95 N0) g95 N0 38 := setRow_heap Y98 g95 _ N0 38 _ r95
          have T99 : Turn no w0 (Y98.setRow g95 N0) := hHeld.setRow g95 N0 (fun q => by omega)
          refine hK.out _ _ T99 (fun hHeld => ?_)
          clear hK
          clear T99
          obtain ⟨Y99, hY99⟩ : ∃ X, Y98.setRow g95 N0 = X := ⟨_, rfl⟩
          rw [hY99] at r81 r95 r96 r97 hHeld ⊢
          clear hY99
          refine wpAnyH_ready (rs := [22]) (by kernel_rfl) (by simp) ?_
          refine AllReadyH.cons rfl (fun K hK => ?_) AllReadyH.nil
          rw [if_pos (by rfl)]
          refine wp_store_row 47 _ _ rfl g81 P0 rfl rfl 47 ZQ0 r81 iPf sPf oPf ?_
          have r95 : Row (Y99.setRow g81 P0) g95 N0 38 := Row.setOther r95 (by omega) P0
          have r96 : Row (Y99.setRow g81 P0) g96 M0 38 := Row.setOther r96 (by omega) P0
          have r97 : Row (Y99.setRow g81 P0) g97 ZQ0 47 := Row.setOther r97 (by omega) P0
          have r81 : Row (Y99.setRow g81 P0) g81 P0 47 := setRow_heap Y99 g81 _ P0 47 _ r81
          have T100 : Turn no w0 (Y99.setRow g81 P0) := hHeld.setRow g81 P0 (fun q => by omega)
          refine hK.out _ _ T100 (fun hHeld => ?_)
          clear hK
          clear T100
          obtain ⟨Y100, hY100⟩ : ∃ X, Y99.setRow g81 P0 = X := ⟨_, rfl⟩
          rw [hY100] at r81 r95 r96 r97 hHeld ⊢
          clear hY100
          refine wpAnyH_ready (rs := [23]) (by kernel_rfl) (by simp) ?_
          refine AllReadyH.cons rfl (fun K hK => ?_) AllReadyH.nil
          rw [if_pos (by rfl)]
          refine wp_store_row 47 _ _ rfl g97 S0 rfl rfl 47 ZQ0 r97 iS sS oS ?_
          have r81 : Row (Y100.setRow g97 S0) g81 P0 47 := Row.setOther r81 (by omega) S0
          have r95 : Row (Y100.setRow g97 S0) g95 N0 38 := Row.setOther r95 (by omega) S0
          have r96 : Row (Y100.setRow g97 S0) g96 M0 38 := Row.setOther r96 (by omega) S0
          have r97 : Row (Y100.setRow g97 S0) g97 S0 47 := setRow_heap Y100 g97 _ S0 47 _ r97
          have T101 : Turn no w0 (Y100.setRow g97 S0) := hHeld.setRow g97 S0 (fun q => by omega)
          refine hK.out _ _ T101 (fun hHeld => ?_)
          clear hK
          clear T101
          obtain ⟨Y101, hY101⟩ : ∃ X, Y100.setRow g97 S0 = X := ⟨_, rfl⟩
          rw [hY101] at r81 r95 r96 r97 hHeld ⊢
          clear hY101
          refine wpAnyH_done (by kernel_rfl) ?_ _
          go_simp
          go_wp2_with fail
          go_meet
          case rel => exact ⟨g96, g95, g81, g97, rfl, rfl, rfl, rfl, ⟨r96, r95, r81, r97, hHeld⟩⟩
        · skip
          go_simp
          have hs102 := hHeld.size
          have lt102p := Row.lt r81
          have lt102n := Row.lt r95
          refine hK.out _ _ (hHeld.alloc _) (fun hHeld => ?_)
          clear hK
          obtain ⟨X102, hX102⟩ : ∃ X, X95.alloc (.cells ZQ0 47) = X := ⟨_, rfl⟩
          have r102 : Row X102 X95.heap.size ZQ0 47 := by rw [← hX102]; exact Row.new X95 _ _
          have r81 : Row X102 g81 ZQ0 47 := by rw [← hX102]; exact Row.alloc r81 _
          have r95 : Row X102 g95 AZ0 38 := by rw [← hX102]; exact Row.alloc r95 _
          rw [hX102] at hHeld ⊢
          clear hX102
          generalize X95.heap.size = g102 at *
          refine wpAnyH_ready (rs := [16]) (by kernel_rfl) (by simp) ?_
          refine AllReadyH.cons rfl (fun K hK => ?_) AllReadyH.nil
          go_simp
          have hs103 := hHeld.size
          have lt103p := Row.lt r81
          have lt103n := Row.lt r95
          have lt103s := Row.lt r102
          refine hK.out _ _ (hHeld.alloc _) (fun hHeld => ?_)
          clear hK
          obtain ⟨X103, hX103⟩ : ∃ X, X102.alloc (.cells AZ0 38) = X := ⟨_, rfl⟩
          have r103 : Row X103 X102.heap.size AZ0 38 := by rw [← hX103]; exact Row.new X102 _ _
          have r81 : Row X103 g81 ZQ0 47 := by rw [← hX103]; exact Row.alloc r81 _
          have r95 : Row X103 g95 AZ0 38 := by rw [← hX103]; exact Row.alloc r95 _
          have r102 : Row X103 g102 ZQ0 47 := by rw [← hX103]; exact Row.alloc r102 _
          rw [hX103] at hHeld ⊢
          clear hX103
          generalize X102.heap.size = g103 at *
          refine wpAnyH_ready (rs := [20]) (by kernel_rfl) (by simp) ?_
          refine AllReadyH.cons rfl (fun K hK => ?_) AllReadyH.nil
          rw [if_pos (by rfl)]
          refine wp_store_row 38 _ _ rfl g103 M0 rfl rfl 38 AZ0 r103 iM sM oM ?_
          have r81 : Row (X103.setRow g103 M0) g81 ZQ0 47 := Row.setOther r81 (by omega) M0
          have r95 : Row (X103.setRow g103 M0) g95 AZ0 38 := Row.setOther r95 (by omega) M0
          have r102 : Row (X103.setRow g103 M0) g102 ZQ0 47 := Row.setOther r102 (by omega) M0
          have r103 : Row (X103.setRow g103 M0) g103 M0 38 := setRow_heap X103 g103 _ M0 38 _ r103
          have T104 : Turn no w0 (X103.setRow g103 M0) := hHeld.setRow g103 M0 (fun q => by omega)
          refine hK.out _ _ T104 (fun hHeld => ?_)
          clear hK
          clear T104
          obtain ⟨Y104, hY104⟩ : ∃ X, X103.setRow g103 M0 = X := ⟨_, rfl⟩
          rw [hY104] at r81 r95 r102 r103 hHeld ⊢
          clear hY104
          refine wpAnyH_ready (rs := [21]) (by kernel_rfl) (by simp) ?_
          refine AllReadyH.cons rfl (fun K hK => ?_) AllReadyH.nil
          rw [if_pos (by rfl)]
          refine wp_store_row 38 _ _ rfl g95 N0 rfl rfl 38 AZ0 r95 iN sN oN ?_
          have r81 : Row (Y104.setRow g95 N0) g81 ZQ0 47 := Row.setOther r81 (by omega) N0
          have r102 : Row (Y104.setRow g95 N0) g102 ZQ0 47 := Row.setOther r102 (by omega) N0
          have r103 : Row (Y104.setRow g95 N0) g103 M0 38 := Row.setOther r103 (by omega) N0
          have r95 : Row (Y104.setRow g95 N0) g95 N0 38 := setRow_heap Y104 g95 _ N0 38 _ r95
          have T105 : Turn no w0 (Y104.setRow g95 N0) := hHeld.setRow g95 N0 (fun q => by omega)
          refine hK.out _ _ T105 (fun hHeld => ?_)
          clear hK
          clear T105
          obtain ⟨Y105, hY105⟩ : ∃ X, Y104.setRow g95 N0 = X := ⟨_, rfl⟩
          rw [hY105] at r81 r95 r102 r103 hHeld ⊢
          clear hY105
          refine wpAnyH_ready (rs := [22]) (by kernel_rfl) (by simp) ?_
          refine AllReadyH.cons rfl (fun K hK => ?_) AllReadyH.nil
          rw [if_pos (by rfl)]
          refine wp_store_row 47 _ _ rfl g81 P0 rfl rfl 47 ZQ0 r81 iPf sPf oPf ?_
          have r95 : Row (Y105.setRow g81 P0) g95 N0 38 := Row.setOther r95 (by omega) P0
          have r102 : Row (Y105.setRow g81 P0) g102 ZQ0 47 := Row.setOther r102 (by omega) P0
          have r103 : Row (Y105.setRow g81 P0) g103 M0 38 := Row.setOther r103 (by omega) P0
          have r81 : Row (Y105.setRow g81 P0) g81 P0 47 := setRow_heap Y105 g81 _ P0 47 _ r81
          have T106 : Turn no w0 (Y105.setRow g81 P0) := hHeld.setRow g81 P0 (fun q => by omega)
          refine hK.out _ _ T106 (fun hHeld => ?_)
          clear hK
          clear T106
          obtain ⟨Y106, hY106⟩ : ∃ X, Y105.setRow g81 P0 = X := ⟨_, rfl⟩
          rw [hY106] at r81 r95 r102 r103 hHeld ⊢
          clear hY106
          refine wpAnyH_ready (rs := [23]) (by kernel_rfl) (by simp) ?_
          refine AllReadyH.cons rfl (fun K hK => ?_) AllReadyH.nil
          rw [if_pos (by rfl)]
          refine wp_store_row 47 _ _ rfl g102 S0 rfl rfl 47 ZQ0 r102 iS sS oS ?_
          have r81 : Row (Y106.setRow g102 S0) g81 P0 47 := Row.setOther r81 (by omega) S0
          have r95 : Row (Y106.setRow g102 S0) g95 N0 38 := Row.setOther r95 (by omega) S0
          have r103 : Row (Y106.setRow g102 S0) g103 M0 38 := Row.setOther r103 (by omega) S0
          have r102 : Row (Y106.setRow g102 S0) g102 S0 47 := setRow_heap Y106 g102 _ S0 47 _ r102
          have T107 : Turn no w0 (Y106.setRow g102 S0) := hHeld.setRow g102 S0 (fun q => by omega)
          refine hK.out _ _ T107 (fun hHeld => ?_)
          clear hK
          clear T107
          obtain ⟨Y107, hY107⟩ : ∃ X, Y106.setRow g102 S0 = X := ⟨_, rfl⟩
          rw [hY107] at r81 r95 r102 r103 hHeld ⊢
          clear hY107
          refine wpAnyH_done (by kernel_rfl) ?_ _
          go_simp
          go_wp2_with fail
          go_meet
          case rel => exact ⟨g103, g95, g81, g102, rfl, rfl, rfl, rfl, ⟨r103, r95, r81, r102, hHeld⟩⟩
      · skip
        go_simp
        have hs108 := hHeld.size
        have lt108p := Row.lt r81
        refine hK.out _ _ (hHeld.alloc _) (fun hHeld => ?_)
        clear hK
        obtain ⟨X108, hX108⟩ : ∃ X, X81.alloc (.cells ZQ0 47) = X := ⟨_, rfl⟩
        have r108 : Row X108 X81.heap.size ZQ0 47 := by rw [← hX108]; exact Row.new X81 _ _
        have r81 : Row X108 g81 ZQ0 47 := by rw [← hX108]; exact Row.alloc r81 _
        rw [hX108] at hHeld ⊢
        clear hX108
        generalize X81.heap.size = g108 at *
        refine wpAnyH_ready (rs := [16, 17]) (by kernel_rfl) (by simp) ?_
        refine AllReadyH.cons rfl (fun K hK => ?_) (AllReadyH.cons rfl (fun K hK => ?_) AllReadyH.nil)
        · skip
          go_simp
          have hs109 := hHeld.size
          have lt109p := Row.lt r81
          have lt109s := Row.lt r108
          refine hK.out _ _ (hHeld.alloc _) (fun hHeld => ?_)
          clear hK
          obtain ⟨X109, hX109⟩ : ∃ X, X108.alloc (.cells AZ0 38) = X := ⟨_, rfl⟩
          have r109 : Row X109 X108.heap.size AZ0 38 := by rw [← hX109]; exact Row.new X108 _ _
          have r81 : Row X109 g81 ZQ0 47 := by rw [← hX109]; exact Row.alloc r81 _
          have r108 : Row X109 g108 ZQ0 47 := by rw [← hX109]; exact Row.alloc r108 _
          rw [hX109] at hHeld ⊢
          clear hX109
          generalize X108.heap.size = g109 at *
          refine wpAnyH_ready (rs := [17]) (by kernel_rfl) (by simp) ?_
          refine AllReadyH.cons rfl (fun K hK => ?_) AllReadyH.nil
          go_simp
          have hs110 := hHeld.size
          have lt110p := Row.lt r81
          have lt110s := Row.lt r108
          have lt110m := Row.lt r109
          refine hK.out _ _ (hHeld.alloc _) (fun hHeld => ?_)
          clear hK
          obtain ⟨X110, hX110⟩ : ∃ X, X109.alloc (.cells AZ0 38) = X := ⟨_, rfl⟩
          have r110 : Row X110 X109.heap.size AZ0 38 := by rw [← hX110]; exact Row.new X109 _ _
          have r81 : Row X110 g81 ZQ0 47 := by rw [← hX110]; exact Row.alloc r81 _
          have r108 : Row X110 g108 ZQ0 47 := by rw [← hX110]; exact Row.alloc r108 _
          have r109 : Row X110 g109 AZ0 38 := by rw [← hX110]; exact Row.alloc r109 _
          rw [hX110] at hHeld ⊢
          clear hX110
          generalize X109.heap.size = g110 at *
          refine wpAnyH_ready (rs := [20]) (by kernel_rfl) (by simp) ?_
          refine AllReadyH.cons rfl (fun K hK => ?_) AllReadyH.nil
          rw [if_pos (by rfl)]
          refine wp_store_row 38 _ _ rfl g109 M0 rfl rfl 38 AZ0 r109 iM sM oM ?_
          have r81 : Row (X110.setRow g109 M0) g81 ZQ0 47 := Row.setOther r81 (by omega) M0
          have r108 : Row (X110.setRow g109 M0) g108 ZQ0 47 := Row.setOther r108 (by omega) M0
          have r110 : Row (X110.setRow g109 M0) g110 AZ0 38 := Row.setOther r110 (by omega) M0
          have r109 : Row (X110.setRow g109 M0) g109 M0 38 := setRow_heap X110 g109 _ M0 38 _ r109
          have T111 : Turn no w0 (X110.setRow g109 M0) := hHeld.setRow g109 M0 (fun q => by omega)
          refine hK.out _ _ T111 (fun hHeld => ?_)
          clear hK
          clear T111
          obtain ⟨Y111, hY111⟩ : ∃ X, X110.setRow g109 M0 = X := ⟨_, rfl⟩
          rw [hY111] at r81 r108 r109 r110 hHeld ⊢
          clear hY111
          refine wpAnyH_ready (rs := [21]) (by kernel_rfl) (by simp) ?_
          refine AllReadyH.cons rfl (fun K hK => ?_) AllReadyH.nil
          rw [if_pos (by rfl)]
          refine wp_store_row 38 _ _ rfl g110 N0 rfl rfl 38 AZ0 r110 iN sN oN ?_
          have r81 : Row (Y111.setRow g110 N0) g81 ZQ0 47 := Row.setOther r81 (by omega) N0
          have r108 : Row (Y111.setRow g110 N0) g108 ZQ0 47 := Row.setOther r108 (by omega) N0
          have r109 : Row (Y111.setRow g110 N0) g109 M0 38 := Row.setOther r109 (by omega) N0
          have r110 : Row (Y111.setRow g110 N0) g110 N0 38 := setRow_heap Y111 g110 _ N0 38 _ r110
          have T112 : Turn no w0 (Y111.setRow g110 N0) := hHeld.setRow g110 N0 (fun q => by omega)
          refine hK.out _ _ T112 (fun hHeld => ?_)
          clear hK
          clear T112
          obtain ⟨Y112, hY112⟩ : ∃ X, Y111.setRow g110 N0 = X := ⟨_, rfl⟩
          rw [hY112] at r81 r108 r109 r110 hHeld ⊢
          clear hY112
          refine wpAnyH_ready (rs := [22]) (by kernel_rfl) (by simp) ?_
          refine AllReadyH.cons rfl (fun K hK => ?_) AllReadyH.nil
          rw [if_pos (by rfl)]
          refine wp_store_row 47 _ _ rfl g81 P0 rfl rfl 47 ZQ0 r81 iPf sPf oPf ?_
          have r108 : Row (Y112.setRow g81 P0) g108 ZQ0 47 := Row.setOther r108 (by omega) P0
          have r109 : Row (Y112.setRow g81 P0) g109 M0 38 := Row.setOther r109 (by omega) P0
          have r110 : Row (Y112.setRow g81 P0) g110 N0 38 := Row.setOther r110 (by omega) P0
          have r81 : Row (Y112.setRow g81 P0) g81 P0 47 := setRow_heap Y112 g81 _ P0 47 _ r81
          have T113 : Turn no w0 (Y112.setRow g81 P0) := hHeld.setRow g81 P0 (fun q => by omega)
          refine hK.out _ _ T113 (fun hHeld => ?_)
          clear hK
          clear T113
          obtain ⟨Y113, hY113⟩ : ∃ X, Y112.setRow g81 P0 = X := ⟨_, rfl⟩
          rw [hY113] at r81 r108 r109 r110 hHeld ⊢
          clear hY113
          refine wpAnyH_ready (rs := [23]) (by kernel_rfl) (by simp) ?_
          refine AllReadyH.cons rfl (fun K hK => ?_) AllReadyH.nil
          rw [if_pos (by rfl)]
          refine wp_store_row 47 _ _ rfl g108 S0 rfl rfl 47 ZQ0 r108 iS sS oS ?_
          have r81 : Row (Y113.setRow g108 S0) g81 P0 47 := Row.setOther r81 (by omega) S0
          have r109 : Row (Y113.setRow g108 S0) g109 M0 38 := Row.setOther r109 (by omega) S0
          have r110 : Row (Y113.setRow g108 S0) g110 N0 38 := Row.setOther r110 (by omega) S0
          have r108 : Row (Y113.setRow g108 S0) g108 S0 47 := setRow_heap Y113 g108 _ S0 47 _ r108
          have T114 : Turn no w0 (Y113.setRow g108 S0) := hHeld.setRow g108 S0 (fun q => by omega)
          refine hK.out _ _ T114 (fun hHeld => ?_)
          clear hK
          clear T114
          obtain ⟨Y114, hY114⟩ : ∃ X, Y113.setRow g108 S0 = X := ⟨_, rfl⟩
          rw [hY114] at r81 r108 r109 r110 hHeld ⊢
          clear hY114
          refine wpAnyH_done (by kernel_rfl) ?_ _
          go_simp
          go_wp2_with fail
          go_meet
          case rel => exact ⟨g109, g110, g81, g108, rfl, rfl, rfl, rfl, ⟨r109, r110, r81, r108, hHeld⟩⟩
        · skip
          go_simp
          have hs115 := hHeld.size
          have lt115p := Row.lt r81
          have lt115s := Row.lt r108
          refine hK.out _ _ (hHeld.alloc _) (fun hHeld => ?_)
          clear hK
          obtain ⟨X115, hX115⟩ : ∃ X, X108.alloc (.cells AZ0 38) = X := ⟨_, rfl⟩
          have r115 : Row X115 X108.heap.size AZ0 38 := by rw [← hX115]; exact Row.new X108 _ _
          have r81 : Row X115 g81 ZQ0 47 := by rw [← hX115]; exact Row.alloc r81 _
          have r108 : Row X115 g108 ZQ0 47 := by rw [← hX115]; exact Row.alloc r108 _
          rw [hX115] at hHeld ⊢
          clear hX115
          generalize X108.heap.size = g115 at *
          refine wpAnyH_ready (rs := [16]) (by kernel_rfl) (by simp) ?_
          refine AllReadyH.cons rfl (fun K hK => ?_) AllReadyH.nil
          go_simp
          have hs116 := hHeld.size
          have lt116p := Row.lt r81
          have lt116s := Row.lt r108
          have lt116n := Row.lt r115
          refine hK.out _ _ (hHeld.alloc _) (fun hHeld => ?_)
          clear hK
          obtain ⟨X116, hX116⟩ : ∃ X, X115.alloc (.cells AZ0 38) = X := ⟨_, rfl⟩
          have r116 : Row X116 X115.heap.size AZ0 38 := by rw [← hX116]; exact Row.new X115 _ _
          have r81 : Row X116 g81 ZQ0 47 := by rw [← hX116]; exact Row.alloc r81 _
          have r108 : Row X116 g108 ZQ0 47 := by rw [← hX116]; exact Row.alloc r108 _
          have r115 : Row X116 g115 AZ0 38 := by rw [← hX116]; exact Row.alloc r115 _
          rw [hX116] at hHeld ⊢
          clear hX116
          generalize X115.heap.size = g116 at *
          refine wpAnyH_ready (rs := [20]) (by kernel_rfl) (by simp) ?_
          refine AllReadyH.cons rfl (fun K hK => ?_) AllReadyH.nil
          rw [if_pos (by rfl)]
          refine wp_store_row 38 _ _ rfl g116 M0 rfl rfl 38 AZ0 r116 iM sM oM ?_
          have r81 : Row (X116.setRow g116 M0) g81 ZQ0 47 := Row.setOther r81 (by omega) M0
          have r108 : Row (X116.setRow g116 M0) g108 ZQ0 47 := Row.setOther r108 (by omega) M0
          have r115 : Row (X116.setRow g116 M0) g115 AZ0 38 := Row.setOther r115 (by omega) M0
          have r116 : Row (X116.setRow g116 M0) g116 M0 38 := setRow_heap X116 g116 _ M0 38 _ r116
          have T117 : Turn no w0 (X116.setRow g116 M0) := hHeld.setRow g116 M0 (fun q => by omega)
          refine hK.out _ _ T117 (fun hHeld => ?_)
          clear hK
          clear T117
          obtain ⟨Y117, hY117⟩ : ∃ X, X116.setRow g116 M0 = X := ⟨_, rfl⟩
          rw [hY117] at r81 r108 r115 r116 hHeld ⊢
          clear hY117
          refine wpAnyH_ready (rs := [21]) (by kernel_rfl) (by simp) ?_
          refine AllReadyH.cons rfl (fun K hK => ?_) AllReadyH.nil
          rw [if_pos (by rfl)]
          refine wp_store_row 38 _ _ rfl g115 N0 rfl rfl 38 AZ0 r115 iN sN oN ?_
          have r81 : Row (Y117.setRow g115 N0) g81 ZQ0 47 := Row.setOther r81 (by omega) N0
          have r108 : Row (Y117.setRow g115 N0) g108 ZQ0 47 := Row.setOther r108 (by omega) N0
          have r116 : Row (Y117.setRow g115 N0) g116 M0 38 := Row.setOther r116 (by omega) N0
          have r115 : Row (Y117.setRow g115 N0) g115 N0 38 := setRow_heap Y117 g115 _ N0 38 _ r115
          have T118 : Turn no w0 (Y117.setRow g115 N0) := hHeld.setRow g115 N0 (fun q => by omega)
          refine hK.out _ _ T118 (fun hHeld => ?_)
          clear hK
          clear T118
          obtain ⟨Y118, hY118⟩ : ∃ X, Y117.setRow g115 N0 = X := ⟨_, rfl⟩
          rw [hY118] at r81 r108 r115 r116 hHeld ⊢
          clear hY118
          refine wpAnyH_ready (rs := [22]) (by kernel_rfl) (by simp) ?_
          refine AllReadyH.cons rfl (fun K hK => ?_) AllReadyH.nil
          rw [if_pos (by rfl)]
          refine wp_store_row 47 _ _ rfl g81 P0 rfl rfl 47 ZQ0 r81 iPf sPf oPf ?_
          have r108 : Row (Y118.setRow g81 P0) g108 ZQ0 47 := Row.setOther r108 (by omega) P0
          have r115 : Row (Y118.setRow g81 P0) g115 N0 38 := Row.setOther r115 (by omega) P0
          have r116 : Row (Y118.setRow g81 P0) g116 M0 38 := Row.setOther r116 (by omega) P0
          have r81 : Row (Y118.setRow g81 P0) g81 P0 47 := setRow_heap Y118 g81 _ P0 47 _ r81
          have T119 : Turn no w0 (Y118.setRow g81 P0) := hHeld.setRow g81 P0 (fun q => by omega)
          refine hK.out _ _ T119 (fun hHeld => ?_)
          clear hK
          clear T119
          obtain ⟨Y119, hY119⟩ : ∃ X, Y118.setRow g81 P0 = X := ⟨_, rfl⟩
          rw [hY119] at r81 r108 r115 r116 hHeld ⊢
          clear hY119
          refine wpAnyH_ready (rs := [23]) (by kernel_rfl) (by simp) ?_
          refine AllReadyH.cons rfl (fun K hK => ?_) AllReadyH.nil
          rw [if_pos (by rfl)]
          refine wp_store_row 47 _ _ rfl g108 S0 rfl rfl 47 ZQ0 r108 iS sS oS ?_
          have r81 : Row (Y119.setRow g108 S0) g81 P0 47 := Row.setOther r81 (by omega) S0
          have r115 : Row (Y119.setRow g108 S0) g115 N0 38 := Row.setOther r115 (by omega) S0
          have r116 : Row (Y119.setRow g108 S0) g116 M0 38 := Row.setOther r116 (by omega) S0
          have r108 : Row (Y119.setRow g108 S0) g108 S0 47 := setRow_heap Y119 g108 _ S0 47 _ r108
          have T120 : Turn no w0 (Y119.setRow g108 S0) := hHeld.setRow g108 S0 (fun q => by omega)
          refine hK.out _ _ T120 (fun hHeld => ?_)
          clear hK
          clear T120
          obtain ⟨Y120, hY120⟩ : ∃ X, Y119.setRow g108 S0 = X := ⟨_, rfl⟩
          rw [hY120] at r81 r108 r115 r116 hHeld ⊢
          clear hY120
          refine wpAnyH_done (by kernel_rfl) ?_ _
          go_simp
          go_wp2_with fail
          go_meet
          case rel => exact ⟨g116, g115, g81, g108, rfl, rfl, rfl, rfl, ⟨r116, r115, r81, r108, hHeld⟩⟩
    · skip
      go_simp
      have hs121 := hHeld.size
      refine hK.out _ _ (hHeld.alloc _) (fun hHeld => ?_)
      clear hK
      obtain ⟨X121, hX121⟩ : ∃ X, X0.alloc (.cells ZQ0 47) = X := ⟨_, rfl⟩
      have r121 : Row X121 X0.heap.size ZQ0 47 := by rw [← hX121]; exact Row.new X0 _ _
      rw [hX121] at hHeld ⊢
      clear hX121
      generalize X0.heap.size = g121 at *
      refine wpAnyH_ready (rs := [16, 17, 18]) (by kernel_rfl) (by simp) ?_
      refine AllReadyH.cons rfl (fun K hK => ?_) (AllReadyH.cons rfl (fun K hK => ?_) (AllReadyH.cons rfl (fun K hK => ?_) AllReadyH.nil))
      · skip
        go_simp
        have hs122 := hHeld.size
        have lt122s := Row.lt r121
        refine hK.out _ _ (hHeld.alloc _) (fun hHeld => ?_)
        clear hK
        obtain ⟨X122, hX122⟩ : ∃ X, X121.alloc (.cells AZ0 38) = X := ⟨_, rfl⟩
        have r122 : Row X122 X121.heap.size AZ0 38 := by rw [← hX122]; exact Row.new X121 _ _
        have r121 : Row X122 g121 ZQ0 47 := by rw [← hX122]; exact Row.alloc r121 _
        rw [hX122] at hHeld ⊢
        clear hX122
        generalize X121.heap.size = g122 at *
        refine wpAnyH_ready (rs := [17, 18]) (by kernel_rfl) (by simp) ?_
        refine AllReadyH.cons rfl (fun K hK => ?_) (AllReadyH.cons rfl (fun K hK => ?_) AllReadyH.nil)
        · skip
          go_simp
          have hs123 := hHeld.size
          have lt123s := Row.lt r121
          have lt123m := Row.lt r122
          refine hK.out _ _ (hHeld.alloc _) (fun hHeld => ?_)
          clear hK
          obtain ⟨X123, hX123⟩ : ∃ X, X122.alloc (.cells AZ0 38) = X := ⟨_, rfl⟩
          have r123 : Row X123 X122.heap.size AZ0 38 := by rw [← hX123]; exact Row.new X122 _ _
          have r121 : Row X123 g121 ZQ0 47 := by rw [← hX123]; exact Row.alloc r121 _
          have r122 : Row X123 g122 AZ0 38 := by rw [← hX123]; exact Row.alloc r122 _
          rw [hX123] at hHeld ⊢
          clear hX123
          generalize X122.heap.size = g123 at *
          refine wpAnyH_ready (rs := [18]) (by kernel_rfl) (by simp) ?_
          refine AllReadyH.cons rfl (fun K hK => ?_) AllReadyH.nil
          go_simp
          have hs124 := hHeld.size
          have lt124s := Row.lt r121
          have lt124m := Row.lt r122
          have lt124n := Row.lt r123
          refine hK.out _ _ (hHeld.alloc _) (fun hHeld => ?_)
          clear hK
          obtain ⟨X124, hX124⟩ : ∃ X, X123.alloc (.cells ZQ0 47) = X := ⟨_, rfl⟩
          have r124 : Row X124 X123.heap.size ZQ0 47 := by rw [← hX124]; exact Row.new X123 _ _
          have r121 : Row X124 g121 ZQ0 47 := by rw [← hX124]; exact Row.alloc r121 _
          have r122 : Row X124 g122 AZ0 38 := by rw [← hX124]; exact Row.alloc r122 _
          have r123 : Row X124 g123 AZ0 38 := by rw [← hX124]; exact Row.alloc r123 _
          rw [hX124] at hHeld ⊢
          clear hX124
          generalize X123.heap.size = g124 at *
          refine wpAnyH_ready (rs := [20]) (by kernel_rfl) (by simp) ?_
          refine AllReadyH.cons rfl (fun K hK => ?_) AllReadyH.nil
          rw [if_pos (by rfl)]
          refine wp_store_row 38 _ _ rfl g122 M0 rfl rfl 38 AZ0 r122 iM sM oM ?_
          have r121 : Row (X124.setRow g122 M0) g121 ZQ0 47 := Row.setOther r121 (by omega) M0
          have r123 : Row (X124.setRow g122 M0) g123 AZ0 38 := Row.setOther r123 (by omega) M0
          have r124 : Row (X124.setRow g122 M0) g124 ZQ0 47 := Row.setOther r124 (by omega) M0
          have r122 : Row (X124.setRow g122 M0) g122 M0 38 := setRow_heap X124 g122 _ M0 38 _ r122
          have T125 : Turn no w0 (X124.setRow g122 M0) := hHeld.setRow g122 M0 (fun q => by omega)
          refine hK.out _ _ T125 (fun hHeld => ?_)
          clear hK
          clear T125
          obtain ⟨Y125, hY125⟩ : ∃ X, X124.setRow g122 M0 = X := ⟨_, rfl⟩
          rw [hY125] at r121 r122 r123 r124 hHeld ⊢
          clear hY125
          refine wpAnyH_ready (rs := [21]) (by kernel_rfl) (by simp) ?_
          refine AllReadyH.cons rfl (fun K hK => ?_) AllReadyH.nil
          rw [if_pos (by rfl)]
          refine wp_store_row 38 _ _ rfl g123 N0 rfl rfl 38 AZ0 r123 iN sN oN ?_
          have r121 : Row (Y125.setRow g123 N0) g121 ZQ0 47 := Row.setOther r121 (by omega) N0
          have r122 : Row (Y125.setRow g123 N0) g122 M0 38 := Row.setOther r122 (by omega) N0
          have r124 : Row (Y125.setRow g123 N0) g124 ZQ0 47 := Row.setOther r124 (by omega) N0
          have r123 : Row (Y125.setRow g123 N0) g123 N0 38 := setRow_heap Y125 g123 _ N0 38 _ r123
          have T126 : Turn no w0 (Y125.setRow g123 N0) := hHeld.setRow g123 N0 (fun q => by omega)
          refine hK.out _ _ T126 (fun hHeld => ?_)
          clear hK
          clear T126
          obtain ⟨Y126, hY126⟩ : ∃ X, Y125.setRow g123 N0 = X := ⟨_, rfl⟩
          rw [hY126] at r121 r122 r123 r124 hHeld ⊢
          clear hY126
          refine wpAnyH_ready (rs := [22]) (by kernel_rfl) (by simp) ?_
          refine AllReadyH.cons rfl (fun K hK => ?_) AllReadyH.nil
          rw [if_pos (by rfl)]
          refine wp_store_row 47 _ _ rfl g124 P0 rfl rfl 47 ZQ0 r124 iPf sPf oPf ?_
          have r121 : Row (Y126.setRow g124 P0) g121 ZQ0 47 := Row.setOther r121 (by omega) P0
          have r122 : Row (Y126.setRow g124 P0) g122 M0 38 := Row.setOther r122 (by omega) P0
          have r123 : Row (Y126.setRow g124 P0) g123 N0 38 := Row.setOther r123 (by omega) P0
          have r124 : Row (Y126.setRow g124 P0) g124 P0 47 := setRow_heap Y126 g124 _ P0 47 _ r124
          have T127 : Turn no w0 (Y126.setRow g124 P0) := hHeld.setRow g124 P0 (fun q => by omega)
          refine hK.out _ _ T127 (fun hHeld => ?_)
          clear hK
          clear T127
          obtain ⟨Y127, hY127⟩ : ∃ X, Y126.setRow g124 P0 = X := ⟨_, rfl⟩
          rw [hY127] at r121 r122 r123 r124 hHeld ⊢
          clear hY127
          refine wpAnyH_ready (rs := [23]) (by kernel_rfl) (by simp) ?_
          refine AllReadyH.cons rfl (fun K hK => ?_) AllReadyH.nil
          rw [if_pos (by rfl)]
          refine wp_store_row 47 _ _ rfl g121 S0 rfl rfl 47 ZQ0 r121 iS sS oS ?_
          have r122 : Row (Y127.setRow g121 S0) g122 M0 38 := Row.setOther r122 (by omega) S0
          have r123 : Row (Y127.setRow g121 S0) g123 N0 38 := Row.setOther r123 (by omega) S0
          have r124 : Row (Y127.setRow g121 S0) g124 P0 47 := Row.setOther r124 (by omega) S0
          have r121 : Row (Y127.setRow g121 S0) g121 S0 47 := setRow_heap Y127 g121 _ S0 47 _ r121
          have T128 : Turn no w0 (Y127.setRow g121 S0) := hHeld.setRow g121 S0 (fun q => by omega)
          refine hK.out _ _ T128 (fun hHeld => ?_)
          clear hK
          clear T128
          obtain ⟨Y128, hY128⟩ : ∃ X, Y127.setRow g121 S0 = X := ⟨_, rfl⟩
          rw [hY128] at r121 r122 r123 r124 hHeld ⊢
          clear hY128
          refine wpAnyH_done (by kernel_rfl) ?_ _
          go_simp
          go_wp2_with fail
          go_meet
          case rel => exact ⟨g122, g123, g124, g121, rfl, rfl, rfl, rfl, ⟨r122, r123, r124, r121, hHeld⟩⟩
        · skip
          go_simp
          have hs129 := hHeld.size
          have lt129s := Row.lt r121
          have lt129m := Row.lt r122
          refine hK.out _ _ (hHeld.alloc _) (fun hHeld => ?_)
          clear hK
          obtain ⟨X129, hX129⟩ : ∃ X, X122.alloc (.cells ZQ0 47) = X := ⟨_, rfl⟩
          have r129 : Row X129 X122.heap.size ZQ0 47 := by rw [← hX129]; exact Row.new X122 _ _
          have r121 : Row X129 g121 ZQ0 47 := by rw [← hX129]; exact Row.alloc r121 _
          have r122 : Row X129 g122 AZ0 38 := by rw [← hX129]; exact Row.alloc r122 _
          rw [hX129] at hHeld ⊢
          clear hX129
          generalize X122.heap.size = g129 at *
          refine wpAnyH_ready (rs := [17]) (by kernel_rfl) (by simp) ?_
          refine AllReadyH.cons rfl (fun K hK => ?_) AllReadyH.nil
          go_simp
          have hs130 := hHeld.size
          have lt130s := Row.lt r121
          have lt130m := Row.lt r122
          have lt130p := Row.lt r129
          refine hK.out _ _ (hHeld.alloc _) (fun hHeld => ?_)
          clear hK
          obtain ⟨X130, hX130⟩ : ∃ X, X129.alloc (.cells AZ0 38) = X := ⟨_, rfl⟩
          have r130 : Row X130 X129.heap.size AZ0 38 := by rw [← hX130]; exact Row.new X129 _ _
          have r121 : Row X130 g121 ZQ0 47 := by rw [← hX130]; exact Row.alloc r121 _
          have r122 : Row X130 g122 AZ0 38 := by rw [← hX130]; exact Row.alloc r122 _
          have r129 : Row X130 g129 ZQ0 47 := by rw [← hX130]; exact Row.alloc r129 _
          rw [hX130] at hHeld ⊢
          clear hX130
          generalize X129.heap.size = g130 at *
          refine wpAnyH_ready (rs := [20]) (by kernel_rfl) (by simp) ?_
          refine AllReadyH.cons rfl (fun K hK => ?_) AllReadyH.nil
          rw [if_pos (by rfl)]
          refine wp_store_row 38 _ _ rfl g122 M0 rfl rfl 38 AZ0 r122 iM sM oM ?_
          have r121 : Row (X130.setRow g122 M0) g121 ZQ0 47 := Row.setOther r121 (by omega) M0
          have r129 : Row (X130.setRow g122 M0) g129 ZQ0 47 := Row.setOther r129 (by omega) M0
          have r130 : Row (X130.setRow g122 M0) g130 AZ0 38 := Row.setOther r130 (by omega) M0
          have r122 : Row (X130.setRow g122 M0) g122 M0 38 := setRow_heap X130 g122 _ M0 38 _ r122
          have T131 : Turn no w0 (X130.setRow g122 M0) := hHeld.setRow g122 M0 (fun q => by omega)
          refine hK.out _ _ T131 (fun hHeld => ?_)
          clear hK
          clear T131
          obtain ⟨Y131, hY131⟩ : ∃ X, X130.setRow g122 M0 = X := ⟨_, rfl⟩
          rw [hY131] at r121 r122 r129 r130 hHeld ⊢
          clear hY131
          refine wpAnyH_ready (rs := [21]) (by kernel_rfl) (by simp) ?_
          refine AllReadyH.cons rfl (fun K hK => ?_) AllReadyH.nil
          rw [if_pos (by rfl)]
          refine wp_store_row 38 _ _ rfl g130 N0 rfl rfl 38 AZ0 r130 iN sN oN ?_
          have r121 : Row (Y131.setRow g130 N0) g121 ZQ0 47 := Row.setOther r121 (by omega) N0
          have r122 : Row (Y131.setRow g130 N0) g122 M0 38 := Row.setOther r122 (by omega) N0
          have r129 : Row (Y131.setRow g130 N0) g129 ZQ0 47 := Row.setOther r129 (by omega) N0
          have r130 : Row (Y131.setRow g130 N0) g130 N0 38 := setRow_heap Y131 g130 _ N0 38 _ r130
          have T132 : Turn no w0 (Y131.setRow g130 N0) := hHeld.setRow g130 N0 (fun q => by omega)
          refine hK.out _ _ T132 (fun hHeld => ?_)
          clear hK
          clear T132
          obtain ⟨Y132, hY132⟩ : ∃ X, Y131.setRow g130 N0 = X := ⟨_, rfl⟩
          rw [hY132] at r121 r122 r129 r130 hHeld ⊢
          clear hY132
          refine wpAnyH_ready (rs := [22]) (by kernel_rfl) (by simp) ?_
          refine AllReadyH.cons rfl (fun K hK => ?_) AllReadyH.nil
          rw [if_pos (by rfl)]
          refine wp_store_row 47 _ _ rfl g129 P0 rfl rfl 47 ZQ0 r129 iPf sPf oPf ?_
          have r121 : Row (Y132.setRow g129 P0) g121 ZQ0 47 := Row.setOther r121 (by omega) P0
          have r122 : Row (Y132.setRow g129 P0) g122 M0 38 := Row.setOther r122 (by omega) P0
          have r130 : Row (Y132.setRow g129 P0) g130 N0 38 := Row.setOther r130 (by omega) P0
          have r129 : Row (Y132.setRow g129 P0) g129 P0 47 := setRow_heap Y132 g129 _ P0 47 _ r129
          have T133 : Turn no w0 (Y132.setRow g129 P0) := hHeld.setRow g129 P0 (fun q => by omega)
          refine hK.out _ _ T133 (fun hHeld => ?_)
          clear hK
          clear T133
          obtain ⟨Y133, hY133⟩ : ∃ X, Y132.setRow g129 P0 = X := ⟨_, rfl⟩
          rw [hY133] at r121 r122 r129 r130 hHeld ⊢
          clear hY133
          refine wpAnyH_ready (rs := [23]) (by kernel_rfl) (by simp) ?_
          refine AllReadyH.cons rfl (fun K hK => ?_) AllReadyH.nil
          rw [if_pos (by rfl)]
          refine wp_store_row 47 _ _ rfl g121 S0 rfl rfl 47 ZQ0 r121 iS sS oS ?_
          have r122 : Row (Y133.setRow g121 S0) g122 M0 38 := Row.setOther r122 (by omega) S0
          have r129 : Row (Y133.setRow g121 S0) g129 P0 47 := Row.setOther r129 (by omega) S0
          have r130 : Row (Y133.setRow g121 S0) g130 N0 38 := Row.setOther r130 (by omega) S0
          have r121 : Row (Y133.setRow g121 S0) g121 S0 47 := setRow_heap Y133 g121 _ S0 47 _ r121
          have T134 : Turn no w0 (Y133.setRow g121 S0) := hHeld.setRow g121 S0 (fun q => by omega)
          refine hK.out _ _ T134 (fun hHeld => ?_)
          clear hK
          clear T134
          obtain ⟨Y134, hY134⟩ : ∃ X, Y133.setRow g121 S0 = X := ⟨_, rfl⟩
          rw [hY134] at r121 r122 r129 r130 hHeld ⊢
          clear hY134
          refine wpAnyH_done (by kernel_rfl) ?_ _
          go_simp
          go_wp2_with fail
          go_meet
          case rel => exact ⟨g122, g130, g129, g121, rfl, rfl, rfl, rfl, ⟨r122, r130, r129, r121, hHeld⟩⟩
      · skip
        go_simp
        have hs135 := hHeld.size
        have lt135s := Row.lt r121
        refine hK.out _ _ (hHeld.alloc _) (fun hHeld => ?_)
        clear hK
        obtain ⟨X135, hX135⟩ : ∃ X, X121.alloc (.cells AZ0 38) = X := ⟨_, rfl⟩
        have r135 : Row X135 X121.heap.size AZ0 38 := by rw [← hX135]; exact Row.new X121 _ _
        have r121 : Row X135 g121 ZQ0 47 := by rw [← hX135]; exact Row.alloc r121 _
        rw [hX135] at hHeld ⊢
        clear hX135
        generalize X121.heap.size = g135 at *
        refine wpAnyH_ready (rs := [16, 18]) (by kernel_rfl) (by simp) ?_
        refine AllReadyH.cons rfl (fun K hK => ?_) (AllReadyH.cons rfl (fun K hK => ?_) AllReadyH.nil)
        · skip
          go_simp
          have hs136 := hHeld.size
          have lt136s := Row.lt r121
          have lt136n := Row.lt r135
          refine hK.out _ _ (hHeld.alloc _) (fun hHeld => ?_)
          clear hK
          obtain ⟨X136, hX136⟩ : ∃ X, X135.alloc (.cells AZ0 38) = X := ⟨_, rfl⟩
          have r136 : Row X136 X135.heap.size AZ0 38 := by rw [← hX136]; exact Row.new X135 _ _
          have r121 : Row X136 g121 ZQ0 47 := by rw [← hX136]; exact Row.alloc r121 _
          have r135 : Row X136 g135 AZ0 38 := by rw [← hX136]; exact Row.alloc r135 _
          rw [hX136] at hHeld ⊢
          clear hX136
          generalize X135.heap.size = g136 at *
          refine wpAnyH_ready (rs := [18]) (by kernel_rfl) (by simp) ?_
          refine AllReadyH.cons rfl (fun K hK => ?_) AllReadyH.nil
          go_simp
          have hs137 := hHeld.size
          have lt137s := Row.lt r121
          have lt137n := Row.lt r135
          have lt137m := Row.lt r136
          refine hK.out _ _ (hHeld.alloc _) (fun hHeld => ?_)
          clear hK
          obtain ⟨X137, hX137⟩ : ∃ X, X136.alloc (.cells ZQ0 47) = X := ⟨_, rfl⟩
          have r137 : Row X137 X136.heap.size ZQ0 47 := by rw [← hX137]; exact Row.new X136 _ _
          have r121 : Row X137 g121 ZQ0 47 := by rw [← hX137]; exact Row.alloc r121 _
          have r135 : Row X137 g135 AZ0 38 := by rw [← hX137]; exact Row.alloc r135 _
          have r136 : Row X137 g136 AZ0 38 := by rw [← hX137]; exact Row.alloc r136 _
          rw [hX137] at hHeld ⊢
          clear hX137
          generalize X136.heap.size = g137 at *
          refine wpAnyH_ready (rs := [20]) (by kernel_rfl) (by simp) ?_
          refine AllReadyH.cons rfl (fun K hK => ?_) AllReadyH.nil
          rw [if_pos (by rfl)]
          refine wp_store_row 38 _ _ rfl g136 M0 rfl rfl 38 AZ0 r136 iM sM oM ?_
          have r121 : Row (X137.setRow g136 M0) g121 ZQ0 47 := Row.setOther r121 (by omega) M0
          have r135 : Row (X137.setRow g136 M0) g135 AZ0 38 := Row.setOther r135 (by omega) M0
          have r137 : Row (X137.setRow g136 M0) g137 ZQ0 47 := Row.setOther r137 (by omega) M0
          have r136 : Row (X137.setRow g136 M0) g136 M0 38 := setRow_heap X137 g136 _ M0 38 _ r136
          have T138 : Turn no w0 (X137.setRow g136 M0) := hHeld.setRow g136 M0 (fun q => by omega)
          refine hK.out _ _ T138 (fun hHeld => ?_)
          clear hK
          clear T138
          obtain ⟨Y138, hY138⟩ : ∃ X, X137.setRow g136 M0 = X := ⟨_, rfl⟩
          rw [hY138] at r121 r135 r136 r137 hHeld ⊢
          clear hY138
          refine wpAnyH_ready (rs := [21]) (by kernel_rfl) (by simp) ?_
          refine AllReadyH.cons rfl (fun K hK => ?_) AllReadyH.nil
          rw [if_pos (by rfl)]
          refine wp_store_row 38 _ _ rfl g135 N0 rfl rfl 38 AZ0 r135 iN sN oN ?_
          have r121 : Row (Y138.setRow g135 N0) g121 ZQ0 47 := Row.setOther r121 (by omega) N0
          have r136 : Row (Y138.setRow g135 N0) g136 M0 38 := Row.setOther r136 (by omega) N0
          have r137 : Row (Y138.setRow g135 N0) g137 ZQ0 47 := Row.setOther r137 (by omega) N0
          have r135 : Row (Y138.setRow g135 N0) g135 N0 38 := setRow_heap Y138 g135 _ N0 38 _ r135
          have T139 : Turn no w0 (Y138.setRow g135 N0) := hHeld.setRow g135 N0 (fun q => by omega)
          refine hK.out _ _ T139 (fun hHeld => ?_)
          clear hK
          clear T139
          obtain ⟨Y139, hY139⟩ : ∃ X, Y138.setRow g135 N0 = X := ⟨_, rfl⟩
          rw [hY139] at r121 r135 r136 r137 hHeld ⊢
          clear hY139
          refine wpAnyH_ready (rs := [22]) (by kernel_rfl) (by simp) ?_
          refine AllReadyH.cons rfl (fun K hK => ?_) AllReadyH.nil
          rw [if_pos (by rfl)]
          refine wp_store_row 47 _ _ rfl g137 P0 rfl rfl 47 ZQ0 r137 iPf sPf oPf ?_
          have r121 : Row (Y139.setRow g137 P0) g121 ZQ0 47 := Row.setOther r121 (by omega) P0
          have r135 : Row (Y139.setRow g137 P0) g135 N0 38 := Row.setOther r135 (by omega) P0
          have r136 : Row (Y139.setRow g137 P0) g136 M0 38 := Row.setOther r136 (by omega) P0
          have r137 : Row (Y139.setRow g137 P0) g137 P0 47 := setRow_heap Y139 g137 _ P0 47 _ r137
          have T140 : Turn no w0 (Y139.setRow g137 P0) := hHeld.setRow g137 P0 (fun q => by omega)
          refine hK.out _ _ T140 (fun hHeld => ?_)
          clear hK
          clear T140
          obtain ⟨Y140, hY140⟩ : ∃ X, Y139.setRow g137 P0 = X := ⟨_, rfl⟩
          rw [hY140] at r121 r135 r136 r137 hHeld ⊢
          clear hY140
          refine wpAnyH_ready (rs := [23]) (by kernel_rfl) (by simp) ?_
          refine AllReadyH.cons rfl (fun K hK => ?_) AllReadyH.nil
          rw [if_pos (by rfl)]
          refine wp_store_row 47 _ _ rfl g121 S0 rfl rfl 47 ZQ0 r121 iS sS oS ?_
          have r135 : Row (Y140.setRow g121 S0) g135 N0 38 := Row.setOther r135 (by omega) S0
          have r136 : Row (Y140.setRow g121 S0) g136 M0 38 := Row.setOther r136 (by omega) S0
          have r137 : Row (Y140.setRow g121 S0) g137 P0 47 := Row.setOther r137 (by omega) S0
          have r121 : Row (Y140.setRow g121 S0) g121 S0 47 := setRow_heap Y140 g121 _ S0 47 _ r121
          have T141 : Turn no w0 (Y140.setRow g121 S0) := hHeld.setRow g121 S0 (fun q => by omega)
          refine hK.out _ _ T141 (fun hHeld => ?_)
          clear hK
          clear T141
          obtain ⟨Y141, hY141⟩ : ∃ X, Y140.setRow g121 S0 = X := ⟨_, rfl⟩
          rw [hY141] at r121 r135 r136 r137 hHeld ⊢
          clear hY141
          refine wpAnyH_done (by kernel_rfl) ?_ _
          go_simp
          go_wp2_with fail
          go_meet
          case rel => exact ⟨g136, g135, g137, g121, rfl, rfl, rfl, rfl, ⟨r136, r135, r137, r121, hHeld⟩⟩
        · skip
          go_simp
          have hs142 := hHeld.size
          have lt142s := Row.lt r121
          have lt142n := Row.lt r135
          refine hK.out _ _ (hHeld.alloc _) (fun hHeld => ?_)
          clear hK
          obtain ⟨X142, hX142⟩ : ∃ X, X135.alloc (.cells ZQ0 47) = X := ⟨_, rfl⟩
          have r142 : Row X142 X135.heap.size ZQ0 47 := by rw [← hX142]; exact Row.new X135 _ _
          have r121 : Row X142 g121 ZQ0 47 := by rw [← hX142]; exact Row.alloc r121 _
          have r135 : Row X142 g135 AZ0 38 := by rw [← hX142]; exact Row.alloc r135 _
          rw [hX142] at hHeld ⊢
          clear hX142
          generalize X135.heap.size = g142 at *
          refine wpAnyH_ready (rs := [16]) (by kernel_rfl) (by simp) ?_
          refine AllReadyH.cons rfl (fun K hK => ?_) AllReadyH.nil
          go_simp
          have hs143 := hHeld.size
          have lt143s := Row.lt r121
          have lt143n := Row.lt r135
          have lt143p := Row.lt r142
          refine hK.out _ _ (hHeld.alloc _) (fun hHeld => ?_)
          clear hK
          obtain ⟨X143, hX143⟩ : ∃ X, X142.alloc (.cells AZ0 38) = X := ⟨_, rfl⟩
          have r143 : Row X143 X142.heap.size AZ0 38 := by rw [← hX143]; exact Row.new X142 _ _
          have r121 : Row X143 g121 ZQ0 47 := by rw [← hX143]; exact Row.alloc r121 _
          have r135 : Row X143 g135 AZ0 38 := by rw [← hX143]; exact Row.alloc r135 _
          have r142 : Row X143 g142 ZQ0 47 := by rw [← hX143]; exact Row.alloc r142 _
          rw [hX143] at hHeld ⊢
          clear hX143
          generalize X142.heap.size = g143 at *
          refine wpAnyH_ready (rs := [20]) (by kernel_rfl) (by simp) ?_
          refine AllReadyH.cons rfl (fun K hK => ?_) AllReadyH.nil
          rw [if_pos (by rfl)]
          refine wp_store_row 38 _ _ rfl g143 M0 rfl rfl 38 AZ0 r143 iM sM oM ?_
          have r121 : Row (X143.setRow g143 M0) g121 ZQ0 47 := Row.setOther r121 (by omega) M0
          have r135 : Row (X143.setRow g143 M0) g135 AZ0 38 := Row.setOther r135 (by omega) M0
          have r142 : Row (X143.setRow g143 M0) g142 ZQ0 47 := Row.setOther r142 (by omega) M0
          have r143 : Row (X143.setRow g143 M0) g143 M0 38 := setRow_heap X143 g143 _ M0 38 _ r143
          have T144 : Turn no w0 (X143.setRow g143 M0) := hHeld.setRow g143 M0 (fun q => by omega)
          refine hK.out _ _ T144 (fun hHeld => ?_)
          clear hK
          clear T144
          obtain ⟨Y144, hY144⟩ : ∃ X, X143.setRow g143 M0 = X := ⟨_, rfl⟩
          rw [hY144] at r121 r135 r142 r143 hHeld ⊢
          clear hY144
          refine wpAnyH_ready (rs := [21]) (by kernel_rfl) (by simp) ?_
          refine AllReadyH.cons rfl (fun K hK => ?_) AllReadyH.nil
          rw [if_pos (by rfl)]
          refine wp_store_row 38 _ _ rfl g135 N0 rfl rfl 38 AZ0 r135 iN sN oN ?_
          have r121 : Row (Y144.setRow g135 N0) g121 ZQ0 47 := Row.setOther r121 (by omega) N0
          have r142 : Row (Y144.setRow g135 N0) g142 ZQ0 47 := Row.setOther r142 (by omega) N0
          have r143 : Row (Y144.setRow g135 N0) g143 M0 38 := Row.setOther r143 (by omega) N0
          have r135 : Row (Y144.setRow g135 N0) g135 N0 38 := setRow_heap Y144 g135 _ N0 38 _ r135
          have T145 : Turn no w0 (Y144.setRow g135 N0) := hHeld.setRow g135 N0 (fun q => by omega)
          refine hK.out _ _ T145 (fun hHeld => ?_)
          clear hK
          clear T145
          obtain ⟨Y145, hY145⟩ : ∃ X, Y144.setRow g135 N0 = X := ⟨_, rfl⟩
          rw [hY145] at r121 r135 r142 r143 hHeld ⊢
          clear hY145
          refine wpAnyH_ready (rs := [22]) (by kernel_rfl) (by simp) ?_
          refine AllReadyH.cons rfl (fun K hK => ?_) AllReadyH.nil
          rw [if_pos (by rfl)]
          refine wp_store_row 47 _ _ rfl g142 P0 rfl rfl 47 ZQ0 r142 iPf sPf oPf ?_
          have r121 : Row (Y145.setRow g142 P0) g121 ZQ0 47 := Row.setOther r121 (by omega) P0
          have r135 : Row (Y145.setRow g142 P0) g135 N0 38 := Row.setOther r135 (by omega) P0
          have r143 : Row (Y145.setRow g142 P0) g143 M0 38 := Row.setOther r143 (by omega) P0
          have r142 : Row (Y145.setRow g142 P0) g142 P0 47 := setRow_heap Y145 g142 _ P0 47 _ r142
          have T146 : Turn no w0 (Y145.setRow g142 P0) := hHeld.setRow g142 P0 (fun q => by omega)
          refine hK.out _ _ T146 (fun hHeld => ?_)
          clear hK
          clear T146
          obtain ⟨Y146, hY146⟩ : ∃ X, Y145.setRow g142 P0 = X := ⟨_, rfl⟩
          rw [hY146] at r121 r135 r142 r143 hHeld ⊢
          clear hY146
          refine wpAnyH_ready (rs := [23]) (by kernel_rfl) (by simp) ?_
          refine AllReadyH.cons rfl (fun K hK => ?_) AllReadyH.nil
          rw [if_pos (by rfl)]
          refine wp_store_row 47 _ _ rfl g121 S0 rfl rfl 47 ZQ0 r121 iS sS oS ?_
          have r135 : Row (Y146.setRow g121 S0) g135 N0 38 := Row.setOther r135 (by omega) S0
          have r142 : Row (Y146.setRow g121 S0) g142 P0 47 := Row.setOther r142 (by omega) S0
          have r143 : Row (Y146.setRow g121 S0) g143 M0 38 := Row.setOther r143 (by omega) S0
          have r121 : Row (Y146.setRow g121 S0) g121 S0 47 := setRow_heap Y146 g121 _ S0 47 _ r121
          have T147 : Turn no w0 (Y146.setRow g121 S0) := hHeld.setRow g121 S0 (fun q => by omega)
          refine hK.out _ _ T147 (fun hHeld => ?_)
          clear hK
          clear T147
          obtain ⟨Y147, hY147⟩ : ∃ X, Y146.setRow g121 S0 = X := ⟨_, rfl⟩
          rw [hY147] at r121 r135 r142 r143 hHeld ⊢
          clear hY147
          refine wpAnyH_done (by kernel_rfl) ?_ _
          go_simp
          go_wp2_with fail
          go_meet
          case rel => exact ⟨g143, g135, g142, g121, rfl, rfl, rfl, rfl, ⟨r143, r135, r142, r121, hHeld⟩⟩
      · skip
        go_simp
        have hs148 := hHeld.size
        have lt148s := Row.lt r121
        refine hK.out _ _ (hHeld.alloc _) (fun hHeld => ?_)
        clear hK
        obtain ⟨X148, hX148⟩ : ∃ X, X121.alloc (.cells ZQ0 47) = X := ⟨_, rfl⟩
        have r148 : Row X148 X121.heap.size ZQ0 47 := by rw [← hX148]; exact Row.new X121 _ _
        have r121 : Row X148 g121 ZQ0 47 := by rw [← hX148]; exact Row.alloc r121 _
        rw [hX148] at hHeld ⊢
        clear hX148
        generalize X121.heap.size = g148 at *
        refine wpAnyH_ready (rs := [16, 17]) (by kernel_rfl) (by simp) ?_
        refine AllReadyH.cons rfl (fun K hK => ?_) (AllReadyH.cons rfl (fun K hK => ?_) AllReadyH.nil)
        · skip
          go_simp
          have hs149 := hHeld.size
          have lt149s := Row.lt r121
          have lt149p := Row.lt r148
          refine hK.out _ _ (hHeld.alloc _) (fun hHeld => ?_)
          clear hK
          obtain ⟨X149, hX149⟩ : ∃ X, X148.alloc (.cells AZ0 38) = X := ⟨_, rfl⟩
          have r149 : Row X149 X148.heap.size AZ0 38 := by rw [← hX149]; exact Row.new X148 _ _
          have r121 : Row X149 g121 ZQ0 47 := by rw [← hX149]; exact Row.alloc r121 _
          have r148 : Row X149 g148 ZQ0 47 := by rw [← hX149]; exact Row.alloc r148 _
          rw [hX149] at hHeld ⊢
          clear hX149
          generalize X148.heap.size = g149 at *
          refine wpAnyH_ready (rs := [17]) (by kernel_rfl) (by simp) ?_
          refine AllReadyH.cons rfl (fun K hK => ?_) AllReadyH.nil
          go_simp
          have hs150 := hHeld.size
          have lt150s := Row.lt r121
          have lt150p := Row.lt r148
          have lt150m := Row.lt r149
          refine hK.out _ _ (hHeld.alloc _) (fun hHeld => ?_)
          clear hK
          obtain ⟨X150, hX150⟩ : ∃ X, X149.alloc (.cells AZ0 38) = X := ⟨_, rfl⟩
          have r150 : Row X150 X149.heap.size AZ0 38 := by rw [← hX150]; exact Row.new X149 _ _
          have r121 : Row X150 g121 ZQ0 47 := by rw [← hX150]; exact Row.alloc r121 _
          have r148 : Row X150 g148 ZQ0 47 := by rw [← hX150]; exact Row.alloc r148 _
          have r149 : Row X150 g149 AZ0 38 := by rw [← hX150]; exact Row.alloc r149 _
          rw [hX150] at hHeld ⊢
          clear hX150
          generalize X149.heap.size = g150 at *
          refine wpAnyH_ready (rs := [20]) (by kernel_rfl) (by simp) ?_
          refine AllReadyH.cons rfl (fun K hK => ?_) AllReadyH.nil
          rw [if_pos (by rfl)]
          refine wp_store_row 38 _ _ rfl g149 M0 rfl rfl 38 AZ0 r149 iM sM oM ?_
          have r121 : Row (X150.setRow g149 M0) g121 ZQ0 47 := Row.setOther r121 (by omega) M0
          have r148 : Row (X150.setRow g149 M0) g148 ZQ0 47 := Row.setOther r148 (by omega) M0
          have r150 : Row (X150.setRow g149 M0) g150 AZ0 38 := Row.setOther r150 (by omega) M0
          have r149 : Row (X150.setRow g149 M0) g149 M0 38 := setRow_heap X150 g149 _ M0 38 _ r149
          have T151 : Turn no w0 (X150.setRow g149 M0) := hHeld.setRow g149 M0 (fun q => by omega)
          refine hK.out _ _ T151 (fun hHeld => ?_)
          clear hK
          clear T151
          obtain ⟨Y151, hY151⟩ : ∃ X, X150.setRow g149 M0 = X := ⟨_, rfl⟩
          rw [hY151] at r121 r148 r149 r150 hHeld ⊢
          clear hY151
          refine wpAnyH_ready (rs := [21]) (by kernel_rfl) (by simp) ?_
          refine AllReadyH.cons rfl (fun K hK => ?_) AllReadyH.nil
          rw [if_pos (by rfl)]
          refine wp_store_row 38 _ _ rfl g150 N0 rfl rfl 38 AZ0 r150 iN sN oN ?_
          have r121 : Row (Y151.setRow g150 N0) g121 ZQ0 47 := Row.setOther r121 (by omega) N0
          have r148 : Row (Y151.setRow g150 N0) g148 ZQ0 47 := Row.setOther r148 (by omega) N0
          have r149 : Row (Y151.setRow g150 N0) g149 M0 38 := Row.setOther r149 (by omega) N0
          have r150 : Row (Y151.setRow g150 N0) g150 N0 38 := setRow_heap Y151 g150 _ N0 38 _ r150
          have T152 : Turn no w0 (Y151.setRow g150 N0) := hHeld.setRow g150 N0 (fun q => by omega)
          refine hK.out _ _ T152 (fun hHeld => ?_)
          clear hK
          clear T152
          obtain ⟨Y152, hY152⟩ : ∃ X, Y151.setRow g150 N0 = X := ⟨_, rfl⟩
          rw [hY152] at r121 r148 r149 r150 hHeld ⊢
          clear hY152
          refine wpAnyH_ready (rs := [22]) (by kernel_rfl) (by simp) ?_
          refine AllReadyH.cons rfl (fun K hK => ?_) AllReadyH.nil
          rw [if_pos (by rfl)]
          refine wp_store_row 47 _ _ rfl g148 P0 rfl rfl 47 ZQ0 r148 iPf sPf oPf ?_
          have r121 : Row (Y152.setRow g148 P0) g121 ZQ0 47 := Row.setOther r121 (by omega) P0
          have r149 : Row (Y152.setRow g148 P0) g149 M0 38 := Row.setOther r149 (by omega) P0
          have r150 : Row (Y152.setRow g148 P0) g150 N0 38 := Row.setOther r150 (by omega) P0
          have r148 : Row (Y152.setRow g148 P0) g148 P0 47 := setRow_heap Y152 g148 _ P0 47 _ r148
          have T153 : Turn no w0 (Y152.setRow g148 P0) := hHeld.setRow g148 P0 (fun q => by omega)
          refine hK.out _ _ T153 (fun hHeld => ?_)
          clear hK
          clear T153
          obtain ⟨Y153, hY153⟩ : ∃ X, Y152.setRow g148 P0 = X := ⟨_, rfl⟩
          rw [hY153] at r121 r148 r149 r150 hHeld ⊢
          clear hY153
          refine wpAnyH_ready (rs := [23]) (by kernel_rfl) (by simp) ?_
          refine AllReadyH.cons rfl (fun K hK => ?_) AllReadyH.nil
          rw [if_pos (by rfl)]
          refine wp_store_row 47 _ _ rfl g121 S0 rfl rfl 47 ZQ0 r121 iS sS oS ?_
          have r148 : Row (Y153.setRow g121 S0) g148 P0 47 := Row.setOther r148 (by omega) S0
          have r149 : Row (Y153.setRow g121 S0) g149 M0 38 := Row.setOther r149 (by omega) S0
          have r150 : Row (Y153.setRow g121 S0) g150 N0 38 := Row.setOther r150 (by omega) S0
          have r121 : Row (Y153.setRow g121 S0) g121 S0 47 := setRow_heap Y153 g121 _ S0 47 _ r121
          have T154 : Turn no w0 (Y153.setRow g121 S0) := hHeld.setRow g121 S0 (fun q => by omega)
          refine hK.out _ _ T154 (fun hHeld => ?_)
          clear hK
          clear T154
          obtain ⟨Y154, hY154⟩ : ∃ X, Y153.setRow g121 S0 = X := ⟨_, rfl⟩
          rw [hY154] at r121 r148 r149 r150 hHeld ⊢
          clear hY154
          refine wpAnyH_done (by kernel_rfl) ?_ _
          go_simp
          go_wp2_with fail
          go_meet
          case rel => exact ⟨g149, g150, g148, g121, rfl, rfl, rfl, rfl, ⟨r149, r150, r148, r121, hHeld⟩⟩
        · skip
          go_simp
          have hs155 := hHeld.size
          have lt155s := Row.lt r121
          have lt155p := Row.lt r148
          refine hK.out _ _ (hHeld.alloc _) (fun hHeld => ?_)
          clear hK
          obtain ⟨X155, hX155⟩ : ∃ X, X148.alloc (.cells AZ0 38) = X := ⟨_, rfl⟩
          have r155 : Row X155 X148.heap.size AZ0 38 := by rw [← hX155]; exact Row.new X148 _ _
          have r121 : Row X155 g121 ZQ0 47 := by rw [← hX155]; exact Row.alloc r121 _
          have r148 : Row X155 g148 ZQ0 47 := by rw [← hX155]; exact Row.alloc r148 _
          rw [hX155] at hHeld ⊢
          clear hX155
          generalize X148.heap.size = g155 at *
          refine wpAnyH_ready (rs := [16]) (by kernel_rfl) (by simp) ?_
          refine AllReadyH.cons rfl (fun K hK => ?_) AllReadyH.nil
          go_simp
          have hs156 := hHeld.size
          have lt156s := Row.lt r121
          have lt156p := Row.lt r148
          have lt156n := Row.lt r155
          refine hK.out _ _ (hHeld.alloc _) (fun hHeld => ?_)
          clear hK
          obtain ⟨X156, hX156⟩ : ∃ X, X155.alloc (.cells AZ0 38) = X := ⟨_, rfl⟩
          have r156 : Row X156 X155.heap.size AZ0 38 := by rw [← hX156]; exact Row.new X155 _ _
          have r121 : Row X156 g121 ZQ0 47 := by rw [← hX156]; exact Row.alloc r121 _
          have r148 : Row X156 g148 ZQ0 47 := by rw [← hX156]; exact Row.alloc r148 _
          have r155 : Row X156 g155 AZ0 38 := by rw [← hX156]; exact Row.alloc r155 _
          rw [hX156] at hHeld ⊢
          clear hX156
          generalize X155.heap.size = g156 at *
          refine wpAnyH_ready (rs := [20]) (by kernel_rfl) (by simp) ?_
          refine AllReadyH.cons rfl (fun K hK => ?_) AllReadyH.nil
          rw [if_pos (by rfl)]
          refine wp_store_row 38 _ _ rfl g156 M0 rfl rfl 38 AZ0 r156 iM sM oM ?_
          have r121 : Row (X156.setRow g156 M0) g121 ZQ0 47 := Row.setOther r121 (by omega) M0
          have r148 : Row (X156.setRow g156 M0) g148 ZQ0 47 := Row.setOther r148 (by omega) M0
          have r155 : Row (X156.setRow g156 M0) g155 AZ0 38 := Row.setOther r155 (by omega) M0
          have r156 : Row (X156.setRow g156 M0) g156 M0 38 := setRow_heap X156 g156 _ M0 38 _ r156
          have T157 : Turn no w0 (X156.setRow g156 M0) := hHeld.setRow g156 M0 (fun q => by omega)
          refine hK.out _ _ T157 (fun hHeld => ?_)
          clear hK
          clear T157
          obtain ⟨Y157, hY157⟩ : ∃ X, X156.setRow g156 M0 = X := ⟨_, rfl⟩
          rw [hY157] at r121 r148 r155 r156 hHeld ⊢
          clear hY157
          refine wpAnyH_ready (rs := [21]) (by kernel_rfl) (by simp) ?_
          refine AllReadyH.cons rfl (fun K hK => ?_) AllReadyH.nil
          rw [if_pos (by rfl)]
          refine wp_store_row 38 _ _ rfl g155 N0 rfl rfl 38 AZ0 r155 iN sN oN ?_
          have r121 : Row (Y157.setRow g155 N0) g121 ZQ0 47 := Row.setOther r121 (by omega) N0
          have r148 : Row (Y157.setRow g155 N0) g148 ZQ0 47 := Row.setOther r148 (by omega) N0
          have r156 : Row (Y157.setRow g155 N0) g156 M0 38 := Row.setOther r156 (by omega) N0
          have r155 : Row (Y157.setRow g155 N0) g155 N0 38 := setRow_heap Y157 g155 _ N0 38 _ r155
          have T158 : Turn no w0 (Y157.setRow g155 N0) := hHeld.setRow g155 N0 (fun q => by omega)
          refine hK.out _ _ T158 (fun hHeld => ?_)
          clear hK
          clear T158
          obtain ⟨Y158, hY158⟩ : ∃ X, Y157.setRow g155 N0 = X := ⟨_, rfl⟩
          rw [hY158] at r121 r148 r155 r156 hHeld ⊢
          clear hY158
          refine wpAnyH_ready (rs := [22]) (by kernel_rfl) (by simp) ?_
          refine AllReadyH.cons rfl (fun K hK => ?_) AllReadyH.nil
          rw [if_pos (by rfl)]
          refine wp_store_row 47 _ _ rfl g148 P0 rfl rfl 47 ZQ0 r148 iPf sPf oPf ?_
          have r121 : Row (Y158.setRow g148 P0) g121 ZQ0 47 := Row.setOther r121 (by omega) P0
          have r155 : Row (Y158.setRow g148 P0) g155 N0 38 := Row.setOther r155 (by omega) P0
          have r156 : Row (Y158.setRow g148 P0) g156 M0 38 := Row.setOther r156 (by omega) P0
          have r148 : Row (Y158.setRow g148 P0) g148 P0 47 := setRow_heap Y158 g148 _ P0 47 _ r148
          have T159 : Turn no w0 (Y158.setRow g148 P0) := hHeld.setRow g148 P0 (fun q => by omega)
          refine hK.out _ _ T159 (fun hHeld => ?_)
          clear hK
          clear T159
          obtain ⟨Y159, hY159⟩ : ∃ X, Y158.setRow g148 P0 = X := ⟨_, rfl⟩
          rw [hY159] at r121 r148 r155 r156 hHeld ⊢
          clear hY159
          refine wpAnyH_ready (rs := [23]) (by kernel_rfl) (by simp) ?_
          refine AllReadyH.cons rfl (fun K hK => ?_) AllReadyH.nil
          rw [if_pos (by rfl)]
          refine wp_store_row 47 _ _ rfl g121 S0 rfl rfl 47 ZQ0 r121 iS sS oS ?_
          have r148 : Row (Y159.setRow g121 S0) g148 P0 47 := Row.setOther r148 (by omega) S0
          have r155 : Row (Y159.setRow g121 S0) g155 N0 38 := Row.setOther r155 (by omega) S0
          have r156 : Row (Y159.setRow g121 S0) g156 M0 38 := Row.setOther r156 (by omega) S0
          have r121 : Row (Y159.setRow g121 S0) g121 S0 47 := setRow_heap Y159 g121 _ S0 47 _ r121
          have T160 : Turn no w0 (Y159.setRow g121 S0) := hHeld.setRow g121 S0 (fun q => by omega)
          refine hK.out _ _ T160 (fun hHeld => ?_)
          clear hK
          clear T160
          obtain ⟨Y160, hY160⟩ : ∃ X, Y159.setRow g121 S0 = X := ⟨_, rfl⟩
          rw [hY160] at r121 r148 r155 r156 hHeld ⊢
          clear hY160
          refine wpAnyH_done (by kernel_rfl) ?_ _
          go_simp
          go_wp2_with fail
          go_meet
          case rel => exact ⟨g156, g155, g148, g121, rfl, rfl, rfl, rfl, ⟨r156, r155, r148, r121, hHeld⟩⟩
  case rest =>
    obtain ⟨gm, gn, gp, gs, rfl, rfl, rfl, rfl, HK⟩ := hcut
    have c0 := HK.out.1.cell 0 _ HM0.out.1
    have c1 := HK.out.2.1.cell 0 _ HM0.out.2
    have d0 := HK.out.2.2.1.cell 0 _ HP0.out.1.1
    have d1 := HK.out.2.2.1.cell 1 _ HP0.out.1.2
    have f0 := HK.out.2.2.2.1.cell 0 _ HP0.out.2.1
    have f1 := HK.out.2.2.2.1.cell 1 _ HP0.out.2.2
    clear iM sM iN sN iPf oPf sPf iS oS sS hz57 hz32
    go_upto_region 2 with fail
    go_cut [53] from 29 to 52 (fun z wx => z = .bool BB ∧ wx = wc)
    case first =>
      by_cases h1 : a ≤ md
      · have h1' : (a : Int) ≤ (md : Int) := by omega
        have g1 : decide (a ≤ md) = true := by simpa using h1
        rw [g1] at HB
        go_wp2_with fail
        go_meet
        case rel => exact ⟨by rw [HB.out]; rfl, rfl⟩
      · have h1' : ¬ (a : Int) ≤ (md : Int) := by omega
        have g1 : decide (a ≤ md) = false := by simpa using h1
        rw [g1] at HB
        by_cases h3 : nd ≤ a
        · have h3' : (nd : Int) ≤ (a : Int) := by omega
          have g3 : decide (nd ≤ a) = true := by simpa using h3
          rw [g3] at HB
          go_wp2_with fail
          go_meet
          case rel => exact ⟨by rw [HB.out]; rfl, rfl⟩
        · have h3' : ¬ (nd : Int) ≤ (a : Int) := by omega
          have g3 : decide (nd ≤ a) = false := by simpa using h3
          rw [g3] at HB
          cases ht : (st != qt) with
          | true =>
            rw [ht] at HB
            go_wp2_with fail
            go_meet
            case rel => exact ⟨by rw [HB.out]; rfl, rfl⟩
          | false =>
            rw [ht] at HB
            cases hw : (si != IntKind.i64.wrap (qi + 1)) with
            | true =>
              rw [hw] at HB
              go_wp2_with fail
              go_meet
              case rel => exact ⟨by rw [HB.out]; rw [show IntKind.i64.wrap (qi + 1) = wrap64 (qi + 1) by (unfold wrap64; exact IntKind.wrap_i64 _)] at hw; rw [hw]; rfl, rfl⟩
            | false =>
              rw [hw] at HB
              go_wp2_with fail
              go_meet
              case rel => exact ⟨by rw [HB.out]; rw [show IntKind.i64.wrap (qi + 1) = wrap64 (qi + 1) by (unfold wrap64; exact IntKind.wrap_i64 _)] at hw; rw [hw]; rfl, rfl⟩
    case rest =>
      obtain ⟨rfl, rfl⟩ := hcut
      obtain ⟨RX, RW⟩ := HRW.out
      have RXc := RX.turn HK.out.2.2.2.2 (fun q => q)
      have RWc := RW.turn HK.out.2.2.2.2 (fun q => q)
      have HTc := shut (HT0.out.then_no HK.out.2.2.2.2)
      clear d0 d1 f0 f1 c0 c1 RX RW HB
      cases BB with
      | true =>
        go_wp2_with fail
        go_ret
        exact ⟨by rw [HE.out]; rfl, HTc.out⟩
      | false =>
        have K29 := HTOP.out _ HTc.out
        go_upto_region 5 with (first | (guard_target =~ wpList _ _ _ ({ dst := some 55, .. } :: _) _ _; refine wpList_load_row rfl 29 (.tmp 3) rfl w.heap.size rfl 29 XA _ _ RXc Tryz.underlying29 rfl iX ?_) | (guard_target =~ wpList _ _ _ ({ dst := some 56, .. } :: _) _ _; refine wpList_load_row rfl 32 (.tmp 5) rfl (w.heap.size + 1) rfl 32 WA _ _ RWc Tryz.underlying32 rfl iW ?_) | (go_at_call 64; refine K29.mono ?_; clear K29; rintro e w5 ⟨rfl, t5⟩) | (guard_target =~ wpList _ _ _ ({ dst := _, op := Op.store 29 _ _, .. } :: _) _ _; refine wpList_store_anyN rfl rfl 29 (.tmp 11) (.tmp 58) rfl w5.heap.size TH rfl rfl 29 Z (Row.new w5 Z 29) iT sZT oT ?_; intro w6 R6 t6))
        have T6 : Turn no wc w6 := t5.trans (((Turn.refl (fun z => z = w5.heap.size) w5).alloc _).trans t6 (fun _ _ q => q)) (fun i hi q => by have q2 : i = w5.heap.size := q; have := t5.size; omega)
        have RN6 := Row.turn HK.out.2.1 T6 (fun q => q)
        have RS6 := Row.turn HK.out.2.2.2.1 T6 (fun q => q)
        have HT6 := shut (HTc.out.then_no T6)
        generalize w5.heap.size = gt at *
        clear RXc RWc T6 t5 t6 hzv
        by_cases hT : TE = 0
        · have hT' : (TE != 0) = false := by simpa using hT
          have rT : w6.rangeAt gt 0 THl := by
            have := Row.rng R6
            rw [HTR.out.1] at this
            simpa using this
          have rS : w6.rangeAt gs 0 SL := by
            have := Row.rng RS6
            rw [← HSL.out] at this
            simpa using this
          have rN : w6.rangeAt gn 0 NL := by
            have := Row.rng RN6
            rw [← HNL.out] at this
            simpa using this
          have HR7 : Shut (∀ W, Turn no w6 W → W.rangeAt gt 0 THl ∧ W.rangeAt gs 0 SL ∧ W.rangeAt gn 0 NL) := fun W t => ⟨fun j u hu => t.keep (rT j u hu) (fun q => q), fun j u hu => t.keep (rS j u hu) (fun q => q), fun j u hu => t.keep (rN j u hu) (fun q => q)⟩
          have iTl := HTR.out.2
          clear rT rS rN R6
          go_upto_region 7 with fail
          refine wp_region_held_drew (S := fun W => Turn no w6 W) (by kernel_rfl) (Turn.refl no w6).drew (fun hHeld => ?_)
          refine' wpAnyH_take (i := 0) (v := .agg TH) rfl (by kernel_rfl) (by kernel_rfl) (by kernel_rfl) (fun _ _ _ h => h) (by rw [HTR.out.1]; exact yieldsIf_load_mid (by kernel_rfl) 29 (.tmp 11) rfl gt (0) (by kernel_rfl) THl _ (fun W h => (HR7.out W h).1) Tryz.underlying29 rfl iTl) hHeld ?q0
          refine' wpAnyH_take (i := 1) (v := .agg S0) rfl (by kernel_rfl) (by kernel_rfl) (by kernel_rfl) (fun _ _ _ h => h) (by rw [← HSL.out]; exact yieldsIf_load_mid (by kernel_rfl) 47 (.tmp 10) rfl gs (0) (by kernel_rfl) SL _ (fun W h => (HR7.out W h).2.1) Tryz.underlying47 rfl zS) hHeld ?q1
          refine' wpAnyH_take (i := 2) (v := .agg N0) rfl (by kernel_rfl) (by kernel_rfl) (by kernel_rfl) (fun _ _ _ h => h) (by rw [← HNL.out]; exact yieldsIf_load_mid (by kernel_rfl) 38 (.tmp 8) rfl gn (0) (by kernel_rfl) NL _ (fun W h => (HR7.out W h).2.2) Tryz.underlying38 rfl zN) hHeld ?q2
          refine wpAnyH_ready (rs := [3]) (by kernel_rfl) (by simp) ?_
          refine AllReadyH.cons rfl (fun K hK => ?_) AllReadyH.nil
          go_simp
          refine (F31.out _).mono ?_
          rintro e wd ⟨v8, rfl, F8⟩
          have O8 := F8.own.bs
          obtain ⟨a8, l8, c8, rfl⟩ := F8.form
          refine hK.out _ _ (hHeld.then_no F8.turn) (fun hHeld => ?_)
          clear hK
          refine wpAnyH_ready (rs := [4]) (by kernel_rfl) (by simp) ?_
          refine AllReadyH.cons rfl (fun K hK => ?_) AllReadyH.nil
          go_simp
          refine (HV.out _ _ (HT6.out.then_no hHeld) O8).mono ?_
          rintro e we ⟨rfl, te⟩
          refine hK.out _ _ (hHeld.then_no te) (fun hHeld => ?_)
          clear hK
          refine' wpAnyH_take (i := 5) (v := .int .i64 VE) rfl (by kernel_rfl) (by kernel_rfl) (by kernel_rfl) (fun _ _ _ h => h) (Or.inl ⟨by kernel_rfl, fun W hW => ?y13⟩) hHeld ?r13
          · go_simp
          refine wpAnyH_done (by kernel_rfl) ?_ _
          go_simp
          have HD := shut hHeld
          clear hHeld HR7
          go_wp2_with fail
          go_ret
          exact ⟨by rw [HE.out, if_neg (by decide), if_pos hT]; rfl, HT6.out.then_no HD.out⟩
        · have hT' : (TE != 0) = true := by simpa using hT
          go_wp2_with fail
          go_ret
          exact ⟨by rw [HE.out, if_neg (by decide), if_neg hT]; rfl, HT6.out⟩
end Go.Proofs.YtlacfenenbblaaaGreatDoor


