/- DigestPaths: the walk. -/
import Derived.Test.YtnibmkenbidnfaaDoorJ6
import Derived.Test.YtnibmkenbidnfaaDoorE7
namespace Go.Proofs.YtnibmkenbidnfaaDoor
open Go.RowKit
set_option linter.unusedVariables false

theorem info35 : (Tryd.prog.info? 35).map (fun i => (i.zero, i.size, i.bytes)) = some (some (.agg (hb32 z32)), 32, 32) := by kernel_rfl
def h7 : List UInt8 := 7 :: List.replicate 31 0
theorem h7_len : h7.length = 32 := rfl
theorem bld7 (w : World) : (Instr.build 35 #[(0, .int .u8 7)]).run Tryd.prog w = .ok (.agg (hb32 h7)) w := by kernel_rfl
theorem bsl7 (w : World) : (Instr.buildSlice 50 1 #[(0, .agg (hb32 h7))]).run Tryd.prog w = .ok (.slice (some ⟨w.heap.size, 0, none⟩) 1 1) (w.alloc (.cells (hb32 h7) 35)) := by kernel_rfl
theorem wp_bslice1 {P : Program} {o : Oper} {a : Act} {w : World} {K : Act → World → Prop} {Q : Exit → Act → World → Prop} (t : TypeId) (x : Operand) (ho : o.op = .buildSlice t 1 #[(0, x)]) (v : Value) (hx : a.eval x = v) {r : Value} {w' : World} (hr : (Instr.buildSlice t 1 #[(0, v)]).run P w = .ok r w') (h : K (a.put o.dst r) w') : Oper.wp P o a w K Q := by
  unfold Oper.wp execOp
  simp only [ho, hx, Sem.run_bind, List.map_toArray, List.map_cons, List.map_nil, hr, Result.andThen_ok, Sem.run_pure]
  exact h
theorem verE_self (t i : Int) (A : List (List UInt8)) (x : List UInt8) : verE (pathH t i A x) t i A x = pathE t i A.length x.length := by
  unfold verE
  by_cases h : pathE t i A.length x.length = 0
  · rw [if_neg (by simpa using h), if_pos rfl, h]
  · rw [if_pos h]
theorem hb32_ones {X : List UInt8} : ∀ u ∈ (hb32 X).toList, u.oneCell' = true := by
  intro u hu
  simp only [hb32, List.mem_map] at hu
  obtain ⟨b, _, rfl⟩ := hu
  rfl
set_option maxRecDepth 100000 in
set_option maxHeartbeats 80000000 in
theorem paths8 (w : World) (rt : List UInt8) (hrt : rt.length = 32) (t i : Int) (A : List (List UInt8)) (a : Option Addr) (cap : Nat) (hA : HsAt w a cap A) (hbA : A.length * 32 ≤ 140737488351232) (v : Value) (x : List UInt8) (hb : Bs w v x) (hbx : x.length + 2 ≤ 140737488355328) (hl0 : Laid0 w) (hl1 : Laid1 w) :
    Calls Tryd.prog 8 #[.agg (hb32 rt), .agg #[.int .i64 t, .int .i64 i, .slice a A.length cap], v] w fun e w' => e = .returned (.bool true) ∧ Turn no w w' := by
  have h2 : 2 ≤ w.heap.size := World.block_lt_of_cell? w _ (hl1 0 (by omega))
  have sR := hb32_size hrt
  have iR := hb32_info hrt
  obtain ⟨n, hn⟩ : ∃ n, A.length = n := ⟨_, rfl⟩
  obtain ⟨w0, hw0⟩ : ∃ w0, (w.alloc (.cells (hb32 rt) 35)).alloc (.cells #[.int .i64 t, .int .i64 i, .slice a n cap] 52) = w0 := ⟨_, rfl⟩
  have T0 : Turn no w w0 := by rw [← hw0]; exact ((Turn.refl no w).alloc _).alloc _
  have RR : Row w0 w.heap.size (hb32 rt) 35 := by rw [← hw0]; exact (Row.new w _ 35).alloc _
  have RP : Row w0 (w.heap.size + 1) #[.int .i64 t, .int .i64 i, .slice a n cap] 52 := by rw [← hw0]; exact Row.newAt _ _ _ _ (by simp)
  have hal := alive_any w0 (hl1.turn T0 (fun q => q)) (by have := T0.size; omega)
  obtain ⟨xa, xc, rfl⟩ := hb.slice
  rw [hn] at hbA ⊢
  have HA := shut hA
  have HB := shut hb
  have HL0 := shut hl0
  have HL1 := shut hl1
  have HN := shut hn
  have HRT := shut hrt
  clear hA hb hl0 hl1 hn hrt
  generalize hRT : hb32 rt = RT at *
  go_enter Tryd.func8, Tryd.ntmps8
  go_upto_region 1 with fail
  try rw [hw0]
  clear hw0
  go_upto_region 4 with (go_at_call 10; refine hal.mono ?_; clear hal; rintro e w1 ⟨rfl, t1⟩; have p0 := Row.cell (RP.turn t1 (fun q => q)) 0 _ rfl; have p1 := Row.cell (RP.turn t1 (fun q => q)) 1 _ rfl; have p2 := Row.cell (RP.turn t1 (fun q => q)) 2 _ rfl)
  go_upto_region 5 with fail
  have hm : n + 1 ≤ maxLen := by simp only [maxLen]; omega
  have hbb : (n + 1) * 32 ≤ 140737488355328 := by omega
  have gP := RP.lt
  obtain ⟨w2, hw2⟩ : ∃ w2, w1.alloc (.cells #[.int .i64 t, .int .i64 i, .slice a n cap] 52) = w2 := ⟨_, rfl⟩
  have RQ : Row w2 w1.heap.size #[.int .i64 t, .int .i64 i, .slice a n cap] 52 := by rw [← hw2]; exact Row.new w1 _ 52
  have T12 : Turn no w1 w2 := by rw [← hw2]; exact (Turn.refl no w1).alloc _
  have T02 := t1.then_no T12
  have RR2 := RR.turn T02 (fun q => q)
  have RP2 := RP.turn T02 (fun q => q)
  have TW2 := T0.then_no T02
  have hS : Src Tryd.prog 32 50 (.slice a n cap) n (hsF A) w2 := by
    have := (HA.out.turn_no TW2).src
    rw [HN.out] at this
    exact this
  obtain ⟨v1, w3, r1, O1, f1, T3, _, b1, c1, rfl⟩ := app_first (w := w2) Tryd.underlying50 info35 rfl (by decide) (Turn.refl no w2) (OwnN.nil w2 35 32) (fun g q => by cases q) hS hbb hm
  have RQ3 := RQ.turn T3 (fun q => q)
  have c3 := Row.cell RQ3 2 _ rfl
  have z3 := Row.frozen RQ3 2
  have q2 := Row.cell RP2 2 _ rfl
  have g10 : w.heap.size + 1 < w1.heap.size := by have := t1.size; omega
  have gq2 : w1.heap.size < w2.heap.size := RQ.lt
  have HR2 := shut RR2
  have HP2 := shut RP2
  have HTW2 := shut TW2
  rw [hw2]
  generalize hgq : w1.heap.size = gq at *
  clear hw2 hgq RQ T12 T02 RR RP t1 p0 p1 p2 hS T0 TW2 RR2 RP2
  go_upto_region 6 with (at_builtin; refine wpList_append_run rfl (.const (.slice none 0 0)) (.tmp 21) rfl _ _ rfl rfl r1 ?_; clear r1)
  have T4 : Turn (fun k => k = gq) w2 (w3.setCell ⟨gq, 2, none⟩ (.slice b1 n c1)) := (T3.of_no (S := fun k => k = gq)).setCell (p := ⟨gq, 2, none⟩) (fun _ => rfl) _
  have RQ4 : Row (w3.setCell ⟨gq, 2, none⟩ (.slice b1 n c1)) gq #[.int .i64 t, .int .i64 i, .slice b1 n c1] 52 := by
    have := Row.set RQ3 2 (.slice b1 n c1)
    simpa using this
  have O4 : OwnN (w3.setCell ⟨gq, 2, none⟩ (.slice b1 n c1)) 35 32 (.slice b1 n c1) n (hsF A) := O1.turn ((Turn.refl (fun k => k = gq) w3).setCell (p := ⟨gq, 2, none⟩) (fun _ => rfl) _) (fun g hg q => by have := f1 g hg; omega)
  clear c3 z3 q2 O1 RQ3 T3
  generalize w3.setCell ⟨gq, 2, none⟩ (.slice b1 n c1) = w4 at *
  have HT4 := shut T4
  have HQ4 := shut RQ4
  have hsz4 := T4.size
  have TA : Turn no w4 (w4.drew.alloc (.cells (hb32 h7) 35)) := ((Turn.refl no w4).drew).alloc _
  obtain ⟨v2, w5, r2, O5, G5⟩ := run_append_srcN (P := Tryd.prog) Tryd.underlying50 info35 rfl (by decide) 50 (w4.drew.alloc (.cells (hb32 h7) 35)) (.slice b1 n c1) n (hsF A) (O4.turn_no TA) (.slice (some ⟨w4.drew.heap.size, 0, none⟩) 1 1) 1 (hb32 h7).toList (Row.src1 Tryd.underlying50 (Row.new w4.drew (hb32 h7) 35) (hb32_size h7_len) hb32_ones) hbb hm
  have hsA := TA.size
  have T5 : Turn (fun k => k = gq) w2 w5 := (T4.then_no TA).trans G5.turn (fun i hi q => by have := f1 i q; omega)
  have F5 := G5.fresh (B := w2.heap.size) f1 (by omega)
  have RQ5 : Row w5 gq #[.int .i64 t, .int .i64 i, .slice b1 n c1] 52 := (RQ4.turn TA (fun q => q)).turn G5.turn (fun q => by have := f1 gq q; omega)
  obtain ⟨g2, c2, rfl, hc2⟩ : ∃ g2 c2, v2 = .slice (some ⟨g2, 0, none⟩) (n + 1) c2 ∧ n + 1 ≤ c2 := by
    rcases O5.2 with ⟨_, q⟩ | ⟨g2, c2, cur, e2, _, _, h2, _⟩
    · omega
    · exact ⟨g2, c2, e2, h2⟩
  have hg2 : w2.heap.size ≤ g2 := F5 g2 rfl
  have e5 : hsF A ++ (hb32 h7).toList = hsF (A ++ [h7]) := by rw [hsF_append]; simp [hsF, hb32]
  rw [e5] at O5
  have T6 : Turn (fun k => k = gq) w2 (w5.setCell ⟨gq, 2, none⟩ (.slice (some ⟨g2, 0, none⟩) n c2)) := T5.setCell (p := ⟨gq, 2, none⟩) (fun _ => rfl) _
  have RQ6 : Row (w5.setCell ⟨gq, 2, none⟩ (.slice (some ⟨g2, 0, none⟩) n c2)) gq #[.int .i64 t, .int .i64 i, .slice (some ⟨g2, 0, none⟩) n c2] 52 := by
    have := Row.set RQ5 2 (.slice (some ⟨g2, 0, none⟩) n c2)
    simpa using this
  have H6 : HsAt (w5.setCell ⟨gq, 2, none⟩ (.slice (some ⟨g2, 0, none⟩) n c2)) (some ⟨g2, 0, none⟩) c2 (A ++ [h7]) := by
    obtain ⟨a5, c5, e5, h5⟩ := O5.hsAt (by simp [HN.out]) (fun m hm => (List.mem_append.1 hm).elim (HA.out.ok m) (fun q => by rw [List.mem_singleton.1 q]; exact h7_len))
    cases e5
    exact h5.turn ((Turn.refl (fun k => k = gq) w5).setCell (p := ⟨gq, 2, none⟩) (fun _ => rfl) _) (fun x q => by cases q; show ¬ g2 = gq; omega)
  have z4 : w4.cell? ⟨gq, 2, none⟩ = some (.slice b1 n c1) := Row.cell RQ4 2 _ rfl
  have zA : (w4.drew.alloc (.cells (hb32 h7) 35)).cell? ⟨gq, 2, none⟩ = some (.slice b1 n c1) := Row.cell (RQ4.turn TA (fun q => q)) 2 _ rfl
  have z5 : w5.cell? ⟨gq, 2, none⟩ = some (.slice b1 n c1) := Row.cell RQ5 2 _ rfl
  have hlt4 : gq < w4.heap.size := RQ4.lt
  have z5f := Row.frozen RQ5 2
  have HT6 := shut T6
  have HQ6 := shut RQ6
  have HH6 := shut H6
  have HT5 := shut T5
  have HTA := shut (T4.then_no TA)
  have hpn : ¬ c2 < n := by omega
  have HG2 := shut hg2
  have HG10 := shut g10
  have HGQ := shut gq2
  have HC2 := shut hc2
  clear T6 RQ6 H6 T5 TA T4 O5 O4 RQ4 RQ5 G5 F5 f1 e5 hsA hsz4 gP HQ4 hg2 g10 gq2 hbb hm hc2
  go_cut [8] from 19 to 33 (fun c8 wx => c8 = .pointer (some ⟨gq, 0, none⟩) ∧ ∃ g2 c2, Shut (Row wx gq #[.int .i64 t, .int .i64 i, .slice (some ⟨g2, 0, none⟩) n c2] 52 ∧ HsAt wx (some ⟨g2, 0, none⟩) c2 (A ++ [h7]) ∧ Turn (fun k => k = gq) w2 wx))
  case first =>
    refine wp_region_held_drew (S := fun W => Turn (fun k => k = gq) w2 W) (by kernel_rfl) HT4.out.drew (fun hHeld => ?_)
    refine' wpAnyH_take (i := 0) (v := .pointer (some ⟨gq, 2, none⟩)) rfl (by kernel_rfl) (by kernel_rfl) (by kernel_rfl) (fun _ _ _ h => h) (Or.inl ⟨by kernel_rfl, fun W hW => ?y1⟩) hHeld ?r1
    · go_simp
    refine' wpAnyH_take (i := 2) (v := .agg (hb32 h7)) rfl (by kernel_rfl) (by kernel_rfl) (by kernel_rfl) (fun _ _ _ h => h) (Or.inl ⟨by kernel_rfl, fun W hW => ?y2⟩) hHeld ?r2
    · go_simp
      rfl
    refine' wpAnyH_take (i := 5) (v := .pointer (some ⟨w.heap.size + 1, 2, none⟩)) rfl (by kernel_rfl) (by kernel_rfl) (by kernel_rfl) (fun _ _ _ h => h) (Or.inl ⟨by kernel_rfl, fun W hW => ?y3⟩) hHeld ?r3
    · go_simp
    refine' wpAnyH_take (i := 6) (v := .slice a n cap) rfl (by kernel_rfl) (by kernel_rfl) (by kernel_rfl) (fun _ _ _ h => h) (Or.inl ⟨by kernel_rfl, fun W hW => ?y4⟩) hHeld ?r4
    · have z := Row.cell (HP2.out.turn hW (fun q => by have := HG10.out; omega)) 2 _ rfl
      go_simp
    refine' wpAnyH_take (i := 7) (v := .int .i64 n) rfl (by kernel_rfl) (by kernel_rfl) (by kernel_rfl) (fun _ _ _ h => h) (Or.inl ⟨by kernel_rfl, fun W hW => ?y5⟩) hHeld ?r5
    · go_simp
    refine wpAnyH_ready (rs := [1, 3]) (by kernel_rfl) (by simp) ?_
    refine AllReadyH.cons rfl (fun K hK => ?_) (AllReadyH.cons rfl (fun K hK => ?_) AllReadyH.nil)
    · go_simp
      refine hK.out _ _ HT4.out.drew (fun hHeld => ?_)
      clear hK
      refine wpAnyH_ready (rs := [3]) (by kernel_rfl) (by simp) ?_
      refine AllReadyH.cons rfl (fun K hK => ?_) AllReadyH.nil
      rw [if_pos (by kernel_rfl)]
      refine wp_bslice1 50 _ rfl _ rfl (bsl7 _) ?_
      refine hK.out _ _ HTA.out (fun hHeld => ?_)
      clear hK
      refine wpAnyH_ready (rs := [4]) (by kernel_rfl) (by simp) ?_
      refine AllReadyH.cons rfl (fun K hK => ?_) AllReadyH.nil
      rw [if_pos (by kernel_rfl)]
      refine wp_append_run _ _ rfl _ _ rfl rfl r2 ?_
      refine hK.out _ _ HT5.out (fun hHeld => ?_)
      clear hK
      refine' wpAnyH_take (i := 8) (v := .slice (some ⟨g2, 0, none⟩) n c2) rfl (by kernel_rfl) (by kernel_rfl) (by kernel_rfl) (fun _ _ _ h => h) (Or.inl ⟨by kernel_rfl, fun W hW => ?y6⟩) hHeld ?r6
      · go_simp
      refine' wpAnyH_take (i := 9) (v := .pointer (some ⟨gq, 2, none⟩)) rfl (by kernel_rfl) (by kernel_rfl) (by kernel_rfl) (fun _ _ _ h => h) (Or.inl ⟨by kernel_rfl, fun W hW => ?y7⟩) hHeld ?r7
      · go_simp
      refine wpAnyH_ready (rs := [10]) (by kernel_rfl) (by simp) ?_
      refine AllReadyH.cons rfl (fun K hK => ?_) AllReadyH.nil
      go_simp
      refine hK.out _ _ HT6.out (fun hHeld => ?_)
      clear hK
      refine wpAnyH_done (by kernel_rfl) ?_ _
      go_simp
      go_wp2_with fail
      go_meet
      case rel => exact ⟨rfl, g2, c2, HQ6.out, HH6.out, HT6.out⟩
    · rw [if_pos (by kernel_rfl)]
      refine wp_bslice1 50 _ rfl _ rfl (bsl7 _) ?_
      refine hK.out _ _ HTA.out (fun hHeld => ?_)
      clear hK z4 hlt4
      generalize w4.drew.alloc (.cells (hb32 h7) 35) = wA at *
      refine wpAnyH_ready (rs := [1]) (by kernel_rfl) (by simp) ?_
      refine AllReadyH.cons rfl (fun K hK => ?_) AllReadyH.nil
      go_simp
      refine hK.out _ _ HTA.out (fun hHeld => ?_)
      clear hK
      refine wpAnyH_ready (rs := [4]) (by kernel_rfl) (by simp) ?_
      refine AllReadyH.cons rfl (fun K hK => ?_) AllReadyH.nil
      rw [if_pos (by kernel_rfl)]
      refine wp_append_run _ _ rfl _ _ rfl rfl r2 ?_
      refine hK.out _ _ HT5.out (fun hHeld => ?_)
      clear hK
      refine' wpAnyH_take (i := 8) (v := .slice (some ⟨g2, 0, none⟩) n c2) rfl (by kernel_rfl) (by kernel_rfl) (by kernel_rfl) (fun _ _ _ h => h) (Or.inl ⟨by kernel_rfl, fun W hW => ?y8⟩) hHeld ?r8
      · go_simp
      refine' wpAnyH_take (i := 9) (v := .pointer (some ⟨gq, 2, none⟩)) rfl (by kernel_rfl) (by kernel_rfl) (by kernel_rfl) (fun _ _ _ h => h) (Or.inl ⟨by kernel_rfl, fun W hW => ?y9⟩) hHeld ?r9
      · go_simp
      refine wpAnyH_ready (rs := [10]) (by kernel_rfl) (by simp) ?_
      refine AllReadyH.cons rfl (fun K hK => ?_) AllReadyH.nil
      go_simp
      refine hK.out _ _ HT6.out (fun hHeld => ?_)
      clear hK
      refine wpAnyH_done (by kernel_rfl) ?_ _
      go_simp
      go_wp2_with fail
      go_meet
      case rel => exact ⟨rfl, g2, c2, HQ6.out, HH6.out, HT6.out⟩
  case rest =>
    obtain ⟨rfl, g2, c2, H1⟩ := hcut
    obtain ⟨wx, rfl⟩ : ∃ wx : World, wx = wc := ⟨_, rfl⟩
    have HTX : Shut (Turn no w wx) := HTW2.out.trans H1.out.2.2 (fun i hi e => by have := HG10.out; omega)
    have HW : Shut (∀ W, Turn no wx W → Row W w.heap.size RT 35 ∧ Row W (w.heap.size + 1) #[.int .i64 t, .int .i64 i, .slice a n cap] 52 ∧ Row W gq #[.int .i64 t, .int .i64 i, .slice (some ⟨g2, 0, none⟩) n c2] 52 ∧ HsAt W a cap A ∧ HsAt W (some ⟨g2, 0, none⟩) c2 (A ++ [h7]) ∧ Bs W (.slice xa x.length xc) x ∧ Laid0 W ∧ Laid1 W ∧ 2 ≤ W.heap.size ∧ Turn no w W) := fun W T => by
      have q := HG10.out
      have tt : Turn (fun k => k = gq) w2 W := H1.out.2.2.trans T.of_no (fun _ _ e => e)
      have tw := HTX.out.then_no T
      exact ⟨HR2.out.turn tt (fun e => by omega), HP2.out.turn tt (fun e => by omega), H1.out.1.turn T (fun q => q), HA.out.turn_no tw, H1.out.2.1.turn_no T, HB.out.turn_no tw, HL0.out.turn tw (fun q => q), HL1.out.turn tw (fun q => q), by have := tw.size; omega, tw⟩
    have hro := roomy_any wx (.slice xa x.length xc) x (HW.out wx (Turn.refl no wx)).2.2.2.2.2.1 hbx
    have hle2 : n + 1 ≤ c2 := by have := H1.out.2.1.le; rw [List.length_append, HN.out] at this; exact this
    have hcm2 : c2 ≤ 9223372036854775807 := by have := H1.out.2.1.cap; simp only [maxLen] at this; omega
    clear H1 HR2 HP2 HTW2 HA HB HL0 HL1 HTX HT4 HT6 HQ6 HH6 HT5 HTA HG2 HGQ HC2 z4 zA z5 z5f hlt4 hpn r2
    obtain ⟨m, hm⟩ : ∃ m, x.length = m := ⟨_, rfl⟩
    have HM := shut hm
    rw [hm] at hbx HW hro
    try rw [hm]
    clear hm
    go_upto_region 8 with (go_at_call 16; refine hro.mono ?_; clear hro; rintro e w7 ⟨vf, rfl, O7, f7, t7⟩; have B7 := O7.bs; obtain ⟨fb, fo, fc, hvf, hfc, _⟩ := B7.at (by simp); have hlen : (x ++ [201, 202]).length = m + 2 := by { rw [List.length_append, HM.out]; rfl }; rw [hlen] at hvf hfc; subst hvf; clear O7 f7)
    have C7 := bs_cut B7 x.length (by simp)
    rw [List.take_left' rfl, HM.out] at C7
    have HB7 := shut B7
    have HC7 := shut C7
    have HW7 : Shut (∀ W, Turn no w7 W → Row W w.heap.size RT 35 ∧ Row W (w.heap.size + 1) #[.int .i64 t, .int .i64 i, .slice a n cap] 52 ∧ Row W gq #[.int .i64 t, .int .i64 i, .slice (some ⟨g2, 0, none⟩) n c2] 52 ∧ HsAt W a cap A ∧ HsAt W (some ⟨g2, 0, none⟩) c2 (A ++ [h7]) ∧ Bs W (.slice xa m xc) x ∧ Laid0 W ∧ Laid1 W ∧ 2 ≤ W.heap.size ∧ Turn no w W) := fun W T => HW.out W (t7.then_no T)
    have hmf : ¬ fc < m := by omega
    have lp := pathH_len t i A x
    have sP := hb32_size lp
    have oP := hb32_one (pathH t i A x)
    have iP := hb32_info lp
    have HQP : Shut (∀ W, (Op.equalIn 10000 35 (.agg (hb32 (pathH t i A x))) (.agg (hb32 (pathH t i A x)))).run Tryd.prog W = .ok true W) := fun W => by
      rw [show hb32 (pathH t i A x) = ((pathH t i A x).map bv).toArray from rfl, eqIn35 W _ _ lp lp]
      simp
    have C25 : Shut (∀ W, Turn no w7 W → Calls Tryd.prog 25 #[.agg #[.int .i64 t, .int .i64 i, .slice (some ⟨g2, 0, none⟩) n c2], .slice (some ⟨fb, fo, none⟩) m fc] W fun e w' => e = .returned (.tuple #[.agg (hb32 (pathH t i A x)), .int .i64 (pathE t i n m)]) ∧ Turn no W w') := fun W T => by
      obtain ⟨_, _, _, _, h2, _, _, l1, h3, _⟩ := HW7.out W T
      have := path25 W t i A _ _ h2.front _ x (HC7.out.turn_no T) l1 h3
      rw [HN.out, HM.out] at this
      exact this
    have C26 : Shut (∀ W, Turn no w7 W → ∀ r : List UInt8, r.length = 32 → Calls Tryd.prog 26 #[.agg (hb32 r), .agg #[.int .i64 t, .int .i64 i, .slice (some ⟨g2, 0, none⟩) n c2], .slice (some ⟨fb, fo, none⟩) m fc] W fun e w' => e = .returned (.int .i64 (verE r t i A x)) ∧ Turn no W w') := fun W T r hr => by
      obtain ⟨_, _, _, _, h2, _, _, l1, h3, _⟩ := HW7.out W T
      have := verify26 W r hr t i A _ _ h2.front _ x (HC7.out.turn_no T) l1 h3
      rw [HN.out] at this
      exact this
    have C27 : Shut (∀ W, Turn no w7 W → Calls Tryd.prog 27 #[.agg #[.int .i64 t, .int .i64 i, .slice a n cap], .slice xa m xc] W fun e w' => e = .returned (.tuple #[.agg (hb32 (pathH t i A x)), .int .i64 (pathE t i n m)]) ∧ Turn no W w') := fun W T => by
      obtain ⟨_, _, _, h1, _, hb, l0, _, h3, _⟩ := HW7.out W T
      have := rpath27 W t i A _ _ h1 _ x hb l0 h3
      rw [HN.out, HM.out] at this
      exact this
    have C28 : Shut (∀ W, Turn no w7 W → Calls Tryd.prog 28 #[.agg RT, .agg #[.int .i64 t, .int .i64 i, .slice a n cap], .slice xa m xc] W fun e w' => e = .returned (.int .i64 (verE rt t i A x)) ∧ Turn no W w') := fun W T => by
      obtain ⟨_, _, _, h1, _, hb, l0, _, h3, _⟩ := HW7.out W T
      have := rverify28 W rt HRT.out t i A _ _ h1 _ x hb l0 h3
      rw [HN.out, hRT] at this
      exact this
    have C24 : Shut (∀ W, Turn no w7 W → Calls Tryd.prog 24 #[.agg #[.int .i64 t, .int .i64 i, .slice a n cap], .agg #[.int .i64 t, .int .i64 i, .slice (some ⟨g2, 0, none⟩) n c2]] W fun e w' => e = .returned (.bool true) ∧ Turn no W w') := fun W T => by
      obtain ⟨_, _, _, h1, h2, _⟩ := HW7.out W T
      have := same24 W t i A a cap _ _ h1 h2.front
      rw [HN.out] at this
      exact this
    have C17 : Shut (∀ W, Turn no w7 W → Calls Tryd.prog 17 #[.slice (some ⟨fb, fo, none⟩) (m + 2) fc, .slice xa m xc] W fun e w' => e = .returned (.bool true) ∧ ∃ n, w' = W.drewN n) := fun W T => kept_any W _ _ x (HB7.out.turn_no T) (HW7.out W T).2.2.2.2.2.1 (by rw [HM.out]; exact hbx)
    have CR : Shut (∀ W, Turn no w7 W → Calls Tryd.prog 26 #[.agg RT, .agg #[.int .i64 t, .int .i64 i, .slice (some ⟨g2, 0, none⟩) n c2], .slice (some ⟨fb, fo, none⟩) m fc] W fun e w' => e = .returned (.int .i64 (verE rt t i A x)) ∧ Turn no W w') := fun W T => by
      have := C26.out W T rt HRT.out
      rw [hRT] at this
      exact this
    have CP : Shut (∀ W, Turn no w7 W → Calls Tryd.prog 26 #[.agg (hb32 (pathH t i A x)), .agg #[.int .i64 t, .int .i64 i, .slice (some ⟨g2, 0, none⟩) n c2], .slice (some ⟨fb, fo, none⟩) m fc] W fun e w' => e = .returned (.int .i64 (pathE t i n m)) ∧ Turn no W w') := fun W T => by
      have := C26.out W T (pathH t i A x) lp
      rw [verE_self, HN.out, HM.out] at this
      exact this
    have H7 : Shut (∀ W, Turn no w7 W → W.rangeAt g2 (n * 32) (h7.map bv)) := fun W T => by
      obtain ⟨b, off, e, q⟩ := (HW7.out W T).2.2.2.2.1.cells n h7 (by rw [List.getElem?_append_right (by rw [HN.out]; exact Nat.le_refl _), HN.out]; simp)
      cases e
      rw [Nat.zero_add] at q
      exact q
    have iRl : (Tryd.prog.info? 35).map (·.size) = some RT.toList.length := by rw [Array.length_toList]; exact iR
    clear C26 hRT HRT B7 C7 t7 lp HW HM hbx
    generalize hb32 (pathH t i A x) = PH at *
    generalize verE rt t i A x = VE at *
    generalize pathE t i n m = PE at *
    have iPl : (Tryd.prog.info? 35).map (·.size) = some PH.toList.length := by rw [Array.length_toList]; exact iP
    obtain ⟨Z, hZs, hzv⟩ : ∃ Z : Array Value, Z.size = 32 ∧ ∀ W, (zeroValue 35).run Tryd.prog W = .ok (.agg Z) W := ⟨hb32 z32, hb32_size z32_len, zero35v⟩
    have hp25 := shut hzv
    go_cut [10, 11] from 36 to 44 (fun c10 c11 wy => ∃ g, c10 = .pointer (some ⟨g, 0, none⟩) ∧ c11 = .int .i64 PE ∧ Shut (Row wy g PH 35 ∧ Turn no w7 wy))
    case first =>
      refine wp_region_held_drew (S := fun W => Turn no w7 W) (by kernel_rfl) (Turn.refl no w7).drew (fun hHeld => ?_)
      refine' wpAnyH_take (i := 0) (v := .agg #[.int .i64 t, .int .i64 i, .slice (some ⟨g2, 0, none⟩) n c2]) rfl (by kernel_rfl) (by kernel_rfl) (by kernel_rfl) (fun _ _ _ h => h) (Or.inl ⟨by kernel_rfl, fun W hW => ?y10⟩) hHeld ?r10
      · have y0 := Row.cell (HW7.out W hW).2.2.1 0 _ rfl
        have y1 := Row.cell (HW7.out W hW).2.2.1 1 _ rfl
        have y2 := Row.cell (HW7.out W hW).2.2.1 2 _ rfl
        go_simp
      refine' wpAnyH_take (i := 1) (v := .slice (some ⟨fb, fo, none⟩) (m + 2) fc) rfl (by kernel_rfl) (by kernel_rfl) (by kernel_rfl) (fun _ _ _ h => h) (Or.inl ⟨by kernel_rfl, fun W hW => ?y11⟩) hHeld ?r11
      · go_simp
      refine' wpAnyH_take (i := 2) (v := .slice xa m xc) rfl (by kernel_rfl) (by kernel_rfl) (by kernel_rfl) (fun _ _ _ h => h) (Or.inl ⟨by kernel_rfl, fun W hW => ?y12⟩) hHeld ?r12
      · go_simp
      refine' wpAnyH_take (i := 3) (v := .int .i64 m) rfl (by kernel_rfl) (by kernel_rfl) (by kernel_rfl) (fun _ _ _ h => h) (Or.inl ⟨by kernel_rfl, fun W hW => ?y13⟩) hHeld ?r13
      · go_simp
      refine' wpAnyH_take (i := 4) (v := .slice (some ⟨fb, fo, none⟩) m fc) rfl (by kernel_rfl) (by kernel_rfl) (by kernel_rfl) (fun _ _ _ h => h) (Or.inl ⟨by kernel_rfl, fun W hW => ?y14⟩) hHeld ?r14
      · go_simp
      refine wpAnyH_ready (rs := [5, 9]) (by kernel_rfl) (by simp) ?_
      refine AllReadyH.cons rfl (fun K hK => ?_) (AllReadyH.cons rfl (fun K hK => ?_) AllReadyH.nil)
      · go_simp
        refine (C25.out _ hHeld).mono ?_
        rintro e w8 ⟨rfl, t8⟩
        refine hK.out _ _ (hHeld.then_no t8) (fun hHeld => ?_)
        clear hK
        refine' wpAnyH_take (i := 6) (v := .tuple #[.agg PH, .int .i64 PE]) rfl (by kernel_rfl) (by kernel_rfl) (by kernel_rfl) (fun _ _ _ h => h) (Or.inl ⟨by kernel_rfl, fun W hW => ?y15⟩) hHeld ?r15
        · go_simp
        refine' wpAnyH_take (i := 7) (v := .agg PH) rfl (by kernel_rfl) (by kernel_rfl) (by kernel_rfl) (fun _ _ _ h => h) (Or.inl ⟨by kernel_rfl, fun W hW => ?y16⟩) hHeld ?r16
        · go_simp
        refine' wpAnyH_take (i := 8) (v := .int .i64 PE) rfl (by kernel_rfl) (by kernel_rfl) (by kernel_rfl) (fun _ _ _ h => h) (Or.inl ⟨by kernel_rfl, fun W hW => ?y17⟩) hHeld ?r17
        · go_simp
        have w8s := hHeld.size
        have RN := Row.new w8 Z 35
        refine wpAnyH_ready (rs := [9]) (by kernel_rfl) (by simp) ?_
        refine AllReadyH.cons rfl (fun K hK => ?_) AllReadyH.nil
        go_simp
        refine hK.out _ _ (hHeld.alloc (.cells Z 35)) (fun hHeld => ?_)
        clear hK
        refine wpAnyH_ready (rs := [10]) (by kernel_rfl) (by simp) ?_
        refine AllReadyH.cons rfl (fun K hK => ?_) AllReadyH.nil
        rw [if_pos (by kernel_rfl)]
        refine wp_store_row 35 _ _ rfl w8.heap.size PH rfl rfl 35 Z RN iP (by rw [hZs, sP]) oP ?_
        have TS : Turn no w7 ((w8.alloc (.cells Z 35)).setRow w8.heap.size PH) := hHeld.setRow _ _ (fun q => by have := w8s; omega)
        have RS : Row ((w8.alloc (.cells Z 35)).setRow w8.heap.size PH) w8.heap.size PH 35 := setRow_heap _ _ _ _ _ _ RN
        refine hK.out _ _ TS (fun hHeld => ?_)
        clear hK
        refine' wpAnyH_take (i := 11) (v := .int .i64 PE) rfl (by kernel_rfl) (by kernel_rfl) (by kernel_rfl) (fun _ _ _ h => h) (Or.inl ⟨by kernel_rfl, fun W hW => ?y18⟩) hHeld ?r18
        · go_simp
        refine wpAnyH_done (by kernel_rfl) ?_ _
        go_simp
        go_wp2_with fail
        go_meet
        case rel => exact ⟨_, rfl, rfl, RS, TS⟩
      · go_simp
        have RN := Row.new w7.drew Z 35
        refine hK.out _ _ (hHeld.alloc (.cells Z 35)) (fun hHeld => ?_)
        clear hK
        refine wpAnyH_ready (rs := [5]) (by kernel_rfl) (by simp) ?_
        refine AllReadyH.cons rfl (fun K hK => ?_) AllReadyH.nil
        go_simp
        refine (C25.out _ hHeld).mono ?_
        rintro e w8 ⟨rfl, t8⟩
        have RN8 := RN.turn t8 (fun q => q)
        refine hK.out _ _ (hHeld.then_no t8) (fun hHeld => ?_)
        clear hK
        refine' wpAnyH_take (i := 6) (v := .tuple #[.agg PH, .int .i64 PE]) rfl (by kernel_rfl) (by kernel_rfl) (by kernel_rfl) (fun _ _ _ h => h) (Or.inl ⟨by kernel_rfl, fun W hW => ?y19⟩) hHeld ?r19
        · go_simp
        refine' wpAnyH_take (i := 7) (v := .agg PH) rfl (by kernel_rfl) (by kernel_rfl) (by kernel_rfl) (fun _ _ _ h => h) (Or.inl ⟨by kernel_rfl, fun W hW => ?y20⟩) hHeld ?r20
        · go_simp
        refine' wpAnyH_take (i := 8) (v := .int .i64 PE) rfl (by kernel_rfl) (by kernel_rfl) (by kernel_rfl) (fun _ _ _ h => h) (Or.inl ⟨by kernel_rfl, fun W hW => ?y21⟩) hHeld ?r21
        · go_simp
        have w8s := hHeld.size
        refine wpAnyH_ready (rs := [10]) (by kernel_rfl) (by simp) ?_
        refine AllReadyH.cons rfl (fun K hK => ?_) AllReadyH.nil
        rw [if_pos (by kernel_rfl)]
        refine wp_store_row 35 _ _ rfl w7.heap.size PH rfl rfl 35 Z RN8 iP (by rw [hZs, sP]) oP ?_
        have TS : Turn no w7 (w8.setRow w7.heap.size PH) := hHeld.setRow _ _ (fun q => by have := w8s; omega)
        have RS : Row (w8.setRow w7.heap.size PH) w7.heap.size PH 35 := setRow_heap _ _ _ _ _ _ RN8
        refine hK.out _ _ TS (fun hHeld => ?_)
        clear hK
        refine' wpAnyH_take (i := 11) (v := .int .i64 PE) rfl (by kernel_rfl) (by kernel_rfl) (by kernel_rfl) (fun _ _ _ h => h) (Or.inl ⟨by kernel_rfl, fun W hW => ?y22⟩) hHeld ?r22
        · go_simp
        refine wpAnyH_done (by kernel_rfl) ?_ _
        go_simp
        go_wp2_with fail
        go_meet
        case rel => exact ⟨_, rfl, rfl, RS, TS⟩
    case rest =>
      obtain ⟨g10, rfl, rfl, H8⟩ := hcut
      obtain ⟨wy, rfl⟩ : ∃ wy : World, wy = wc := ⟨_, rfl⟩
      have HW8 : Shut (∀ W, Turn no wy W → (Row W w.heap.size RT 35 ∧ Row W (w.heap.size + 1) #[.int .i64 t, .int .i64 i, .slice a n cap] 52 ∧ Row W gq #[.int .i64 t, .int .i64 i, .slice (some ⟨g2, 0, none⟩) n c2] 52) ∧ Row W g10 PH 35 ∧ Turn no w7 W) := fun W T => by
        have tt := H8.out.2.then_no T
        obtain ⟨a1, a2, a3, _⟩ := HW7.out W tt
        exact ⟨⟨a1, a2, a3⟩, H8.out.1.turn T (fun q => q), tt⟩
      clear H8
      go_upto_region 9 with fail
      refine wp_region_held_drew (S := fun W => Turn no wy W) (by kernel_rfl) (Turn.refl no wy).drew (fun hHeld => ?_)
      refine' wpAnyH_take (i := 0) (v := .agg RT) rfl (by kernel_rfl) (by kernel_rfl) (by kernel_rfl) (fun _ _ _ h => h) (yieldsIf_load_mid (by kernel_rfl) 35 (.tmp 3) rfl w.heap.size 0 (by kernel_rfl) RT.toList _ (fun W h => (HW8.out W h).1.1.rng) Tryd.underlying35 rfl iRl) hHeld ?n0
      refine' wpAnyH_take (i := 1) (v := .agg #[.int .i64 t, .int .i64 i, .slice (some ⟨g2, 0, none⟩) n c2]) rfl (by kernel_rfl) (by kernel_rfl) (by kernel_rfl) (fun _ _ _ h => h) (Or.inl ⟨by kernel_rfl, fun W hW => ?y23⟩) hHeld ?r23
      · have y0 := Row.cell (HW8.out W hW).1.2.2 0 _ rfl
        have y1 := Row.cell (HW8.out W hW).1.2.2 1 _ rfl
        have y2 := Row.cell (HW8.out W hW).1.2.2 2 _ rfl
        go_simp
      refine' wpAnyH_take (i := 2) (v := .slice (some ⟨fb, fo, none⟩) (m + 2) fc) rfl (by kernel_rfl) (by kernel_rfl) (by kernel_rfl) (fun _ _ _ h => h) (Or.inl ⟨by kernel_rfl, fun W hW => ?y24⟩) hHeld ?r24
      · go_simp
      refine' wpAnyH_take (i := 3) (v := .slice xa m xc) rfl (by kernel_rfl) (by kernel_rfl) (by kernel_rfl) (fun _ _ _ h => h) (Or.inl ⟨by kernel_rfl, fun W hW => ?y25⟩) hHeld ?r25
      · go_simp
      refine' wpAnyH_take (i := 4) (v := .int .i64 m) rfl (by kernel_rfl) (by kernel_rfl) (by kernel_rfl) (fun _ _ _ h => h) (Or.inl ⟨by kernel_rfl, fun W hW => ?y26⟩) hHeld ?r26
      · go_simp
      refine' wpAnyH_take (i := 5) (v := .slice (some ⟨fb, fo, none⟩) m fc) rfl (by kernel_rfl) (by kernel_rfl) (by kernel_rfl) (fun _ _ _ h => h) (Or.inl ⟨by kernel_rfl, fun W hW => ?y27⟩) hHeld ?r27
      · go_simp
      refine wpAnyH_ready (rs := [6]) (by kernel_rfl) (by simp) ?_
      refine AllReadyH.cons rfl (fun K hK => ?_) AllReadyH.nil
      go_simp
      refine (CR.out _ (HW8.out _ hHeld).2.2).mono ?_
      rintro e w9 ⟨rfl, t9⟩
      refine hK.out _ _ (hHeld.then_no t9) (fun hHeld => ?_)
      clear hK
      refine' wpAnyH_take (i := 7) (v := .int .i64 VE) rfl (by kernel_rfl) (by kernel_rfl) (by kernel_rfl) (fun _ _ _ h => h) (Or.inl ⟨by kernel_rfl, fun W hW => ?y28⟩) hHeld ?r28
      · go_simp
      refine wpAnyH_done (by kernel_rfl) ?_ _
      go_simp
      have HT9 := shut hHeld
      clear hHeld t9
      go_upto_region 10 with fail
      refine wp_region_held_drew (S := fun W => Turn no wy W) (by kernel_rfl) HT9.out.drew (fun hHeld => ?_)
      refine' wpAnyH_take (i := 0) (v := .agg PH) rfl (by kernel_rfl) (by kernel_rfl) (by kernel_rfl) (fun _ _ _ h => h) (yieldsIf_load_mid (by kernel_rfl) 35 (.tmp 10) rfl g10 0 (by kernel_rfl) PH.toList _ (fun W h => (HW8.out W h).2.1.rng) Tryd.underlying35 rfl iPl) hHeld ?n1
      refine' wpAnyH_take (i := 1) (v := .agg #[.int .i64 t, .int .i64 i, .slice (some ⟨g2, 0, none⟩) n c2]) rfl (by kernel_rfl) (by kernel_rfl) (by kernel_rfl) (fun _ _ _ h => h) (Or.inl ⟨by kernel_rfl, fun W hW => ?y29⟩) hHeld ?r29
      · have y0 := Row.cell (HW8.out W hW).1.2.2 0 _ rfl
        have y1 := Row.cell (HW8.out W hW).1.2.2 1 _ rfl
        have y2 := Row.cell (HW8.out W hW).1.2.2 2 _ rfl
        go_simp
      refine' wpAnyH_take (i := 2) (v := .slice (some ⟨fb, fo, none⟩) (m + 2) fc) rfl (by kernel_rfl) (by kernel_rfl) (by kernel_rfl) (fun _ _ _ h => h) (Or.inl ⟨by kernel_rfl, fun W hW => ?y30⟩) hHeld ?r30
      · go_simp
      refine' wpAnyH_take (i := 3) (v := .slice xa m xc) rfl (by kernel_rfl) (by kernel_rfl) (by kernel_rfl) (fun _ _ _ h => h) (Or.inl ⟨by kernel_rfl, fun W hW => ?y31⟩) hHeld ?r31
      · go_simp
      refine' wpAnyH_take (i := 4) (v := .int .i64 m) rfl (by kernel_rfl) (by kernel_rfl) (by kernel_rfl) (fun _ _ _ h => h) (Or.inl ⟨by kernel_rfl, fun W hW => ?y32⟩) hHeld ?r32
      · go_simp
      refine' wpAnyH_take (i := 5) (v := .slice (some ⟨fb, fo, none⟩) m fc) rfl (by kernel_rfl) (by kernel_rfl) (by kernel_rfl) (fun _ _ _ h => h) (Or.inl ⟨by kernel_rfl, fun W hW => ?y33⟩) hHeld ?r33
      · go_simp
      refine wpAnyH_ready (rs := [6]) (by kernel_rfl) (by simp) ?_
      refine AllReadyH.cons rfl (fun K hK => ?_) AllReadyH.nil
      go_simp
      refine (CP.out _ (HW8.out _ hHeld).2.2).mono ?_
      rintro e wA ⟨rfl, tA⟩
      refine hK.out _ _ (hHeld.then_no tA) (fun hHeld => ?_)
      clear hK
      refine' wpAnyH_take (i := 7) (v := .int .i64 PE) rfl (by kernel_rfl) (by kernel_rfl) (by kernel_rfl) (fun _ _ _ h => h) (Or.inl ⟨by kernel_rfl, fun W hW => ?y34⟩) hHeld ?r34
      · go_simp
      refine wpAnyH_done (by kernel_rfl) ?_ _
      go_simp
      have HTA := shut hHeld
      have y0 := Row.cell (HW8.out wA hHeld).1.2.1 0 _ rfl
      have y1 := Row.cell (HW8.out wA hHeld).1.2.1 1 _ rfl
      have y2 := Row.cell (HW8.out wA hHeld).1.2.1 2 _ rfl
      have c27 := C27.out wA (HW8.out wA hHeld).2.2
      clear hHeld tA HT9
      go_upto_region 12 with (first | (go_at_call 27; refine c27.mono ?_; clear c27; rintro e wB ⟨rfl, tB⟩) | (guard_target =~ wpList _ _ _ ({ dst := _, op := Op.store 35 _ _, .. } :: _) _ _; refine wpList_store_anyN rfl rfl 35 (.tmp 14) (.tmp 63) rfl _ PH rfl rfl 35 Z (Row.new _ Z 35) iP (by rw [hZs, sP]) oP ?_; intro wC RC tC))
      have TBC : Turn (fun q => q = wB.heap.size) wB wC := ((Turn.refl no wB).alloc _).of_no.trans tC (fun _ _ e => e)
      have TAC : Turn no wA wC := tB.trans TBC (fun i hi e => by have := tB.size; omega)
      have HTC := shut (HTA.out.then_no TAC)
      have HWC : Shut (∀ W, Turn no wC W → (Row W w.heap.size RT 35 ∧ Row W (w.heap.size + 1) #[.int .i64 t, .int .i64 i, .slice a n cap] 52 ∧ Row W gq #[.int .i64 t, .int .i64 i, .slice (some ⟨g2, 0, none⟩) n c2] 52) ∧ Row W g10 PH 35 ∧ Row W wB.heap.size PH 35 ∧ Turn no w7 W) := fun W T => by
        obtain ⟨a1, a2, a3⟩ := HW8.out W (HTC.out.then_no T)
        exact ⟨a1, a2, RC.turn T (fun q => q), a3⟩
      have iH7 : (Tryd.prog.info? 35).map (·.size) = some (h7.map bv).length := by rw [List.length_map, h7_len]; exact size35
      have HQ7 : Shut (∀ W, (Op.equalIn 10000 35 (.agg (h7.map bv).toArray) (.agg (h7.map bv).toArray)).run Tryd.prog W = .ok true W) := fun W => by
        rw [eqIn35 W h7 h7 h7_len h7_len]
        simp
      clear TBC TAC HTC RC tC tB HW8 HTA y0 y1 y2 hzv hp25 CR CP C25 C27
      generalize wB.heap.size = g14 at *
      have hpe : (PE != PE) = false := by simp
      have hve : (VE != VE) = false := by simp
      have hpq : (PE == PE) = true := by simp
      have hwn : IntKind.i64.wrap ((n : Int) + 1) = ((n + 1 : Nat) : Int) := by rw [IntKind.wrap_i64]; omega
      have hwn' : IntKind.i64.wrap ((n : Int) + 1) = (n : Int) + 1 := by rw [hwn]; omega
      refine wp_region_held_drew (S := fun W => Turn no wC W) (by kernel_rfl) (Turn.refl no wC).drew (fun hHeld => ?_)
      refine' wpAnyH_take (i := 0) (v := .agg PH) rfl (by kernel_rfl) (by kernel_rfl) (by kernel_rfl) (fun _ _ _ h => h) (yieldsIf_load_mid (by kernel_rfl) 35 (.tmp 10) rfl g10 0 (by kernel_rfl) PH.toList _ (fun W h => (HWC.out W h).2.1.rng) Tryd.underlying35 rfl iPl) hHeld ?m0
      refine' wpAnyH_take (i := 1) (v := .agg PH) rfl (by kernel_rfl) (by kernel_rfl) (by kernel_rfl) (fun _ _ _ h => h) (yieldsIf_load_mid (by kernel_rfl) 35 (.tmp 14) rfl g14 0 (by kernel_rfl) PH.toList _ (fun W h => (HWC.out W h).2.2.1.rng) Tryd.underlying35 rfl iPl) hHeld ?m1
      refine' wpAnyH_take (i := 2) (v := .bool false) rfl (by kernel_rfl) (by kernel_rfl) (by kernel_rfl) (fun _ _ _ h => h) (Or.inl ⟨by kernel_rfl, fun W hW => ?y35⟩) hHeld ?r35
      · have e := HQP.out
        go_simp
      refine' wpAnyH_take (i := 3) (v := .bool false) rfl (by kernel_rfl) (by kernel_rfl) (by kernel_rfl) (fun _ _ _ h => h) (Or.inl ⟨by kernel_rfl, fun W hW => ?y36⟩) hHeld ?r36
      · go_simp
      refine' wpAnyH_take (i := 4) (v := .int .i64 PE) rfl (by kernel_rfl) (by kernel_rfl) (by kernel_rfl) (fun _ _ _ h => h) (Or.inl ⟨by kernel_rfl, fun W hW => ?y37⟩) hHeld ?r37
      · go_simp
      refine' wpAnyH_take (i := 5) (v := .int .i64 PE) rfl (by kernel_rfl) (by kernel_rfl) (by kernel_rfl) (fun _ _ _ h => h) (Or.inl ⟨by kernel_rfl, fun W hW => ?y38⟩) hHeld ?r38
      · go_simp
      refine' wpAnyH_take (i := 6) (v := .bool false) rfl (by kernel_rfl) (by kernel_rfl) (by kernel_rfl) (fun _ _ _ h => h) (Or.inl ⟨by kernel_rfl, fun W hW => ?y39⟩) hHeld ?r39
      · go_simp
      refine' wpAnyH_take (i := 7) (v := .bool false) rfl (by kernel_rfl) (by kernel_rfl) (by kernel_rfl) (fun _ _ _ h => h) (Or.inl ⟨by kernel_rfl, fun W hW => ?y40⟩) hHeld ?r40
      · go_simp
      refine' wpAnyH_take (i := 8) (v := .bool false) rfl (by kernel_rfl) (by kernel_rfl) (by kernel_rfl) (fun _ _ _ h => h) (Or.inl ⟨by kernel_rfl, fun W hW => ?y41⟩) hHeld ?r41
      · go_simp
      refine' wpAnyH_take (i := 9) (v := .int .i64 VE) rfl (by kernel_rfl) (by kernel_rfl) (by kernel_rfl) (fun _ _ _ h => h) (Or.inl ⟨by kernel_rfl, fun W hW => ?y42⟩) hHeld ?r42
      · go_simp
      refine' wpAnyH_take (i := 10) (v := .agg RT) rfl (by kernel_rfl) (by kernel_rfl) (by kernel_rfl) (fun _ _ _ h => h) (yieldsIf_load_mid (by kernel_rfl) 35 (.tmp 3) rfl w.heap.size 0 (by kernel_rfl) RT.toList _ (fun W h => (HWC.out W h).1.1.rng) Tryd.underlying35 rfl iRl) hHeld ?m2
      refine' wpAnyH_take (i := 11) (v := .agg #[.int .i64 t, .int .i64 i, .slice a n cap]) rfl (by kernel_rfl) (by kernel_rfl) (by kernel_rfl) (fun _ _ _ h => h) (Or.inl ⟨by kernel_rfl, fun W hW => ?y43⟩) hHeld ?r43
      · have y0 := Row.cell (HWC.out W hW).1.2.1 0 _ rfl
        have y1 := Row.cell (HWC.out W hW).1.2.1 1 _ rfl
        have y2 := Row.cell (HWC.out W hW).1.2.1 2 _ rfl
        go_simp
      refine' wpAnyH_take (i := 12) (v := .slice xa m xc) rfl (by kernel_rfl) (by kernel_rfl) (by kernel_rfl) (fun _ _ _ h => h) (Or.inl ⟨by kernel_rfl, fun W hW => ?y44⟩) hHeld ?r44
      · go_simp
      refine wpAnyH_ready (rs := [13]) (by kernel_rfl) (by simp) ?_
      refine AllReadyH.cons rfl (fun K hK => ?_) AllReadyH.nil
      go_simp
      refine (C28.out _ (HWC.out _ hHeld).2.2.2).mono ?_
      rintro e wD ⟨rfl, tD⟩
      refine hK.out _ _ (hHeld.then_no tD) (fun hHeld => ?_)
      clear hK
      refine' wpAnyH_take (i := 14) (v := .bool false) rfl (by kernel_rfl) (by kernel_rfl) (by kernel_rfl) (fun _ _ _ h => h) (Or.inl ⟨by kernel_rfl, fun W hW => ?y45⟩) hHeld ?r45
      · go_simp
      refine' wpAnyH_take (i := 15) (v := .bool false) rfl (by kernel_rfl) (by kernel_rfl) (by kernel_rfl) (fun _ _ _ h => h) (Or.inl ⟨by kernel_rfl, fun W hW => ?y46⟩) hHeld ?r46
      · go_simp
      refine' wpAnyH_take (i := 16) (v := .bool false) rfl (by kernel_rfl) (by kernel_rfl) (by kernel_rfl) (fun _ _ _ h => h) (Or.inl ⟨by kernel_rfl, fun W hW => ?y47⟩) hHeld ?r47
      · go_simp
      refine' wpAnyH_take (i := 17) (v := .agg #[.int .i64 t, .int .i64 i, .slice a n cap]) rfl (by kernel_rfl) (by kernel_rfl) (by kernel_rfl) (fun _ _ _ h => h) (Or.inl ⟨by kernel_rfl, fun W hW => ?y48⟩) hHeld ?r48
      · have y0 := Row.cell (HWC.out W hW).1.2.1 0 _ rfl
        have y1 := Row.cell (HWC.out W hW).1.2.1 1 _ rfl
        have y2 := Row.cell (HWC.out W hW).1.2.1 2 _ rfl
        go_simp
      refine' wpAnyH_take (i := 18) (v := .agg #[.int .i64 t, .int .i64 i, .slice (some ⟨g2, 0, none⟩) n c2]) rfl (by kernel_rfl) (by kernel_rfl) (by kernel_rfl) (fun _ _ _ h => h) (Or.inl ⟨by kernel_rfl, fun W hW => ?y49⟩) hHeld ?r49
      · have y0 := Row.cell (HWC.out W hW).1.2.2 0 _ rfl
        have y1 := Row.cell (HWC.out W hW).1.2.2 1 _ rfl
        have y2 := Row.cell (HWC.out W hW).1.2.2 2 _ rfl
        go_simp
      refine wpAnyH_ready (rs := [19]) (by kernel_rfl) (by simp) ?_
      refine AllReadyH.cons rfl (fun K hK => ?_) AllReadyH.nil
      go_simp
      refine (C24.out _ (HWC.out _ hHeld).2.2.2).mono ?_
      rintro e wE ⟨rfl, tE⟩
      refine hK.out _ _ (hHeld.then_no tE) (fun hHeld => ?_)
      clear hK
      refine' wpAnyH_take (i := 20) (v := .bool false) rfl (by kernel_rfl) (by kernel_rfl) (by kernel_rfl) (fun _ _ _ h => h) (Or.inl ⟨by kernel_rfl, fun W hW => ?y50⟩) hHeld ?r50
      · go_simp
      refine' wpAnyH_take (i := 21) (v := .bool false) rfl (by kernel_rfl) (by kernel_rfl) (by kernel_rfl) (fun _ _ _ h => h) (Or.inl ⟨by kernel_rfl, fun W hW => ?y51⟩) hHeld ?r51
      · go_simp
      refine' wpAnyH_take (i := 22) (v := .bool false) rfl (by kernel_rfl) (by kernel_rfl) (by kernel_rfl) (fun _ _ _ h => h) (Or.inl ⟨by kernel_rfl, fun W hW => ?y52⟩) hHeld ?r52
      · go_simp
      refine' wpAnyH_take (i := 23) (v := .slice (some ⟨fb, fo, none⟩) (m + 2) fc) rfl (by kernel_rfl) (by kernel_rfl) (by kernel_rfl) (fun _ _ _ h => h) (Or.inl ⟨by kernel_rfl, fun W hW => ?y53⟩) hHeld ?r53
      · go_simp
      refine' wpAnyH_take (i := 24) (v := .slice xa m xc) rfl (by kernel_rfl) (by kernel_rfl) (by kernel_rfl) (fun _ _ _ h => h) (Or.inl ⟨by kernel_rfl, fun W hW => ?y54⟩) hHeld ?r54
      · go_simp
      refine wpAnyH_ready (rs := [25]) (by kernel_rfl) (by simp) ?_
      refine AllReadyH.cons rfl (fun K hK => ?_) AllReadyH.nil
      go_simp
      refine (C17.out _ (HWC.out _ hHeld).2.2.2).mono ?_
      rintro e wF ⟨rfl, nF, rfl⟩
      refine hK.out _ _ (hHeld.drewN nF) (fun hHeld => ?_)
      clear hK
      refine' wpAnyH_take (i := 26) (v := .bool false) rfl (by kernel_rfl) (by kernel_rfl) (by kernel_rfl) (fun _ _ _ h => h) (Or.inl ⟨by kernel_rfl, fun W hW => ?y55⟩) hHeld ?r55
      · go_simp
      refine' wpAnyH_take (i := 27) (v := .bool false) rfl (by kernel_rfl) (by kernel_rfl) (by kernel_rfl) (fun _ _ _ h => h) (Or.inl ⟨by kernel_rfl, fun W hW => ?y56⟩) hHeld ?r56
      · go_simp
      refine' wpAnyH_take (i := 28) (v := .bool false) rfl (by kernel_rfl) (by kernel_rfl) (by kernel_rfl) (fun _ _ _ h => h) (Or.inl ⟨by kernel_rfl, fun W hW => ?y57⟩) hHeld ?r57
      · go_simp
      refine' wpAnyH_take (i := 29) (v := .pointer (some ⟨gq, 2, none⟩)) rfl (by kernel_rfl) (by kernel_rfl) (by kernel_rfl) (fun _ _ _ h => h) (Or.inl ⟨by kernel_rfl, fun W hW => ?y58⟩) hHeld ?r58
      · go_simp
      refine' wpAnyH_take (i := 30) (v := .slice (some ⟨g2, 0, none⟩) n c2) rfl (by kernel_rfl) (by kernel_rfl) (by kernel_rfl) (fun _ _ _ h => h) (Or.inl ⟨by kernel_rfl, fun W hW => ?y59⟩) hHeld ?r59
      · have y2 := Row.cell (HWC.out W hW).1.2.2 2 _ rfl
        go_simp
      refine' wpAnyH_take (i := 31) (v := .pointer (some ⟨w.heap.size + 1, 2, none⟩)) rfl (by kernel_rfl) (by kernel_rfl) (by kernel_rfl) (fun _ _ _ h => h) (Or.inl ⟨by kernel_rfl, fun W hW => ?y60⟩) hHeld ?r60
      · go_simp
      refine' wpAnyH_take (i := 32) (v := .slice a n cap) rfl (by kernel_rfl) (by kernel_rfl) (by kernel_rfl) (fun _ _ _ h => h) (Or.inl ⟨by kernel_rfl, fun W hW => ?y61⟩) hHeld ?r61
      · have y2 := Row.cell (HWC.out W hW).1.2.1 2 _ rfl
        go_simp
      refine' wpAnyH_take (i := 33) (v := .int .i64 n) rfl (by kernel_rfl) (by kernel_rfl) (by kernel_rfl) (fun _ _ _ h => h) (Or.inl ⟨by kernel_rfl, fun W hW => ?y62⟩) hHeld ?r62
      · go_simp
      refine' wpAnyH_take (i := 34) (v := .int .i64 (n + 1)) rfl (by kernel_rfl) (by kernel_rfl) (by kernel_rfl) (fun _ _ _ h => h) (Or.inl ⟨by kernel_rfl, fun W hW => ?y63⟩) hHeld ?r63
      · go_simp
      refine' wpAnyH_take (i := 35) (v := .slice (some ⟨g2, 0, none⟩) (n + 1) c2) rfl (by kernel_rfl) (by kernel_rfl) (by kernel_rfl) (fun _ _ _ h => h) (Or.inl ⟨by kernel_rfl, fun W hW => ?y64⟩) hHeld ?r64
      · go_simp
        intro q
        have := q (by omega)
        omega
      refine' wpAnyH_take (i := 36) (v := .pointer (some ⟨w.heap.size + 1, 2, none⟩)) rfl (by kernel_rfl) (by kernel_rfl) (by kernel_rfl) (fun _ _ _ h => h) (Or.inl ⟨by kernel_rfl, fun W hW => ?y65⟩) hHeld ?r65
      · go_simp
      refine' wpAnyH_take (i := 37) (v := .slice a n cap) rfl (by kernel_rfl) (by kernel_rfl) (by kernel_rfl) (fun _ _ _ h => h) (Or.inl ⟨by kernel_rfl, fun W hW => ?y66⟩) hHeld ?r66
      · have y2 := Row.cell (HWC.out W hW).1.2.1 2 _ rfl
        go_simp
      refine' wpAnyH_take (i := 38) (v := .int .i64 n) rfl (by kernel_rfl) (by kernel_rfl) (by kernel_rfl) (fun _ _ _ h => h) (Or.inl ⟨by kernel_rfl, fun W hW => ?y67⟩) hHeld ?r67
      · go_simp
      refine' wpAnyH_take (i := 39) (v := .pointer (some ⟨g2, n * 32, none⟩)) rfl (by kernel_rfl) (by kernel_rfl) (by kernel_rfl) (fun _ _ _ h => h) (Or.inl ⟨by kernel_rfl, fun W hW => ?y68⟩) hHeld ?r68
      · go_simp
        intro q
        omega
      refine' wpAnyH_take (i := 40) (v := .agg (h7.map bv).toArray) rfl (by kernel_rfl) (by kernel_rfl) (by kernel_rfl) (fun _ _ _ h => h) (yieldsIf_load_mid (by kernel_rfl) 35 (.tmp 104) rfl g2 (n * 32) (by kernel_rfl) (h7.map bv) _ (fun W h => H7.out W (HWC.out W h).2.2.2) Tryd.underlying35 rfl iH7) hHeld ?m3
      refine' wpAnyH_take (i := 41) (v := .agg (h7.map bv).toArray) rfl (by kernel_rfl) (by kernel_rfl) (by kernel_rfl) (fun _ _ _ h => h) (Or.inl ⟨by kernel_rfl, fun W hW => ?y69⟩) hHeld ?r69
      · go_simp
        rfl
      refine' wpAnyH_take (i := 42) (v := .bool false) rfl (by kernel_rfl) (by kernel_rfl) (by kernel_rfl) (fun _ _ _ h => h) (Or.inl ⟨by kernel_rfl, fun W hW => ?y70⟩) hHeld ?r70
      · have e := HQ7.out
        go_simp
      refine' wpAnyH_take (i := 43) (v := .bool false) rfl (by kernel_rfl) (by kernel_rfl) (by kernel_rfl) (fun _ _ _ h => h) (Or.inl ⟨by kernel_rfl, fun W hW => ?y71⟩) hHeld ?r71
      · go_simp
      refine wpAnyH_done (by kernel_rfl) ?_ _
      go_simp
      have HN2 := shut hHeld
      clear hHeld
      go_wp2_with fail
      go_ret
      exact ⟨rfl, (HW7.out _ (HWC.out _ HN2.out).2.2.2).2.2.2.2.2.2.2.2.2⟩
end Go.Proofs.YtnibmkenbidnfaaDoor
