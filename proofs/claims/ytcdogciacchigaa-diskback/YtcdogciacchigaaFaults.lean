/- DiskFaults: the walk. -/
import Derived.Test.YtcdogciacchigaaQ1
namespace Go.Proofs.Ytcdogciacchigaa
open Go.RowKit Go.Maps
set_option linter.unusedVariables false

theorem Ox.mono {B B' : Nat} {w : World} {o : Opx} (h : Ox B w o) (hB : B ≤ B') : Ox B' w o := ⟨h.nm, h.data, h.keep, fun a g hg => Nat.lt_of_lt_of_le (h.dold a g hg) hB, fun a g hg => Nat.lt_of_lt_of_le (h.kold a g hg) hB⟩
theorem Sc.mono {B B' : Nat} {w : World} {v : Value} {l : List Opx} (h : Sc B w v l) (hB : B ≤ B') : Sc B' w v l := by
  obtain ⟨a, cap, e, h1, h2, h3, h4⟩ := h
  refine ⟨a, cap, e, h1, h2, fun o ho => (h3 o ho).mono hB, fun j o hj => ?_⟩
  obtain ⟨b, off, ea, hb, hc⟩ := h4 j o hj
  exact ⟨b, off, ea, by omega, hc⟩
theorem Sc.turn_no {B : Nat} {w w' : World} {v : Value} {l : List Opx} (h : Sc B w v l) (t : Turn no w w') : Sc B w' v l := h.turn t.of_no

set_option maxRecDepth 100000 in
set_option maxHeartbeats 16000000 in
theorem faults_any (w : World) (m : Mx) (ma : Option Addr) (mcap : Nat) (hm : Fs w.heap.size w ma mcap m.l) (v1 v2 : Value) (l1 l2 : List Opx) (h1 : Sc w.heap.size w v1 l1) (h2 : Sc w.heap.size w v2 l2) (hl1 : l1.length ≤ 1000000000000000) (hl2 : l2.length ≤ 1000000000000000) (o : Opx) (ho : Ox w.heap.size w o) :
    Calls Try.prog 6 #[.agg (mxC m ma mcap), v1, .agg (opC o), v2] w fun e w' => e = .returned (.bool true) ∧ Turn no w w' := by
  obtain ⟨va, vn, vc, ka, kn, kc, ev, ek⟩ := ho.shapes
  rw [opX_eq ev ek]
  obtain ⟨a1, c1, rfl, _⟩ := h1.slice
  obtain ⟨a2, c2, rfl, _⟩ := h2.slice
  obtain ⟨W2, hW2⟩ : ∃ W2, W2 = (w.alloc (.cells (mxC m ma mcap) 52)).alloc (.cells #[.int .i64 o.kind, .int .i64 o.who, .string ⟨o.nm.toArray⟩, .slice va vn vc, .int .i64 o.n, .int .i64 o.t.when, .int .i64 o.t.kind, .bool o.t.done, .slice ka kn kc, .int .u8 o.junk.toNat] 44) := ⟨_, rfl⟩
  have T2 : Turn no w W2 := by rw [hW2]; exact ((Turn.refl no w).alloc _).alloc _
  have RM : Row W2 w.heap.size (mxC m ma mcap) 52 := by rw [hW2]; exact (Row.new w _ 52).alloc _
  have RO : Row W2 (w.heap.size + 1) #[.int .i64 o.kind, .int .i64 o.who, .string ⟨o.nm.toArray⟩, .slice va vn vc, .int .i64 o.n, .int .i64 o.t.when, .int .i64 o.t.kind, .bool o.t.done, .slice ka kn kc, .int .u8 o.junk.toNat] 44 := by rw [hW2]; exact Row.newAt _ _ 44 _ (by simp)
  obtain ⟨B, hB⟩ : ∃ B, B = W2.heap.size := ⟨_, rfl⟩
  have hBw : B = w.heap.size + 2 := by rw [hB, hW2]; simp
  have s1 := (h1.turn_no T2).mono (show w.heap.size ≤ B by omega)
  have s2 := (h2.turn_no T2).mono (show w.heap.size ≤ B by omega)
  have oB := (ho.turn_no T2).mono (show w.heap.size ≤ B by omega)
  have hAt : OpAt W2 (w.heap.size + 1) 0 o va vn vc ka kn kc := OpAt.of ev ek (fun i u hu => by
    rw [Nat.zero_add]
    refine RO.cell i u ?_
    have : opC o = #[.int .i64 o.kind, .int .i64 o.who, .string ⟨o.nm.toArray⟩, .slice va vn vc, .int .i64 o.n, .int .i64 o.t.when, .int .i64 o.t.kind, .bool o.t.done, .slice ka kn kc, .int .u8 o.junk.toNat] := by
      unfold opC strV
      rw [ev, ek]
    rw [← this]
    exact hu)
  have hlv := fun W (t : Turn no W2 W) => lives17 w.heap.size W (by have := T2.size; have := t.size; omega) m ma mcap (hm.turn_no (T2.then_no t))
  have HLV := shut hlv
  obtain ⟨lc, ln, lm⟩ := live_calm m
  have hz := shut num10
  have m0 := RM.cell 0 _ rfl
  have m1 := RM.cell 1 _ rfl
  have m2 := RM.cell 2 _ rfl
  have hmk : ∀ W, Turn no W2 W → W.cell? ⟨w.heap.size, 0, none⟩ = some (.int .i64 m.lim) ∧ W.cell? ⟨w.heap.size, 1, none⟩ = some (.bool m.mt) ∧ W.cell? ⟨w.heap.size, 2, none⟩ = some (.slice ma m.l.length mcap) := fun W t => ⟨t.keep m0 (fun q => q), t.keep m1 (fun q => q), t.keep m2 (fun q => q)⟩
  have HMK := shut hmk
  have S1 := shut s1
  have S2 := shut s2
  have OB := shut oB
  have HAT := shut hAt
  have HB := shut hB
  have HBW := shut hBw
  generalize hs0 : liveS m = s0 at *
  clear hlv hmk s1 s2 oB hAt hB hBw h1 h2 hm ho RM RO ev ek
  have hv1 := HLV.out W2 (Turn.refl _ _)
  unfold mxC opX at *
  go_enter Try.func6, Try.ntmps6
  go_wp2_with fail
  try rw [← hW2]
  refine hv1.mono ?_
  rintro e w3 ⟨p, rfl, KA, hpq, hDA, hKA, t3⟩
  obtain ⟨b0, b1, b2⟩ := HMK.out w3 t3
  have hv2 := HLV.out w3 t3
  have hlt3 : ∀ x, KA x → x < w3.heap.size := by
    obtain ⟨_, _, _, hd⟩ := hDA
    exact hd.klt
  unfold ptr at hv2
  clear hv1
  go_wp2_with fail
  refine hv2.mono ?_
  rintro e w4 ⟨q, rfl, KB, hqq, hDB, hKB, t4⟩
  have t34 := t3.then_no t4
  have hTwo : Two B w4 p q s0 s0 := ⟨KA, KB, hDA.turn_no t4, hDB, (fun k x y => by have := hlt3 k x; have := hKB k y; omega), (fun k x => by have := hKA k x; have := HB.out; omega), (fun k x => by have := hKB k x; have := t3.size; have := HB.out; omega)⟩
  have S14 := shut (S1.out.turn_no t34)
  have S24 := shut (S2.out.turn_no t34)
  have OB4 := shut (OB.out.turn_no t34)
  have HAT4 := shut (HAT.out.turn t34 (fun q => q))
  have T4 := T2.then_no t34
  have hB4 : B ≤ w4.heap.size := by have := t34.size; have := HB.out; omega
  have HTW := shut hTwo
  clear hv2 hDA hDB hKA hKB hlt3 hTwo hpq hqq S1 S2 OB HAT HMK HLV t3 t4 t34 T2 m0 m1 m2 b0 b1 b2 hW2 HB
  go_wp2_with fail
  go_loopw [13] (fun x wr => ∃ (i : Nat) (s : St), i ≤ l1.length ∧ x = .int .i64 i ∧ Shut (Two B wr p q s s) ∧ Calm s ∧ s.n ≤ i ∧ s.m = 0 ∧ Turn (old B) w4 wr) (fun x _ => l1.length - (intOf x).toNat)
  case atStart => exact ⟨0, s0, Nat.zero_le _, rfl, HTW, lc, by omega, lm, Turn.refl _ _⟩
  case round =>
    clear HTW
    obtain ⟨i, s, hi, rfl, hT, hC, hn, hm0, T⟩ := hrel
    have hBr : B ≤ wr.heap.size := by have := T.size; omega
    by_cases hlt : i < l1.length
    · have hlt' : (i : Int) < (l1.length : Int) := by omega
      obtain ⟨x, hx⟩ : ∃ x, l1[i]? = some x := ⟨l1[i], List.getElem?_eq_getElem hlt⟩
      obtain ⟨bb, off, xa, xn, xc, ya, yn, yc, ea, hb, hO, hA⟩ := (S14.out.turn T).at i x hx
      subst ea
      obtain ⟨_, _, d0, d1, d2, d3, d4, d5, d6, d7, d8, d9⟩ := id hA
      by_cases h11 : x.kind = 11
      · have h11' : (x.kind != 11) = false := by simp [h11]
        clear hA hO
        go_wp2_with fail
        go_roundw
        case rel => exact ⟨i + 1, s, by omega, by go_num, hT, hC, by omega, hm0, T⟩
        case measure => simp [intOf]; omega
      · have h11' : (x.kind != 11) = true := by simp [h11]
        have hsim : Sim s s := ⟨hC, hC, rfl, rfl⟩
        obtain ⟨_, hs2, hs3, _, hs5, _⟩ := sim_do hsim x h11
        have hd1 := hT.out.does1 hBr (by omega) (by omega) hO hA.vd hA.vk
        have H2 : Shut (∀ W, Turn (old B) wr W → Two B W p q (doS s x).1 s → OpAt W bb (off + i * 10) x xa xn xc ya yn yc ∧ Calls Try.prog 18 #[ptr q, opX x xa xn xc ya yn yc] W fun e w' => e = .returned (.int .i64 (doS s x).2) ∧ Two B w' p q (doS s x).1 (doS s x).1 ∧ Turn (old B) W w') := fun W t hW =>
          ⟨hA.turn t (fun q => by have : B ≤ bb := q; omega), hW.does2 (by have := t.size; omega) (by omega) (by omega) (hO.turn t (fun k hk => hk)) hA.vd hA.vk⟩
        have HC2 := shut hs2.a
        clear hA hO hsim hs2
        unfold opX ptr at *
        generalize (doS s x).2 = E at *
        go_wp2_with fail
        refine hd1.mono ?_
        rintro e w5 ⟨rfl, hT5, t5⟩
        obtain ⟨hA5, hd2⟩ := H2.out w5 t5 hT5
        obtain ⟨_, _, g0, g1, g2, g3, g4, g5, g6, g7, g8, g9⟩ := hA5
        have HT5 := shut hT5
        clear hd1 H2 hT5
        go_wp2_with fail
        refine hd2.mono ?_
        rintro e w6 ⟨rfl, hT6, t6⟩
        have HT6 := shut hT6
        have TT := (T.trans t5 (fun _ _ q => q)).trans t6 (fun _ _ q => q)
        clear hd2 hT6 HT5
        go_wp2_with fail
        go_roundw
        case rel => exact ⟨i + 1, (doS s x).1, by omega, by go_num, HT6, HC2.out, by omega, by omega, TT⟩
        case measure => simp [intOf]; omega
    · have hlt' : ¬ (i : Int) < (l1.length : Int) := by omega
      have hcl := hT.out.calls.1
      have hal := hT.out.alike rfl rfl
      have hsn : s.n ≤ 1000000000000000 := by omega
      unfold ptr at hcl hal
      go_wp2_with fail
      refine hcl.mono ?_
      rintro e w5 ⟨rfl, rfl⟩
      go_wp2_with fail
      refine hal.mono ?_
      rintro e w6 ⟨rfl, t6⟩
      have har := (hT.out.turn_no t6).arm1 (by have := t6.size; omega) (by omega) (by omega) faultT
      rw [arm_calm hC] at har
      unfold ptr trV faultT at har
      clear hcl hal
      go_wp2_with fail
      refine har.mono ?_
      rintro e w7 ⟨rfl, hT7, t7⟩
      have hz7 := hz.out w7 0
      have TT7 : Turn (old B) w4 w7 := (T.then_no t6).trans t7 (fun _ _ q => q)
      have hB7 : B ≤ w7.heap.size := by have := TT7.size; omega
      have hA7 := HAT4.out.turn TT7 (fun q => by have : B ≤ w.heap.size + 1 := q; have := HBW.out; omega)
      have hO7 := OB4.out.turn TT7 (fun k hk => hk)
      have HT7 : Shut (Two B w7 p q (armS s faultT).1 s) := by
        show Two B w7 p q (armS s faultT).1 s
        rw [arm_calm hC]
        exact hT7
      have TF7 : Shut (Turn no w w7) := T4.trans TT7 (fun k hk q => by have : B ≤ k := q; have := HBW.out; omega)
      clear har hT7
      go_wp2_with fail
      refine hz7.mono ?_
      rintro e w8 ⟨rfl, rfl⟩
      obtain ⟨_, _, d0, d1, d2, d3, d4, d5, d6, d7, d8, d9⟩ := id hA7
      simp only [Nat.zero_add] at d0 d1 d2 d3 d4 d5 d6 d7 d8 d9
      by_cases hkk : 1 ≤ o.kind ∧ o.kind ≤ 5
      · have k1 : decide (1 ≤ o.kind) = true := by simp; omega
        have k2 : decide (o.kind ≤ 5) = true := by simp; omega
        have hd1 := HT7.out.does1 hB7 (by rw [arm_calm hC]; simp only; omega) (by rw [arm_calm hC]; simp only; omega) hO7 hA7.vd hA7.vk
        have HO7 := shut hO7
        have HA7 := shut hA7
        clear hO7 hA7
        rcases fault_do hC o hkk with ⟨hp, e1, e2⟩ | ⟨hp, e1⟩
        · obtain ⟨r1, r2⟩ := plan_refused s o hkk hp
          rw [e1] at hd1
          have r1' : ((planS s o).2 != 0) = true := by simpa using r1
          have r2' : ((planS s o).2 != 64) = true := by simpa using r2
          have H2 : Shut (∀ W, Turn (old B) w8 W → Two B W p q (armS s faultT).1 s → OpAt W (w.heap.size + 1) 0 o va vn vc ka kn kc ∧ (Calls Try.prog 18 #[ptr q, opX o va vn vc ka kn kc] W fun e w' => e = .returned (.int .i64 (planS s o).2) ∧ Two B w' p q (armS s faultT).1 s ∧ Turn (old B) W w')) := fun W t hW => by
            refine ⟨HA7.out.turn t (fun q => by have : B ≤ w.heap.size + 1 := q; have := HBW.out; omega), ?_⟩
            have := hW.does2 (by have := t.size; omega) (by omega) (by omega) (HO7.out.turn t (fun k hk => hk)) HA7.out.vd HA7.out.vk
            rw [e2] at this
            exact this
          have htl : Shut (tellL s = tellL (armS s faultT).1 ∧ s.off = (armS s faultT).1.off) := by
            show _ ∧ _
            rw [arm_calm hC]
            exact ⟨rfl, rfl⟩
          have hn2 : (armS s faultT).1.n = s.n := by rw [arm_calm hC]
          generalize (planS s o).2 = E at *
          have HH := shut e1
          clear e1 e2 hp r1 r2
          unfold ptr opX at *
          go_wp2_with fail
          refine hd1.mono ?_
          rintro e w9 ⟨rfl, hT9, t9⟩
          have hcl9 := hT9.calls.1
          rw [hn2] at hcl9
          obtain ⟨hA9, hd9⟩ := H2.out w9 t9 hT9
          obtain ⟨_, _, g0, g1, g2, g3, g4, g5, g6, g7, g8, g9⟩ := hA9
          simp only [Nat.zero_add] at g0 g1 g2 g3 g4 g5 g6 g7 g8 g9
          unfold ptr at hcl9
          have HT9 := shut hT9
          clear hd1 hT9 H2
          go_wp2_with fail
          refine hcl9.mono ?_
          rintro e w10 ⟨rfl, rfl⟩
          clear hcl9
          go_wp2_with fail
          refine hd9.mono ?_
          rintro e w11 ⟨rfl, hT11, t11⟩
          have hzz := hz.out w11 E
          have hal := hT11.alike htl.out.1 htl.out.2
          unfold ptr at hal
          have TF : Shut (∀ W, Turn no w11 W → Turn no w W) := fun W t => ((TF7.out.trans (t9.trans t11 (fun _ _ q => q)) (fun k hk q => by have : B ≤ k := q; have := HBW.out; omega))).then_no t
          clear hd9 hT11
          go_wp2_with fail
          refine hzz.mono ?_
          rintro e w12 ⟨rfl, rfl⟩
          go_wp2_with fail
          refine hzz.mono ?_
          rintro e w12 ⟨rfl, rfl⟩
          go_wp2_with fail
          refine hzz.mono ?_
          rintro e w12 ⟨rfl, rfl⟩
          go_wp2_with fail
          refine hzz.mono ?_
          rintro e w12 ⟨rfl, rfl⟩
          go_wp2_with fail
          refine hal.mono ?_
          rintro e w13 ⟨rfl, t13⟩
          go_wp2_with fail
          go_ret
          exact ⟨rfl, TF.out _ t13⟩
        · rw [e1] at hd1
          unfold ptr opX at hd1
          go_wp2_with fail
          refine hd1.mono ?_
          rintro e w9 ⟨rfl, hT9, t9⟩
          obtain ⟨cA, cB⟩ := hT9.calls
          unfold ptr at cA cB
          simp only at cA
          have hz9 := hz.out w9 64
          have HT9 := shut hT9
          have hne : (((s.n + 1 : Nat) : Int) == (s.n : Int)) = false := by simp; omega
          have TT9 : Turn (old B) w4 w9 := TT7.trans t9 (fun _ _ q => q)
          clear hd1 hT9
          have hw1 : IntKind.i64.wrap ((s.n : Int) + 1) = ((s.n + 1 : Nat) : Int) := by rw [wrap_i64 (by omega) (by omega)]; omega
          have hw2 : (s.n : Int) + 1 = ((s.n + 1 : Nat) : Int) := by omega
          have hSim : Sim { s with n := s.n + 1, m := s.m + 1 } s := ⟨⟨hC.arms, hC.off, hC.out⟩, hC, rfl, rfl⟩
          obtain ⟨sA, hsA⟩ : ∃ sA : St, sA = { s with n := s.n + 1, m := s.m + 1 } := ⟨_, rfl⟩
          have hsAn : sA.n ≤ s.n + 1 := by rw [hsA]; exact Nat.le_refl _
          have hsAm : sA.m = 1 := by rw [hsA]; simp only; omega
          rw [← hsA] at hSim
          have HT9' : Shut (Two B w9 p q sA s) := by rw [hsA]; exact HT9
          generalize hN1 : s.n + 1 = N1 at *
          have HN1 := shut hN1
          clear hN1 HT9 hsA hw2
          go_wp2_with fail
          refine cA.mono ?_
          rintro e w10 ⟨rfl, rfl⟩
          go_wp2_with fail
          refine hz9.mono ?_
          rintro e w10 ⟨rfl, rfl⟩
          go_wp2_with fail
          refine cA.mono ?_
          rintro e w10 ⟨rfl, rfl⟩
          go_wp2_with fail
          refine cB.mono ?_
          rintro e w10 ⟨rfl, rfl⟩
          clear cA cB hz9
          go_wp2_with fail
          have S29 := shut (S24.out.turn TT9)
          clear d0 d1 d2 d3 d4 d5 d6 d7 d8 d9
          go_loopw [17] (fun x wr => ∃ (j : Nat) (sa sb : St), j ≤ l2.length ∧ x = .int .i64 j ∧ Shut (Two B wr p q sa sb) ∧ Sim sa sb ∧ sa.n ≤ 1000000000000001 + j ∧ sb.n ≤ 1000000000000000 + j ∧ sa.m = 1 ∧ sb.m = 0 ∧ Turn (old B) w10 wr) (fun x _ => l2.length - (intOf x).toNat)
          case atStart => exact ⟨0, sA, s, Nat.zero_le _, rfl, HT9', hSim, by have := HN1.out; omega, by omega, hsAm, hm0, Turn.refl _ _⟩
          case round =>
            clear HT9' hSim hsAn hsAm
            obtain ⟨j, sa, sb, hj, rfl, hT2, hS2, hna, hnb, hma, hmb, T2'⟩ := hrel
            have hBr2 : B ≤ wr.heap.size := by have := T2'.size; have := TT9.size; omega
            by_cases hlt2 : j < l2.length
            · have hlt2' : (j : Int) < (l2.length : Int) := by omega
              obtain ⟨x, hx⟩ : ∃ x, l2[j]? = some x := ⟨l2[j], List.getElem?_eq_getElem hlt2⟩
              obtain ⟨bb, off, xa, xn, xc, ya, yn, yc, ea, hb, hO, hA⟩ := (S29.out.turn T2').at j x hx
              subst ea
              obtain ⟨_, _, d0, d1, d2, d3, d4, d5, d6, d7, d8, d9⟩ := id hA
              by_cases h11 : x.kind = 11
              · have h11' : (x.kind == 11) = true := by simp [h11]
                clear hA hO
                go_wp2_with fail
                go_roundw
                case rel => exact ⟨j + 1, sa, sb, by omega, by go_num, hT2, hS2, by omega, by omega, hma, hmb, T2'⟩
                case measure => simp [intOf]; omega
              · have h11' : (x.kind == 11) = false := by simp [h11]
                obtain ⟨q1, q2, q3, q4, q5, q6⟩ := sim_do hS2 x h11
                have hd1 := hT2.out.does1 hBr2 (by omega) (by omega) hO hA.vd hA.vk
                have H2 : Shut (∀ W, Turn (old B) wr W → Two B W p q (doS sa x).1 sb → OpAt W bb (off + j * 10) x xa xn xc ya yn yc ∧ Calls Try.prog 18 #[ptr q, opX x xa xn xc ya yn yc] W fun e w' => e = .returned (.int .i64 (doS sa x).2) ∧ Two B w' p q (doS sa x).1 (doS sb x).1 ∧ Turn (old B) W w') := fun W t hW =>
                  ⟨hA.turn t (fun q => by have : B ≤ bb := q; omega), by
                    have := hW.does2 (by have := t.size; omega) (by omega) (by omega) (hO.turn t (fun k hk => hk)) hA.vd hA.vk
                    rw [q1] at this
                    exact this⟩
                have HS2 := shut q2
                clear hA hO q1 q2
                unfold opX ptr at *
                generalize (doS sa x).2 = E at *
                go_wp2_with fail
                refine hd1.mono ?_
                rintro e w11 ⟨rfl, hT5, t5⟩
                obtain ⟨hA5, hd2⟩ := H2.out w11 t5 hT5
                obtain ⟨_, _, g0, g1, g2, g3, g4, g5, g6, g7, g8, g9⟩ := hA5
                have HT5 := shut hT5
                clear hd1 H2 hT5
                go_wp2_with fail
                refine hd2.mono ?_
                rintro e w12 ⟨rfl, hT6, t6⟩
                have HT6 := shut hT6
                have hzE := hz.out w12 E
                have TT := (T2'.trans t5 (fun _ _ q => q)).trans t6 (fun _ _ q => q)
                clear hd2 hT6 HT5
                go_wp2_with fail
                refine hzE.mono ?_
                rintro e w13 ⟨rfl, rfl⟩
                go_wp2_with fail
                refine hzE.mono ?_
                rintro e w13 ⟨rfl, rfl⟩
                go_wp2_with fail
                go_roundw
                case rel => exact ⟨j + 1, (doS sa x).1, (doS sb x).1, by omega, by go_num, HT6, HS2.out, by omega, by omega, by omega, by omega, TT⟩
                case measure => simp [intOf]; omega
            · have hlt2' : ¬ (j : Int) < (l2.length : Int) := by omega
              have hal := hT2.out.alike hS2.tell (hS2.b.off.trans hS2.a.off.symm)
              unfold ptr at hal
              have TF : Shut (∀ W, Turn no wr W → Turn no w W) := fun W t => ((T4.trans (TT9.trans T2' (fun _ _ q => q)) (fun k hk q => by have : B ≤ k := q; have := HBW.out; omega))).then_no t
              go_wp2_with fail
              refine hal.mono ?_
              rintro e w11 ⟨rfl, t11⟩
              go_wp2_with fail
              go_ret
              exact ⟨rfl, TF.out _ t11⟩
      · have hk0 : decide (1 ≤ o.kind) = false ∨ (decide (1 ≤ o.kind) = true ∧ decide (o.kind ≤ 5) = false) := by
          by_cases q : 1 ≤ o.kind
          · right; exact ⟨by simpa using q, by simp; omega⟩
          · left; simpa using q
        have hal := HT7.out.alike (by rw [arm_calm hC]; rfl) (by rw [arm_calm hC])
        unfold ptr at hal
        clear hkk
        rcases hk0 with k1 | ⟨k1, k2⟩
        all_goals
          go_wp2_with fail
          refine hal.mono ?_
          rintro e w9 ⟨rfl, t9⟩
          go_wp2_with fail
          go_ret
          exact ⟨rfl, TF7.out.then_no t9⟩
end Go.Proofs.Ytcdogciacchigaa
