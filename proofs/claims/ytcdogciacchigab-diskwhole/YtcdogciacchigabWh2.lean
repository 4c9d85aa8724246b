/- DiskWhole: the walk. -/
import Derived.Test.YtcdogciacchigabWh1
import Derived.Test.YtcdogciacchigabFaults
namespace Go.Proofs.Ytcdogciacchigab
open Go.RowKit Go.Maps
set_option linter.unusedVariables false

theorem Two.low {B : Nat} {S : Nat → Prop} {w w' : World} {p q : Nat} {s s' : St} (h : Two B w p q s s') (t : Turn S w w') (hS : ∀ k, S k → k < B) : Two B w' p q s s' := by
  obtain ⟨K, K', h1, h2, h3, h4, h5⟩ := h
  exact ⟨K, K', h1.turn t (fun k hk q => by have := h4 k hk; have := hS k q; omega), h2.turn t (fun k hk q => by have := h5 k hk; have := hS k q; omega), h3, h4, h5⟩
theorem Two.on {B : Nat} {w : World} {p q : Nat} {s s' : St} (h : Two B w p q s s') : Calls Try.prog 14 #[ptr p] w fun e w' => e = .returned (.bool (!s.off)) ∧ w' = w := by
  obtain ⟨⟨K, h1⟩, _⟩ := h.one
  exact on13 h1
theorem Two.crashed {B : Nat} {w : World} {p q : Nat} {s s' : St} (h : Two B w p q s s') (hout : s.out = false) : Calls Try.prog 16 #[ptr p] w fun e w' => ∃ v, e = .returned (.tuple #[.agg #[v], .bool true]) ∧ Im w.heap.size w' v (crashL s.fs [] 0) ∧ (∃ K', Dk w' q K' s' ∧ (∀ k, K' k → B ≤ k) ∧ ∀ k, K' k → k < w.heap.size) ∧ Turn (old B) w w' := by
  obtain ⟨K, K', h1, h2, h3, h4, h5⟩ := h
  have hlt : ∀ k, K' k → k < w.heap.size := by
    obtain ⟨_, _, _, hd⟩ := h2
    exact hd.klt
  refine (crashed16 h1 hout).mono ?_
  rintro e w' ⟨v, rfl, i, t⟩
  exact ⟨v, rfl, i, ⟨K', h2.turn t (fun k hk q => h3 k q hk), h5, hlt⟩, t.mono (fun k _ hk => h4 k hk)⟩

set_option maxRecDepth 100000 in
set_option maxHeartbeats 16000000 in
theorem whole_any (w : World) (m : Mx) (ma : Option Addr) (mcap : Nat) (hm : Fs w.heap.size w ma mcap m.l) (v1 : Value) (l1 : List Opx) (h1 : Sc w.heap.size w v1 l1) (hl1 : l1.length ≤ 1000000000000000) (o : Opx) (ho : Ox w.heap.size w o) (dn : Bool) :
    Calls Try.prog 3 #[.agg (mxC m ma mcap), v1, .agg (opC o), .bool dn] w fun e w' => e = .returned (.bool true) ∧ Turn no w w' := by
  obtain ⟨va, vn, vc, ka, kn, kc, ev, ek⟩ := ho.shapes
  rw [opX_eq ev ek]
  obtain ⟨a1, c1, rfl, _⟩ := h1.slice
  obtain ⟨W2, hW2⟩ : ∃ W2, W2 = (w.alloc (.cells (mxC m ma mcap) 26)).alloc (.cells #[.int .i64 o.kind, .int .i64 o.who, .string ⟨o.nm.toArray⟩, .slice va vn vc, .int .i64 o.n, .int .i64 o.t.when, .int .i64 o.t.kind, .bool o.t.done, .slice ka kn kc, .int .u8 o.junk.toNat] 33) := ⟨_, rfl⟩
  have T2 : Turn no w W2 := by rw [hW2]; exact ((Turn.refl no w).alloc _).alloc _
  have RM : Row W2 w.heap.size (mxC m ma mcap) 26 := by rw [hW2]; exact (Row.new w _ 26).alloc _
  have RO : Row W2 (w.heap.size + 1) #[.int .i64 o.kind, .int .i64 o.who, .string ⟨o.nm.toArray⟩, .slice va vn vc, .int .i64 o.n, .int .i64 o.t.when, .int .i64 o.t.kind, .bool o.t.done, .slice ka kn kc, .int .u8 o.junk.toNat] 33 := by rw [hW2]; exact Row.newAt _ _ 33 _ (by simp)
  obtain ⟨B, hB⟩ : ∃ B, B = W2.heap.size := ⟨_, rfl⟩
  have hBw : B = w.heap.size + 2 := by rw [hB, hW2]; simp
  have s1 := (h1.turn_no T2).mono (show w.heap.size ≤ B by omega)
  have oB := (ho.turn_no T2).mono (show w.heap.size ≤ B by omega)
  have hAt : OpAt W2 (w.heap.size + 1) 0 o va vn vc ka kn kc := OpAt.of ev ek (fun i u hu => by
    rw [Nat.zero_add]
    refine RO.cell i u ?_
    have : opC o = #[.int .i64 o.kind, .int .i64 o.who, .string ⟨o.nm.toArray⟩, .slice va vn vc, .int .i64 o.n, .int .i64 o.t.when, .int .i64 o.t.kind, .bool o.t.done, .slice ka kn kc, .int .u8 o.junk.toNat] := by
      unfold opC strV
      rw [ev, ek]
    rw [← this]
    exact hu)
  have hlv := fun W (t : Turn no W2 W) => lives17 w.heap.size W (by have := T2.size; have := t.size; omega) m ma mcap (hm.turn_no (T2.then_no t))
  have HLV := shut hlv
  obtain ⟨lc, ln, lm⟩ := live_calm m
  have hz := shut num10
  have m0 := RM.cell 0 _ rfl
  have m1 := RM.cell 1 _ rfl
  have m2 := RM.cell 2 _ rfl
  have hmk : ∀ W, Turn no W2 W → W.cell? ⟨w.heap.size, 0, none⟩ = some (.int .i64 m.lim) ∧ W.cell? ⟨w.heap.size, 1, none⟩ = some (.bool m.mt) ∧ W.cell? ⟨w.heap.size, 2, none⟩ = some (.slice ma m.l.length mcap) := fun W t => ⟨t.keep m0 (fun q => q), t.keep m1 (fun q => q), t.keep m2 (fun q => q)⟩
  have HMK := shut hmk
  have S1 := shut s1
  have OB0 := shut (ho.turn_no T2)
  have HRO := shut RO
  have HAT := shut hAt
  have HB := shut hB
  have HBW := shut hBw
  generalize hs0 : liveS m = s0 at *
  clear hlv hmk s1 oB hAt hB hBw h1 hm ho RM RO
  have HEV := shut ev
  have HEK := shut ek
  clear ev ek
  have hv1 := HLV.out W2 (Turn.refl _ _)
  unfold mxC opX at *
  go_enter Try.func3, Try.ntmps3
  go_wp2_with fail
  try rw [← hW2]
  refine hv1.mono ?_
  rintro e w3 ⟨p, rfl, KA, hpq, hDA, hKA, t3⟩
  obtain ⟨b0, b1, b2⟩ := HMK.out w3 t3
  have hv2 := HLV.out w3 t3
  have hlt3 : ∀ x, KA x → x < w3.heap.size := by
    obtain ⟨_, _, _, hd⟩ := hDA
    exact hd.klt
  unfold ptr at hv2
  clear hv1
  go_wp2_with fail
  refine hv2.mono ?_
  rintro e w4 ⟨q, rfl, KB, hqq, hDB, hKB, t4⟩
  have t34 := t3.then_no t4
  have hTwo : Two B w4 p q s0 s0 := ⟨KA, KB, hDA.turn_no t4, hDB, (fun k x y => by have := hlt3 k x; have := hKB k y; omega), (fun k x => by have := hKA k x; have := HB.out; omega), (fun k x => by have := hKB k x; have := t3.size; have := HB.out; omega)⟩
  have S14 := shut (S1.out.turn_no t34)
  have OB4 := shut (OB0.out.turn_no t34)
  have HRO4 := shut (HRO.out.turn t34 (fun q => q))
  have HAT4 := shut (HAT.out.turn t34 (fun q => q))
  have T4 := T2.then_no t34
  have hB4 : B ≤ w4.heap.size := by have := t34.size; have := HB.out; omega
  have HTW := shut hTwo
  clear hv2 hDA hDB hKA hKB hlt3 hTwo hpq hqq S1 HAT HMK HLV t3 t4 t34 T2 m0 m1 m2 b0 b1 b2 hW2 HB
  go_wp2_with fail
  go_loopw [13] (fun x wr => ∃ (i : Nat) (s : St), i ≤ l1.length ∧ x = .int .i64 i ∧ Shut (Two B wr p q s s) ∧ Calm s ∧ s.n ≤ i ∧ s.m = 0 ∧ Turn (old B) w4 wr) (fun x _ => l1.length - (intOf x).toNat)
  case atStart => exact ⟨0, s0, Nat.zero_le _, rfl, HTW, lc, by omega, lm, Turn.refl _ _⟩
  case round =>
    clear HTW
    obtain ⟨i, s, hi, rfl, hT, hC, hn, hm0, T⟩ := hrel
    have hBr : B ≤ wr.heap.size := by have := T.size; omega
    by_cases hlt : i < l1.length
    · have hlt' : (i : Int) < (l1.length : Int) := by omega
      obtain ⟨x, hx⟩ : ∃ x, l1[i]? = some x := ⟨l1[i], List.getElem?_eq_getElem hlt⟩
      obtain ⟨bb, off, xa, xn, xc, ya, yn, yc, ea, hb, hO, hA⟩ := (S14.out.turn T).at i x hx
      subst ea
      obtain ⟨_, _, d0, d1, d2, d3, d4, d5, d6, d7, d8, d9⟩ := id hA
      by_cases h11 : x.kind = 11
      · have h11' : (x.kind != 11) = false := by simp [h11]
        clear hA hO
        go_wp2_with fail
        go_roundw
        case rel => exact ⟨i + 1, s, by omega, by go_num, hT, hC, by omega, hm0, T⟩
        case measure => simp [intOf]; omega
      · have h11' : (x.kind != 11) = true := by simp [h11]
        have hsim : Sim s s := ⟨hC, hC, rfl, rfl⟩
        obtain ⟨_, hs2, hs3, _, hs5, _⟩ := sim_do hsim x h11
        have hd1 := hT.out.does1 hBr (by omega) (by omega) hO hA.vd hA.vk
        have H2 : Shut (∀ W, Turn (old B) wr W → Two B W p q (doS s x).1 s → OpAt W bb (off + i * 10) x xa xn xc ya yn yc ∧ Calls Try.prog 10 #[ptr q, opX x xa xn xc ya yn yc] W fun e w' => e = .returned (.int .i64 (doS s x).2) ∧ Two B w' p q (doS s x).1 (doS s x).1 ∧ Turn (old B) W w') := fun W t hW =>
          ⟨hA.turn t (fun q => by have : B ≤ bb := q; omega), hW.does2 (by have := t.size; omega) (by omega) (by omega) (hO.turn t (fun k hk => hk)) hA.vd hA.vk⟩
        have HC2 := shut hs2.a
        clear hA hO hsim hs2
        unfold opX ptr at *
        generalize (doS s x).2 = E at *
        go_wp2_with fail
        refine hd1.mono ?_
        rintro e w5 ⟨rfl, hT5, t5⟩
        obtain ⟨hA5, hd2⟩ := H2.out w5 t5 hT5
        obtain ⟨_, _, g0, g1, g2, g3, g4, g5, g6, g7, g8, g9⟩ := hA5
        have HT5 := shut hT5
        clear hd1 H2 hT5
        go_wp2_with fail
        refine hd2.mono ?_
        rintro e w6 ⟨rfl, hT6, t6⟩
        have HT6 := shut hT6
        have TT := (T.trans t5 (fun _ _ q => q)).trans t6 (fun _ _ q => q)
        clear hd2 hT6 HT5
        go_wp2_with fail
        go_roundw
        case rel => exact ⟨i + 1, (doS s x).1, by omega, by go_num, HT6, HC2.out, by omega, by omega, TT⟩
        case measure => simp [intOf]; omega
    · have hlt' : ¬ (i : Int) < (l1.length : Int) := by omega
      have RO := HRO4.out.turn T (fun q => by have : B ≤ w.heap.size + 1 := q; have := HBW.out; omega)
      have hT' := hT.out
      by_cases hkk : 3 ≤ o.kind ∧ o.kind ≤ 5
      · have k1 : decide (o.kind < 3) = false := by simp; omega
        have k2 : decide (5 < o.kind) = false := by simp; omega
        obtain ⟨ob, hob⟩ : ∃ ob : Opx, ob = o := ⟨_, rfl⟩
        have HT := hT'
        have hBq := hBr
        have TW : Turn (old (w.heap.size + 1)) w4 wr := T.mono (fun k _ q => by have : B ≤ k := q; show w.heap.size + 1 ≤ k; have := HBW.out; omega)
        have OA : OpAt wr (w.heap.size + 1) 0 ob va vn vc ka kn kc := by
          rw [hob]
          exact ⟨HEV.out, HEK.out, RO.cell 0 _ rfl, RO.cell 1 _ rfl, RO.cell 2 _ rfl, RO.cell 3 _ rfl, RO.cell 4 _ rfl, RO.cell 5 _ rfl, RO.cell 6 _ rfl, RO.cell 7 _ rfl, RO.cell 8 _ rfl, RO.cell 9 _ rfl⟩
        have OX : Ox B wr ob := by
          rw [hob]
          exact (OB4.out.turn T (fun k hk => by have : B ≤ k := hk; have := HBW.out; omega)).mono (by have := HBW.out; omega)
        have z0 : wr.cell? ⟨w.heap.size + 1, 0, none⟩ = some (.int .i64 o.kind) := RO.cell 0 _ rfl
        rw [← hob] at hkk
        clear hT' RO hT hob
        have hsn : s.n ≤ 1000000000000000 := by omega
        have hcl := HT.calls.1
        unfold ptr at hcl
        go_wp2_with fail
        refine hcl.mono ?_
        rintro e w5 ⟨rfl, rfl⟩
        have har := HT.arm1 hBq (by omega) (by omega) (powT dn)
        rw [arm_pow hC dn] at har
        unfold ptr trV powT at har
        clear hcl
        go_wp2_with fail
        refine har.mono ?_
        rintro e w7 ⟨rfl, hT7, t7⟩
        have hz7 := hz.out w7 0
        have TT7 : Turn (old (w.heap.size + 1)) w4 w7 := TW.trans t7 (fun k _ q => by have : B ≤ k := q; show w.heap.size + 1 ≤ k; have := HBW.out; omega)
        have hB7 : B ≤ w7.heap.size := by have := t7.size; omega
        have hA7 := OA.turn t7 (fun q => by have : B ≤ w.heap.size + 1 := q; have := HBW.out; omega)
        have hO7 := OX.turn t7 (fun k hk => hk)
        have HT7 : Shut (Two B w7 p q (armS s (powT dn)).1 s) := by
          show Two B w7 p q (armS s (powT dn)).1 s
          rw [arm_pow hC dn]
          exact hT7
        clear har hT7 OA OX HT
        go_wp2_with fail
        refine hz7.mono ?_
        rintro e w8 ⟨rfl, rfl⟩
        obtain ⟨_, _, d0, d1, d2, d3, d4, d5, d6, d7, d8, d9⟩ := id hA7
        simp only [Nat.zero_add] at d0 d1 d2 d3 d4 d5 d6 d7 d8 d9
        have hd1 := HT7.out.does1 hB7 (by rw [arm_pow hC dn]; simp only; omega) (by rw [arm_pow hC dn]; simp only; omega) hO7 hA7.vd hA7.vk
        have HO7 := shut hO7
        have HA7 := shut hA7
        clear hO7 hA7
        rcases pow_do hC ob hkk dn with ⟨hp, e1, e2⟩ | ⟨l, e1, e2⟩
        · obtain ⟨r1, _⟩ := plan_refused s ob ⟨by omega, by omega⟩ hp
          rw [e1] at hd1
          have r1' : ((planS s ob).2 != 0) = true := by simpa using r1
          have H2 : Shut (∀ W, Turn (old B) w8 W → Two B W p q (armS s (powT dn)).1 s → OpAt W (w.heap.size + 1) 0 ob va vn vc ka kn kc ∧ (Calls Try.prog 10 #[ptr q, opX ob va vn vc ka kn kc] W fun e w' => e = .returned (.int .i64 (planS s ob).2) ∧ Two B w' p q (armS s (powT dn)).1 s ∧ Turn (old B) W w')) := fun W t hW => by
            refine ⟨HA7.out.turn t (fun q => by have : B ≤ w.heap.size + 1 := q; have := HBW.out; omega), ?_⟩
            have := hW.does2 (by have := t.size; omega) (by omega) (by omega) (HO7.out.turn t (fun k hk => hk)) HA7.out.vd HA7.out.vk
            rw [e2] at this
            exact this
          have htl : Shut (tellL s = tellL (armS s (powT dn)).1 ∧ s.off = (armS s (powT dn)).1.off) := by
            show _ ∧ _
            rw [arm_pow hC dn]
            exact ⟨rfl, rfl⟩
          have hn2 : (armS s (powT dn)).1.n = s.n := by rw [arm_pow hC dn]
          have hof2 : (armS s (powT dn)).1.off = false := by rw [← htl.out.2]; exact hC.off
          generalize (planS s ob).2 = E at *
          have HH := shut e1
          clear e1 e2 hp r1
          unfold ptr opX at *
          go_wp2_with fail
          refine hd1.mono ?_
          rintro e w9 ⟨rfl, hT9, t9⟩
          have hcl9 := hT9.calls.1
          rw [hn2] at hcl9
          have hon9 := hT9.on
          rw [hof2] at hon9
          unfold ptr at hcl9 hon9
          have hA9 := H2.out w9 t9 hT9
          have HT9 := shut hT9
          clear hd1 hT9
          go_wp2_with fail
          refine hcl9.mono ?_
          rintro e w10 ⟨rfl, rfl⟩
          clear hcl9
          go_wp2_with fail
          have cur0 : Turn no w10 w10.drew := (Turn.refl no w10).drew
          have HTd := shut (HT9.out.turn_no cur0)
          have hond := HTd.out.on
          rw [hof2] at hond
          have hdo := (H2.out w10.drew (t9.then_no cur0) HTd.out).2
          have hD : ∀ W, Turn (old B) w10 W → OpAt W (w.heap.size + 1) 0 ob va vn vc ka kn kc := fun W t => hA9.1.turn t (fun q => by have : B ≤ w.heap.size + 1 := q; have := HBW.out; omega)
          have HD := shut hD
          unfold ptr at hond
          clear hA9 hD hon9
          refine wp_region_held_drew (S := fun W => Turn (old B) w10 W) (by kernel_rfl) (Turn.refl _ w10).drew (fun hHeld => ?_)
          refine' wpAnyH_take (i := 0) (v := .int .i64 E) rfl (by kernel_rfl) (by kernel_rfl) (by kernel_rfl) (fun _ _ _ h => h) (Or.inl ⟨by kernel_rfl, fun W hW => ?y1⟩) hHeld ?r1
          · go_simp
          refine wpAnyH_ready (rs := [1]) (by kernel_rfl) (by simp) ?_
          refine AllReadyH.cons rfl (fun K hK => ?_) AllReadyH.nil
          go_simp
          refine (hz.out _ E).mono ?_
          rintro e w11 ⟨rfl, rfl⟩
          refine hK.out _ _ hHeld (fun hHeld => ?_)
          clear hK
          refine' wpAnyH_take (i := 2) (v := .bool true) rfl (by kernel_rfl) (by kernel_rfl) (by kernel_rfl) (fun _ _ _ h => h) (Or.inl ⟨by kernel_rfl, fun W hW => ?y2⟩) hHeld ?r2
          · go_simp
          refine' wpAnyH_take (i := 3) (v := .bool true) rfl (by kernel_rfl) (by kernel_rfl) (by kernel_rfl) (fun _ _ _ h => h) (Or.inl ⟨by kernel_rfl, fun W hW => ?y3⟩) hHeld ?r3
          · go_simp
          refine' wpAnyH_take (i := 4) (v := .pointer (some ⟨p, 0, none⟩)) rfl (by kernel_rfl) (by kernel_rfl) (by kernel_rfl) (fun _ _ _ h => h) (Or.inl ⟨by kernel_rfl, fun W hW => ?y4⟩) hHeld ?r4
          · go_simp
          refine wpAnyH_ready (rs := [5]) (by kernel_rfl) (by simp) ?_
          refine AllReadyH.cons rfl (fun K hK => ?_) AllReadyH.nil
          go_simp
          refine hond.mono ?_
          rintro e w11 ⟨rfl, rfl⟩
          refine hK.out _ _ hHeld (fun hHeld => ?_)
          clear hK
          refine' wpAnyH_take (i := 6) (v := .bool true) rfl (by kernel_rfl) (by kernel_rfl) (by kernel_rfl) (fun _ _ _ h => h) (Or.inl ⟨by kernel_rfl, fun W hW => ?y5⟩) hHeld ?r5
          · go_simp
          refine' wpAnyH_take (i := 7) (v := .bool true) rfl (by kernel_rfl) (by kernel_rfl) (by kernel_rfl) (fun _ _ _ h => h) (Or.inl ⟨by kernel_rfl, fun W hW => ?y6⟩) hHeld ?r6
          · go_simp
          refine' wpAnyH_take (i := 8) (v := .int .i64 E) rfl (by kernel_rfl) (by kernel_rfl) (by kernel_rfl) (fun _ _ _ h => h) (Or.inl ⟨by kernel_rfl, fun W hW => ?y7⟩) hHeld ?r7
          · go_simp
          refine' wpAnyH_take (i := 10) (v := .pointer (some ⟨q, 0, none⟩)) rfl (by kernel_rfl) (by kernel_rfl) (by kernel_rfl) (fun _ _ _ h => h) (Or.inl ⟨by kernel_rfl, fun W hW => ?y8⟩) hHeld ?r8
          · go_simp
          refine' wpAnyH_take (i := 11) (v := .agg #[.int .i64 ob.kind, .int .i64 ob.who, .string ⟨ob.nm.toArray⟩, .slice va vn vc, .int .i64 ob.n, .int .i64 ob.t.when, .int .i64 ob.t.kind, .bool ob.t.done, .slice ka kn kc, .int .u8 ob.junk.toNat]) rfl (by kernel_rfl) (by kernel_rfl) (by kernel_rfl) (fun _ _ _ h => h) (Or.inl ⟨by kernel_rfl, fun W hW => ?y9⟩) hHeld ?r9
          · obtain ⟨_, _, g0, g1, g2, g3, g4, g5, g6, g7, g8, g9⟩ := HD.out W hW
            simp only [Nat.zero_add] at g0 g1 g2 g3 g4 g5 g6 g7 g8 g9
            go_simp
          refine wpAnyH_ready (rs := [9]) (by kernel_rfl) (by simp) ?_
          refine AllReadyH.cons rfl (fun K hK => ?_) AllReadyH.nil
          go_simp
          refine (hz.out _ E).mono ?_
          rintro e w11 ⟨rfl, rfl⟩
          refine hK.out _ _ hHeld (fun hHeld => ?_)
          clear hK
          refine wpAnyH_ready (rs := [12]) (by kernel_rfl) (by simp) ?_
          refine AllReadyH.cons rfl (fun K hK => ?_) AllReadyH.nil
          go_simp
          refine hdo.mono ?_
          rintro e w12 ⟨rfl, hT12, t12⟩
          have t1012 : Turn (old B) w10 w12 := ((Turn.refl (old B) w10).drew).trans t12 (fun _ _ q => q)
          have hal := hT12.alike htl.out.1 htl.out.2
          unfold ptr at hal
          refine hK.out _ _ t1012 (fun hHeld => ?_)
          clear hK hdo
          refine wpAnyH_ready (rs := [13]) (by kernel_rfl) (by simp) ?_
          refine AllReadyH.cons rfl (fun K hK => ?_) AllReadyH.nil
          go_simp
          refine (hz.out _ E).mono ?_
          rintro e w13 ⟨rfl, rfl⟩
          refine hK.out _ _ t1012 (fun hHeld => ?_)
          clear hK
          refine' wpAnyH_take (i := 14) (v := .bool true) rfl (by kernel_rfl) (by kernel_rfl) (by kernel_rfl) (fun _ _ _ h => h) (Or.inl ⟨by kernel_rfl, fun W hW => ?y10⟩) hHeld ?r10
          · go_simp
          refine' wpAnyH_take (i := 15) (v := .bool true) rfl (by kernel_rfl) (by kernel_rfl) (by kernel_rfl) (fun _ _ _ h => h) (Or.inl ⟨by kernel_rfl, fun W hW => ?y11⟩) hHeld ?r11
          · go_simp
          refine' wpAnyH_take (i := 16) (v := .bool true) rfl (by kernel_rfl) (by kernel_rfl) (by kernel_rfl) (fun _ _ _ h => h) (Or.inl ⟨by kernel_rfl, fun W hW => ?y12⟩) hHeld ?r12
          · go_simp
          refine' wpAnyH_take (i := 17) (v := .pointer (some ⟨p, 0, none⟩)) rfl (by kernel_rfl) (by kernel_rfl) (by kernel_rfl) (fun _ _ _ h => h) (Or.inl ⟨by kernel_rfl, fun W hW => ?y13⟩) hHeld ?r13
          · go_simp
          refine' wpAnyH_take (i := 18) (v := .pointer (some ⟨q, 0, none⟩)) rfl (by kernel_rfl) (by kernel_rfl) (by kernel_rfl) (fun _ _ _ h => h) (Or.inl ⟨by kernel_rfl, fun W hW => ?y14⟩) hHeld ?r14
          · go_simp
          refine wpAnyH_ready (rs := [19]) (by kernel_rfl) (by simp) ?_
          refine AllReadyH.cons rfl (fun K hK => ?_) AllReadyH.nil
          go_simp
          refine hal.mono ?_
          rintro e w14 ⟨rfl, t14⟩
          have TF : Turn no w w14 := T4.trans ((TT7.trans t9 (fun k _ q => by have : B ≤ k := q; show w.heap.size + 1 ≤ k; have := HBW.out; omega)).trans (t1012.then_no t14) (fun k _ q => by have : B ≤ k := q; show w.heap.size + 1 ≤ k; have := HBW.out; omega)) (fun k hk q => by have : w.heap.size + 1 ≤ k := q; omega)
          refine hK.out _ _ (t1012.then_no t14) (fun hHeld => ?_)
          clear hK
          refine' wpAnyH_take (i := 20) (v := .bool true) rfl (by kernel_rfl) (by kernel_rfl) (by kernel_rfl) (fun _ _ _ h => h) (Or.inl ⟨by kernel_rfl, fun W hW => ?y15⟩) hHeld ?r15
          · go_simp
          refine wpAnyH_ready (rs := [21]) (by kernel_rfl) (by simp) ?_
          refine AllReadyH.cons rfl (fun K hK => ?_) AllReadyH.nil
          go_simp
          refine hK.out _ _ (t1012.then_no t14) (fun hHeld => ?_)
          clear hK
          refine wpAnyH_done (by kernel_rfl) ?_ _
          go_wp2_with fail
          go_ret
          exact ⟨rfl, TF⟩
        · rw [e1] at hd1
          unfold ptr opX at hd1
          go_wp2_with fail
          refine hd1.mono ?_
          rintro e w9 ⟨rfl, hT9, t9⟩
          have cA := hT9.calls.1
          have hon := hT9.on
          unfold ptr at cA hon
          simp only [Bool.not_true] at cA hon
          have hz9 := hz.out w9 63
          have HT9 := shut hT9
          have hne : (((s.n + 1 : Nat) : Int) == (s.n : Int)) = false := by simp; omega
          have TT9 : Turn (old (w.heap.size + 1)) w4 w9 := TT7.trans t9 (fun k _ q => by have : B ≤ k := q; show w.heap.size + 1 ≤ k; have := HBW.out; omega)
          have hA9 := HA7.out.turn t9 (fun q => by have : B ≤ w.heap.size + 1 := q; have := HBW.out; omega)
          have hd2 := HT9.out.does2 (by have := t9.size; omega) (by omega) (by omega) (HO7.out.turn t9 (fun k hk => hk)) HA7.out.vd HA7.out.vk
          rw [e2] at hd2
          clear hd1 hT9
          obtain ⟨_, _, g0, g1, g2, g3, g4, g5, g6, g7, g8, g9⟩ := id hA9
          simp only [Nat.zero_add] at g0 g1 g2 g3 g4 g5 g6 g7 g8 g9
          unfold ptr opX at hd2
          go_wp2_with fail
          refine cA.mono ?_
          rintro e w10 ⟨rfl, rfl⟩
          go_wp2_with fail
          refine hz9.mono ?_
          rintro e w10 ⟨rfl, rfl⟩
          go_wp2_with fail
          refine hon.mono ?_
          rintro e w10 ⟨rfl, rfl⟩
          clear cA hz9 hon
          cases dn
          · have HTc : Shut (Two B w10 p q { s with n := s.n + 1, m := s.m + 1, off := true, fs := s.fs } s) := HT9
            have TTc := TT9
            have hCo : s.out = false := hC.out
            have hcA := HTc.out.crashed (by exact hCo)
            unfold ptr at hcA
            go_wp2_with fail
            refine hcA.mono ?_
            rintro e w11 ⟨v11, rfl, I11, ⟨KB, DB, hKB, hKl⟩, t11⟩
            obtain ⟨x11, y11, rfl, _⟩ := I11.form
            obtain ⟨w12, hw12⟩ : ∃ w12, w12 = w11.alloc (.cells #[.slice x11 (crashL s.fs [] 0).length y11] 24) := ⟨_, rfl⟩
            have A12 : Turn no w11 w12 := by rw [hw12]; exact (Turn.refl no w11).alloc _
            have R12 : Row w12 w11.heap.size #[.slice x11 (crashL s.fs [] 0).length y11] 24 := by rw [hw12]; exact Row.new _ _ _
            have hcB := crashed16 (DB.turn_no A12) (by exact hC.out)
            have I12 := I11.turn_no A12
            have TT12 : Turn (old (w.heap.size + 1)) w4 w12 := (TTc.trans t11 (fun k _ q => by have : B ≤ k := q; show w.heap.size + 1 ≤ k; have := HBW.out; omega)).then_no A12
            try simp only at hcB
            unfold ptr at hcB
            generalize hL : crashL s.fs [] 0 = fl at *
            have s11 := t11.size
            clear hcA I11 HTc DB
            go_wp2_with fail
            try rw [← hw12]
            refine hcB.mono ?_
            rintro e w13 ⟨v13, rfl, I13, t13⟩
            obtain ⟨x13, y13, rfl, _⟩ := I13.form
            obtain ⟨w14, hw14⟩ : ∃ w14, w14 = w13.alloc (.cells #[.slice x13 fl.length y13] 24) := ⟨_, rfl⟩
            have A14 : Turn no w13 w14 := by rw [hw14]; exact (Turn.refl no w13).alloc _
            have R14 : Row w14 w13.heap.size #[.slice x13 fl.length y13] 24 := by rw [hw14]; exact Row.new _ _ _
            have I12' : Im _ w14 (.slice x11 fl.length y11) fl := (I12.turn t13 (fun k z => hKl k z)).turn_no A14
            have R12' : Row w14 w11.heap.size #[.slice x11 fl.length y11] 24 := (R12.turn t13 (fun z => by have := hKl _ z; omega)).turn A14 (fun q => q)
            have hsi := sameImage27 I12' (I13.turn_no A14)
            have z1 : (w13.alloc (.cells #[.slice x13 fl.length y13] 24)).cell? ⟨w13.heap.size, 0, none⟩ = some (.slice x13 fl.length y13) := by rw [← hw14]; exact R14.cell 0 _ rfl
            have z2 : (w13.alloc (.cells #[.slice x13 fl.length y13] 24)).cell? ⟨w11.heap.size, 0, none⟩ = some (.slice x11 fl.length y11) := by rw [← hw14]; exact R12'.cell 0 _ rfl
            have TF : Turn no w w14 := (T4.trans (TT12.trans t13 (fun k _ q => by have := hKB k q; show w.heap.size + 1 ≤ k; have := HBW.out; omega)) (fun k hk q => by have : w.heap.size + 1 ≤ k := q; omega)).then_no A14
            clear hcB I13 I12 I12' R12 R12' R14
            go_wp2_with fail
            try rw [← hw14]
            refine hsi.mono ?_
            rintro e w15 ⟨rfl, t15⟩
            go_wp2_with fail
            go_ret
            exact ⟨rfl, TF.then_no t15⟩
          · simp only [if_true] at HT9 hd2
            go_wp2_with fail
            refine hd2.mono ?_
            rintro e w10b ⟨rfl, hT10, t10⟩
            have HTc := shut hT10
            have TTc : Turn (old (w.heap.size + 1)) w4 w10b := TT9.trans t10 (fun k _ q => by have : B ≤ k := q; show w.heap.size + 1 ≤ k; have := HBW.out; omega)
            have hCo : s.out = false := hC.out
            have hzb := hz.out w10b 0
            clear hd2 hT10
            go_wp2_with fail
            refine hzb.mono ?_
            rintro e w10c ⟨rfl, rfl⟩
            have hcA := HTc.out.crashed (by exact hCo)
            unfold ptr at hcA
            go_wp2_with fail
            refine hcA.mono ?_
            rintro e w11 ⟨v11, rfl, I11, ⟨KB, DB, hKB, hKl⟩, t11⟩
            obtain ⟨x11, y11, rfl, _⟩ := I11.form
            obtain ⟨w12, hw12⟩ : ∃ w12, w12 = w11.alloc (.cells #[.slice x11 (crashL l [] 0).length y11] 24) := ⟨_, rfl⟩
            have A12 : Turn no w11 w12 := by rw [hw12]; exact (Turn.refl no w11).alloc _
            have R12 : Row w12 w11.heap.size #[.slice x11 (crashL l [] 0).length y11] 24 := by rw [hw12]; exact Row.new _ _ _
            have hcB := crashed16 (DB.turn_no A12) (by exact hC.out)
            have I12 := I11.turn_no A12
            have TT12 : Turn (old (w.heap.size + 1)) w4 w12 := (TTc.trans t11 (fun k _ q => by have : B ≤ k := q; show w.heap.size + 1 ≤ k; have := HBW.out; omega)).then_no A12
            try simp only at hcB
            unfold ptr at hcB
            generalize hL : crashL l [] 0 = fl at *
            have s11 := t11.size
            clear hcA I11 HTc DB
            go_wp2_with fail
            try rw [← hw12]
            refine hcB.mono ?_
            rintro e w13 ⟨v13, rfl, I13, t13⟩
            obtain ⟨x13, y13, rfl, _⟩ := I13.form
            obtain ⟨w14, hw14⟩ : ∃ w14, w14 = w13.alloc (.cells #[.slice x13 fl.length y13] 24) := ⟨_, rfl⟩
            have A14 : Turn no w13 w14 := by rw [hw14]; exact (Turn.refl no w13).alloc _
            have R14 : Row w14 w13.heap.size #[.slice x13 fl.length y13] 24 := by rw [hw14]; exact Row.new _ _ _
            have I12' : Im _ w14 (.slice x11 fl.length y11) fl := (I12.turn t13 (fun k z => hKl k z)).turn_no A14
            have R12' : Row w14 w11.heap.size #[.slice x11 fl.length y11] 24 := (R12.turn t13 (fun z => by have := hKl _ z; omega)).turn A14 (fun q => q)
            have hsi := sameImage27 I12' (I13.turn_no A14)
            have z1 : (w13.alloc (.cells #[.slice x13 fl.length y13] 24)).cell? ⟨w13.heap.size, 0, none⟩ = some (.slice x13 fl.length y13) := by rw [← hw14]; exact R14.cell 0 _ rfl
            have z2 : (w13.alloc (.cells #[.slice x13 fl.length y13] 24)).cell? ⟨w11.heap.size, 0, none⟩ = some (.slice x11 fl.length y11) := by rw [← hw14]; exact R12'.cell 0 _ rfl
            have TF : Turn no w w14 := (T4.trans (TT12.trans t13 (fun k _ q => by have := hKB k q; show w.heap.size + 1 ≤ k; have := HBW.out; omega)) (fun k hk q => by have : w.heap.size + 1 ≤ k := q; omega)).then_no A14
            clear hcB I13 I12 I12' R12 R12' R14
            go_wp2_with fail
            try rw [← hw14]
            refine hsi.mono ?_
            rintro e w15 ⟨rfl, t15⟩
            go_wp2_with fail
            go_ret
            exact ⟨rfl, TF.then_no t15⟩
      · obtain ⟨ob, hob⟩ : ∃ ob : Opx, ob = { o with kind := 3 } := ⟨_, rfl⟩
        obtain ⟨wq, hwq⟩ : ∃ wq, wq = wr.setCell ⟨w.heap.size + 1, 0, none⟩ (.int .i64 3) := ⟨_, rfl⟩
        have tq : Turn (fun k => k = w.heap.size + 1) wr wq := by rw [hwq]; exact (Turn.refl (fun k => k = w.heap.size + 1) wr).setCell (p := ⟨w.heap.size + 1, 0, none⟩) (fun _ => rfl) _
        have HT := hT'.low tq (fun k hk => by have := HBW.out; omega)
        have hBq : B ≤ wq.heap.size := by have := tq.size; omega
        have TW : Turn (old (w.heap.size + 1)) w4 wq := (T.mono (fun k _ q => by have : B ≤ k := q; show w.heap.size + 1 ≤ k; have := HBW.out; omega)).trans tq (fun k _ q => by have : k = w.heap.size + 1 := q; show w.heap.size + 1 ≤ k; omega)
        have RQ := RO.set 0 (.int .i64 3)
        rw [← hwq] at RQ
        have OA : OpAt wq (w.heap.size + 1) 0 ob va vn vc ka kn kc := by
          rw [hob]
          exact ⟨HEV.out, HEK.out, RQ.cell 0 _ rfl, RQ.cell 1 _ rfl, RQ.cell 2 _ rfl, RQ.cell 3 _ rfl, RQ.cell 4 _ rfl, RQ.cell 5 _ rfl, RQ.cell 6 _ rfl, RQ.cell 7 _ rfl, RQ.cell 8 _ rfl, RQ.cell 9 _ rfl⟩
        have OX : Ox B wq ob := by
          have h := (OB4.out.turn TW (fun k hk => by have : w.heap.size + 1 ≤ k := hk; omega)).mono (show w.heap.size ≤ B by have := HBW.out; omega)
          rw [hob]
          exact ⟨h.nm, h.data, h.keep, h.dold, h.kold⟩
        have hkb : 3 ≤ ob.kind ∧ ob.kind ≤ 5 := by rw [hob]; simp
        have z0 : wr.cell? ⟨w.heap.size + 1, 0, none⟩ = some (.int .i64 o.kind) := RO.cell 0 _ rfl
        have zf : wr.frozen? ⟨w.heap.size + 1, 0, none⟩ = false := RO.frozen 0
        by_cases hk3 : o.kind < 3
        · have k1 : decide (o.kind < 3) = true := by simp; omega
          have hkk := hkb
          clear hT' RO RQ hT tq hob
          have hsn : s.n ≤ 1000000000000000 := by omega
          have hcl := HT.calls.1
          unfold ptr at hcl
          go_wp2_with fail
          try rw [← hwq]
          clear hwq zf
          refine hcl.mono ?_
          rintro e w5 ⟨rfl, rfl⟩
          have har := HT.arm1 hBq (by omega) (by omega) (powT dn)
          rw [arm_pow hC dn] at har
          unfold ptr trV powT at har
          clear hcl
          go_wp2_with fail
          refine har.mono ?_
          rintro e w7 ⟨rfl, hT7, t7⟩
          have hz7 := hz.out w7 0
          have TT7 : Turn (old (w.heap.size + 1)) w4 w7 := TW.trans t7 (fun k _ q => by have : B ≤ k := q; show w.heap.size + 1 ≤ k; have := HBW.out; omega)
          have hB7 : B ≤ w7.heap.size := by have := t7.size; omega
          have hA7 := OA.turn t7 (fun q => by have : B ≤ w.heap.size + 1 := q; have := HBW.out; omega)
          have hO7 := OX.turn t7 (fun k hk => hk)
          have HT7 : Shut (Two B w7 p q (armS s (powT dn)).1 s) := by
            show Two B w7 p q (armS s (powT dn)).1 s
            rw [arm_pow hC dn]
            exact hT7
          clear har hT7 OA OX HT
          go_wp2_with fail
          refine hz7.mono ?_
          rintro e w8 ⟨rfl, rfl⟩
          obtain ⟨_, _, d0, d1, d2, d3, d4, d5, d6, d7, d8, d9⟩ := id hA7
          simp only [Nat.zero_add] at d0 d1 d2 d3 d4 d5 d6 d7 d8 d9
          have hd1 := HT7.out.does1 hB7 (by rw [arm_pow hC dn]; simp only; omega) (by rw [arm_pow hC dn]; simp only; omega) hO7 hA7.vd hA7.vk
          have HO7 := shut hO7
          have HA7 := shut hA7
          clear hO7 hA7
          rcases pow_do hC ob hkk dn with ⟨hp, e1, e2⟩ | ⟨l, e1, e2⟩
          · obtain ⟨r1, _⟩ := plan_refused s ob ⟨by omega, by omega⟩ hp
            rw [e1] at hd1
            have r1' : ((planS s ob).2 != 0) = true := by simpa using r1
            have H2 : Shut (∀ W, Turn (old B) w8 W → Two B W p q (armS s (powT dn)).1 s → OpAt W (w.heap.size + 1) 0 ob va vn vc ka kn kc ∧ (Calls Try.prog 10 #[ptr q, opX ob va vn vc ka kn kc] W fun e w' => e = .returned (.int .i64 (planS s ob).2) ∧ Two B w' p q (armS s (powT dn)).1 s ∧ Turn (old B) W w')) := fun W t hW => by
              refine ⟨HA7.out.turn t (fun q => by have : B ≤ w.heap.size + 1 := q; have := HBW.out; omega), ?_⟩
              have := hW.does2 (by have := t.size; omega) (by omega) (by omega) (HO7.out.turn t (fun k hk => hk)) HA7.out.vd HA7.out.vk
              rw [e2] at this
              exact this
            have htl : Shut (tellL s = tellL (armS s (powT dn)).1 ∧ s.off = (armS s (powT dn)).1.off) := by
              show _ ∧ _
              rw [arm_pow hC dn]
              exact ⟨rfl, rfl⟩
            have hn2 : (armS s (powT dn)).1.n = s.n := by rw [arm_pow hC dn]
            have hof2 : (armS s (powT dn)).1.off = false := by rw [← htl.out.2]; exact hC.off
            generalize (planS s ob).2 = E at *
            have HH := shut e1
            clear e1 e2 hp r1
            unfold ptr opX at *
            go_wp2_with fail
            refine hd1.mono ?_
            rintro e w9 ⟨rfl, hT9, t9⟩
            have hcl9 := hT9.calls.1
            rw [hn2] at hcl9
            have hon9 := hT9.on
            rw [hof2] at hon9
            unfold ptr at hcl9 hon9
            have hA9 := H2.out w9 t9 hT9
            have HT9 := shut hT9
            clear hd1 hT9
            go_wp2_with fail
            refine hcl9.mono ?_
            rintro e w10 ⟨rfl, rfl⟩
            clear hcl9
            go_wp2_with fail
            have cur0 : Turn no w10 w10.drew := (Turn.refl no w10).drew
            have HTd := shut (HT9.out.turn_no cur0)
            have hond := HTd.out.on
            rw [hof2] at hond
            have hdo := (H2.out w10.drew (t9.then_no cur0) HTd.out).2
            have hD : ∀ W, Turn (old B) w10 W → OpAt W (w.heap.size + 1) 0 ob va vn vc ka kn kc := fun W t => hA9.1.turn t (fun q => by have : B ≤ w.heap.size + 1 := q; have := HBW.out; omega)
            have HD := shut hD
            unfold ptr at hond
            clear hA9 hD hon9
            refine wp_region_held_drew (S := fun W => Turn (old B) w10 W) (by kernel_rfl) (Turn.refl _ w10).drew (fun hHeld => ?_)
            refine' wpAnyH_take (i := 0) (v := .int .i64 E) rfl (by kernel_rfl) (by kernel_rfl) (by kernel_rfl) (fun _ _ _ h => h) (Or.inl ⟨by kernel_rfl, fun W hW => ?y16⟩) hHeld ?r16
            · go_simp
            refine wpAnyH_ready (rs := [1]) (by kernel_rfl) (by simp) ?_
            refine AllReadyH.cons rfl (fun K hK => ?_) AllReadyH.nil
            go_simp
            refine (hz.out _ E).mono ?_
            rintro e w11 ⟨rfl, rfl⟩
            refine hK.out _ _ hHeld (fun hHeld => ?_)
            clear hK
            refine' wpAnyH_take (i := 2) (v := .bool true) rfl (by kernel_rfl) (by kernel_rfl) (by kernel_rfl) (fun _ _ _ h => h) (Or.inl ⟨by kernel_rfl, fun W hW => ?y17⟩) hHeld ?r17
            · go_simp
            refine' wpAnyH_take (i := 3) (v := .bool true) rfl (by kernel_rfl) (by kernel_rfl) (by kernel_rfl) (fun _ _ _ h => h) (Or.inl ⟨by kernel_rfl, fun W hW => ?y18⟩) hHeld ?r18
            · go_simp
            refine' wpAnyH_take (i := 4) (v := .pointer (some ⟨p, 0, none⟩)) rfl (by kernel_rfl) (by kernel_rfl) (by kernel_rfl) (fun _ _ _ h => h) (Or.inl ⟨by kernel_rfl, fun W hW => ?y19⟩) hHeld ?r19
            · go_simp
            refine wpAnyH_ready (rs := [5]) (by kernel_rfl) (by simp) ?_
            refine AllReadyH.cons rfl (fun K hK => ?_) AllReadyH.nil
            go_simp
            refine hond.mono ?_
            rintro e w11 ⟨rfl, rfl⟩
            refine hK.out _ _ hHeld (fun hHeld => ?_)
            clear hK
            refine' wpAnyH_take (i := 6) (v := .bool true) rfl (by kernel_rfl) (by kernel_rfl) (by kernel_rfl) (fun _ _ _ h => h) (Or.inl ⟨by kernel_rfl, fun W hW => ?y20⟩) hHeld ?r20
            · go_simp
            refine' wpAnyH_take (i := 7) (v := .bool true) rfl (by kernel_rfl) (by kernel_rfl) (by kernel_rfl) (fun _ _ _ h => h) (Or.inl ⟨by kernel_rfl, fun W hW => ?y21⟩) hHeld ?r21
            · go_simp
            refine' wpAnyH_take (i := 8) (v := .int .i64 E) rfl (by kernel_rfl) (by kernel_rfl) (by kernel_rfl) (fun _ _ _ h => h) (Or.inl ⟨by kernel_rfl, fun W hW => ?y22⟩) hHeld ?r22
            · go_simp
            refine' wpAnyH_take (i := 10) (v := .pointer (some ⟨q, 0, none⟩)) rfl (by kernel_rfl) (by kernel_rfl) (by kernel_rfl) (fun _ _ _ h => h) (Or.inl ⟨by kernel_rfl, fun W hW => ?y23⟩) hHeld ?r23
            · go_simp
            refine' wpAnyH_take (i := 11) (v := .agg #[.int .i64 ob.kind, .int .i64 ob.who, .string ⟨ob.nm.toArray⟩, .slice va vn vc, .int .i64 ob.n, .int .i64 ob.t.when, .int .i64 ob.t.kind, .bool ob.t.done, .slice ka kn kc, .int .u8 ob.junk.toNat]) rfl (by kernel_rfl) (by kernel_rfl) (by kernel_rfl) (fun _ _ _ h => h) (Or.inl ⟨by kernel_rfl, fun W hW => ?y24⟩) hHeld ?r24
            · obtain ⟨_, _, g0, g1, g2, g3, g4, g5, g6, g7, g8, g9⟩ := HD.out W hW
              simp only [Nat.zero_add] at g0 g1 g2 g3 g4 g5 g6 g7 g8 g9
              go_simp
            refine wpAnyH_ready (rs := [9]) (by kernel_rfl) (by simp) ?_
            refine AllReadyH.cons rfl (fun K hK => ?_) AllReadyH.nil
            go_simp
            refine (hz.out _ E).mono ?_
            rintro e w11 ⟨rfl, rfl⟩
            refine hK.out _ _ hHeld (fun hHeld => ?_)
            clear hK
            refine wpAnyH_ready (rs := [12]) (by kernel_rfl) (by simp) ?_
            refine AllReadyH.cons rfl (fun K hK => ?_) AllReadyH.nil
            go_simp
            refine hdo.mono ?_
            rintro e w12 ⟨rfl, hT12, t12⟩
            have t1012 : Turn (old B) w10 w12 := ((Turn.refl (old B) w10).drew).trans t12 (fun _ _ q => q)
            have hal := hT12.alike htl.out.1 htl.out.2
            unfold ptr at hal
            refine hK.out _ _ t1012 (fun hHeld => ?_)
            clear hK hdo
            refine wpAnyH_ready (rs := [13]) (by kernel_rfl) (by simp) ?_
            refine AllReadyH.cons rfl (fun K hK => ?_) AllReadyH.nil
            go_simp
            refine (hz.out _ E).mono ?_
            rintro e w13 ⟨rfl, rfl⟩
            refine hK.out _ _ t1012 (fun hHeld => ?_)
            clear hK
            refine' wpAnyH_take (i := 14) (v := .bool true) rfl (by kernel_rfl) (by kernel_rfl) (by kernel_rfl) (fun _ _ _ h => h) (Or.inl ⟨by kernel_rfl, fun W hW => ?y25⟩) hHeld ?r25
            · go_simp
            refine' wpAnyH_take (i := 15) (v := .bool true) rfl (by kernel_rfl) (by kernel_rfl) (by kernel_rfl) (fun _ _ _ h => h) (Or.inl ⟨by kernel_rfl, fun W hW => ?y26⟩) hHeld ?r26
            · go_simp
            refine' wpAnyH_take (i := 16) (v := .bool true) rfl (by kernel_rfl) (by kernel_rfl) (by kernel_rfl) (fun _ _ _ h => h) (Or.inl ⟨by kernel_rfl, fun W hW => ?y27⟩) hHeld ?r27
            · go_simp
            refine' wpAnyH_take (i := 17) (v := .pointer (some ⟨p, 0, none⟩)) rfl (by kernel_rfl) (by kernel_rfl) (by kernel_rfl) (fun _ _ _ h => h) (Or.inl ⟨by kernel_rfl, fun W hW => ?y28⟩) hHeld ?r28
            · go_simp
            refine' wpAnyH_take (i := 18) (v := .pointer (some ⟨q, 0, none⟩)) rfl (by kernel_rfl) (by kernel_rfl) (by kernel_rfl) (fun _ _ _ h => h) (Or.inl ⟨by kernel_rfl, fun W hW => ?y29⟩) hHeld ?r29
            · go_simp
            refine wpAnyH_ready (rs := [19]) (by kernel_rfl) (by simp) ?_
            refine AllReadyH.cons rfl (fun K hK => ?_) AllReadyH.nil
            go_simp
            refine hal.mono ?_
            rintro e w14 ⟨rfl, t14⟩
            have TF : Turn no w w14 := T4.trans ((TT7.trans t9 (fun k _ q => by have : B ≤ k := q; show w.heap.size + 1 ≤ k; have := HBW.out; omega)).trans (t1012.then_no t14) (fun k _ q => by have : B ≤ k := q; show w.heap.size + 1 ≤ k; have := HBW.out; omega)) (fun k hk q => by have : w.heap.size + 1 ≤ k := q; omega)
            refine hK.out _ _ (t1012.then_no t14) (fun hHeld => ?_)
            clear hK
            refine' wpAnyH_take (i := 20) (v := .bool true) rfl (by kernel_rfl) (by kernel_rfl) (by kernel_rfl) (fun _ _ _ h => h) (Or.inl ⟨by kernel_rfl, fun W hW => ?y30⟩) hHeld ?r30
            · go_simp
            refine wpAnyH_ready (rs := [21]) (by kernel_rfl) (by simp) ?_
            refine AllReadyH.cons rfl (fun K hK => ?_) AllReadyH.nil
            go_simp
            refine hK.out _ _ (t1012.then_no t14) (fun hHeld => ?_)
            clear hK
            refine wpAnyH_done (by kernel_rfl) ?_ _
            go_wp2_with fail
            go_ret
            exact ⟨rfl, TF⟩
          · rw [e1] at hd1
            unfold ptr opX at hd1
            go_wp2_with fail
            refine hd1.mono ?_
            rintro e w9 ⟨rfl, hT9, t9⟩
            have cA := hT9.calls.1
            have hon := hT9.on
            unfold ptr at cA hon
            simp only [Bool.not_true] at cA hon
            have hz9 := hz.out w9 63
            have HT9 := shut hT9
            have hne : (((s.n + 1 : Nat) : Int) == (s.n : Int)) = false := by simp; omega
            have TT9 : Turn (old (w.heap.size + 1)) w4 w9 := TT7.trans t9 (fun k _ q => by have : B ≤ k := q; show w.heap.size + 1 ≤ k; have := HBW.out; omega)
            have hA9 := HA7.out.turn t9 (fun q => by have : B ≤ w.heap.size + 1 := q; have := HBW.out; omega)
            have hd2 := HT9.out.does2 (by have := t9.size; omega) (by omega) (by omega) (HO7.out.turn t9 (fun k hk => hk)) HA7.out.vd HA7.out.vk
            rw [e2] at hd2
            clear hd1 hT9
            obtain ⟨_, _, g0, g1, g2, g3, g4, g5, g6, g7, g8, g9⟩ := id hA9
            simp only [Nat.zero_add] at g0 g1 g2 g3 g4 g5 g6 g7 g8 g9
            unfold ptr opX at hd2
            go_wp2_with fail
            refine cA.mono ?_
            rintro e w10 ⟨rfl, rfl⟩
            go_wp2_with fail
            refine hz9.mono ?_
            rintro e w10 ⟨rfl, rfl⟩
            go_wp2_with fail
            refine hon.mono ?_
            rintro e w10 ⟨rfl, rfl⟩
            clear cA hz9 hon
            cases dn
            · have HTc : Shut (Two B w10 p q { s with n := s.n + 1, m := s.m + 1, off := true, fs := s.fs } s) := HT9
              have TTc := TT9
              have hCo : s.out = false := hC.out
              have hcA := HTc.out.crashed (by exact hCo)
              unfold ptr at hcA
              go_wp2_with fail
              refine hcA.mono ?_
              rintro e w11 ⟨v11, rfl, I11, ⟨KB, DB, hKB, hKl⟩, t11⟩
              obtain ⟨x11, y11, rfl, _⟩ := I11.form
              obtain ⟨w12, hw12⟩ : ∃ w12, w12 = w11.alloc (.cells #[.slice x11 (crashL s.fs [] 0).length y11] 24) := ⟨_, rfl⟩
              have A12 : Turn no w11 w12 := by rw [hw12]; exact (Turn.refl no w11).alloc _
              have R12 : Row w12 w11.heap.size #[.slice x11 (crashL s.fs [] 0).length y11] 24 := by rw [hw12]; exact Row.new _ _ _
              have hcB := crashed16 (DB.turn_no A12) (by exact hC.out)
              have I12 := I11.turn_no A12
              have TT12 : Turn (old (w.heap.size + 1)) w4 w12 := (TTc.trans t11 (fun k _ q => by have : B ≤ k := q; show w.heap.size + 1 ≤ k; have := HBW.out; omega)).then_no A12
              try simp only at hcB
              unfold ptr at hcB
              generalize hL : crashL s.fs [] 0 = fl at *
              have s11 := t11.size
              clear hcA I11 HTc DB
              go_wp2_with fail
              try rw [← hw12]
              refine hcB.mono ?_
              rintro e w13 ⟨v13, rfl, I13, t13⟩
              obtain ⟨x13, y13, rfl, _⟩ := I13.form
              obtain ⟨w14, hw14⟩ : ∃ w14, w14 = w13.alloc (.cells #[.slice x13 fl.length y13] 24) := ⟨_, rfl⟩
              have A14 : Turn no w13 w14 := by rw [hw14]; exact (Turn.refl no w13).alloc _
              have R14 : Row w14 w13.heap.size #[.slice x13 fl.length y13] 24 := by rw [hw14]; exact Row.new _ _ _
              have I12' : Im _ w14 (.slice x11 fl.length y11) fl := (I12.turn t13 (fun k z => hKl k z)).turn_no A14
              have R12' : Row w14 w11.heap.size #[.slice x11 fl.length y11] 24 := (R12.turn t13 (fun z => by have := hKl _ z; omega)).turn A14 (fun q => q)
              have hsi := sameImage27 I12' (I13.turn_no A14)
              have z1 : (w13.alloc (.cells #[.slice x13 fl.length y13] 24)).cell? ⟨w13.heap.size, 0, none⟩ = some (.slice x13 fl.length y13) := by rw [← hw14]; exact R14.cell 0 _ rfl
              have z2 : (w13.alloc (.cells #[.slice x13 fl.length y13] 24)).cell? ⟨w11.heap.size, 0, none⟩ = some (.slice x11 fl.length y11) := by rw [← hw14]; exact R12'.cell 0 _ rfl
              have TF : Turn no w w14 := (T4.trans (TT12.trans t13 (fun k _ q => by have := hKB k q; show w.heap.size + 1 ≤ k; have := HBW.out; omega)) (fun k hk q => by have : w.heap.size + 1 ≤ k := q; omega)).then_no A14
              clear hcB I13 I12 I12' R12 R12' R14
              go_wp2_with fail
              try rw [← hw14]
              refine hsi.mono ?_
              rintro e w15 ⟨rfl, t15⟩
              go_wp2_with fail
              go_ret
              exact ⟨rfl, TF.then_no t15⟩
            · simp only [if_true] at HT9 hd2
              go_wp2_with fail
              refine hd2.mono ?_
              rintro e w10b ⟨rfl, hT10, t10⟩
              have HTc := shut hT10
              have TTc : Turn (old (w.heap.size + 1)) w4 w10b := TT9.trans t10 (fun k _ q => by have : B ≤ k := q; show w.heap.size + 1 ≤ k; have := HBW.out; omega)
              have hCo : s.out = false := hC.out
              have hzb := hz.out w10b 0
              clear hd2 hT10
              go_wp2_with fail
              refine hzb.mono ?_
              rintro e w10c ⟨rfl, rfl⟩
              have hcA := HTc.out.crashed (by exact hCo)
              unfold ptr at hcA
              go_wp2_with fail
              refine hcA.mono ?_
              rintro e w11 ⟨v11, rfl, I11, ⟨KB, DB, hKB, hKl⟩, t11⟩
              obtain ⟨x11, y11, rfl, _⟩ := I11.form
              obtain ⟨w12, hw12⟩ : ∃ w12, w12 = w11.alloc (.cells #[.slice x11 (crashL l [] 0).length y11] 24) := ⟨_, rfl⟩
              have A12 : Turn no w11 w12 := by rw [hw12]; exact (Turn.refl no w11).alloc _
              have R12 : Row w12 w11.heap.size #[.slice x11 (crashL l [] 0).length y11] 24 := by rw [hw12]; exact Row.new _ _ _
              have hcB := crashed16 (DB.turn_no A12) (by exact hC.out)
              have I12 := I11.turn_no A12
              have TT12 : Turn (old (w.heap.size + 1)) w4 w12 := (TTc.trans t11 (fun k _ q => by have : B ≤ k := q; show w.heap.size + 1 ≤ k; have := HBW.out; omega)).then_no A12
              try simp only at hcB
              unfold ptr at hcB
              generalize hL : crashL l [] 0 = fl at *
              have s11 := t11.size
              clear hcA I11 HTc DB
              go_wp2_with fail
              try rw [← hw12]
              refine hcB.mono ?_
              rintro e w13 ⟨v13, rfl, I13, t13⟩
              obtain ⟨x13, y13, rfl, _⟩ := I13.form
              obtain ⟨w14, hw14⟩ : ∃ w14, w14 = w13.alloc (.cells #[.slice x13 fl.length y13] 24) := ⟨_, rfl⟩
              have A14 : Turn no w13 w14 := by rw [hw14]; exact (Turn.refl no w13).alloc _
              have R14 : Row w14 w13.heap.size #[.slice x13 fl.length y13] 24 := by rw [hw14]; exact Row.new _ _ _
              have I12' : Im _ w14 (.slice x11 fl.length y11) fl := (I12.turn t13 (fun k z => hKl k z)).turn_no A14
              have R12' : Row w14 w11.heap.size #[.slice x11 fl.length y11] 24 := (R12.turn t13 (fun z => by have := hKl _ z; omega)).turn A14 (fun q => q)
              have hsi := sameImage27 I12' (I13.turn_no A14)
              have z1 : (w13.alloc (.cells #[.slice x13 fl.length y13] 24)).cell? ⟨w13.heap.size, 0, none⟩ = some (.slice x13 fl.length y13) := by rw [← hw14]; exact R14.cell 0 _ rfl
              have z2 : (w13.alloc (.cells #[.slice x13 fl.length y13] 24)).cell? ⟨w11.heap.size, 0, none⟩ = some (.slice x11 fl.length y11) := by rw [← hw14]; exact R12'.cell 0 _ rfl
              have TF : Turn no w w14 := (T4.trans (TT12.trans t13 (fun k _ q => by have := hKB k q; show w.heap.size + 1 ≤ k; have := HBW.out; omega)) (fun k hk q => by have : w.heap.size + 1 ≤ k := q; omega)).then_no A14
              clear hcB I13 I12 I12' R12 R12' R14
              go_wp2_with fail
              try rw [← hw14]
              refine hsi.mono ?_
              rintro e w15 ⟨rfl, t15⟩
              go_wp2_with fail
              go_ret
              exact ⟨rfl, TF.then_no t15⟩
        · have k1 : decide (o.kind < 3) = false := by simp; omega
          have k2 : decide (5 < o.kind) = true := by simp; omega
          have hkk := hkb
          clear hT' RO RQ hT tq hob
          have hsn : s.n ≤ 1000000000000000 := by omega
          have hcl := HT.calls.1
          unfold ptr at hcl
          go_wp2_with fail
          try rw [← hwq]
          clear hwq zf
          refine hcl.mono ?_
          rintro e w5 ⟨rfl, rfl⟩
          have har := HT.arm1 hBq (by omega) (by omega) (powT dn)
          rw [arm_pow hC dn] at har
          unfold ptr trV powT at har
          clear hcl
          go_wp2_with fail
          refine har.mono ?_
          rintro e w7 ⟨rfl, hT7, t7⟩
          have hz7 := hz.out w7 0
          have TT7 : Turn (old (w.heap.size + 1)) w4 w7 := TW.trans t7 (fun k _ q => by have : B ≤ k := q; show w.heap.size + 1 ≤ k; have := HBW.out; omega)
          have hB7 : B ≤ w7.heap.size := by have := t7.size; omega
          have hA7 := OA.turn t7 (fun q => by have : B ≤ w.heap.size + 1 := q; have := HBW.out; omega)
          have hO7 := OX.turn t7 (fun k hk => hk)
          have HT7 : Shut (Two B w7 p q (armS s (powT dn)).1 s) := by
            show Two B w7 p q (armS s (powT dn)).1 s
            rw [arm_pow hC dn]
            exact hT7
          clear har hT7 OA OX HT
          go_wp2_with fail
          refine hz7.mono ?_
          rintro e w8 ⟨rfl, rfl⟩
          obtain ⟨_, _, d0, d1, d2, d3, d4, d5, d6, d7, d8, d9⟩ := id hA7
          simp only [Nat.zero_add] at d0 d1 d2 d3 d4 d5 d6 d7 d8 d9
          have hd1 := HT7.out.does1 hB7 (by rw [arm_pow hC dn]; simp only; omega) (by rw [arm_pow hC dn]; simp only; omega) hO7 hA7.vd hA7.vk
          have HO7 := shut hO7
          have HA7 := shut hA7
          clear hO7 hA7
          rcases pow_do hC ob hkk dn with ⟨hp, e1, e2⟩ | ⟨l, e1, e2⟩
          · obtain ⟨r1, _⟩ := plan_refused s ob ⟨by omega, by omega⟩ hp
            rw [e1] at hd1
            have r1' : ((planS s ob).2 != 0) = true := by simpa using r1
            have H2 : Shut (∀ W, Turn (old B) w8 W → Two B W p q (armS s (powT dn)).1 s → OpAt W (w.heap.size + 1) 0 ob va vn vc ka kn kc ∧ (Calls Try.prog 10 #[ptr q, opX ob va vn vc ka kn kc] W fun e w' => e = .returned (.int .i64 (planS s ob).2) ∧ Two B w' p q (armS s (powT dn)).1 s ∧ Turn (old B) W w')) := fun W t hW => by
              refine ⟨HA7.out.turn t (fun q => by have : B ≤ w.heap.size + 1 := q; have := HBW.out; omega), ?_⟩
              have := hW.does2 (by have := t.size; omega) (by omega) (by omega) (HO7.out.turn t (fun k hk => hk)) HA7.out.vd HA7.out.vk
              rw [e2] at this
              exact this
            have htl : Shut (tellL s = tellL (armS s (powT dn)).1 ∧ s.off = (armS s (powT dn)).1.off) := by
              show _ ∧ _
              rw [arm_pow hC dn]
              exact ⟨rfl, rfl⟩
            have hn2 : (armS s (powT dn)).1.n = s.n := by rw [arm_pow hC dn]
            have hof2 : (armS s (powT dn)).1.off = false := by rw [← htl.out.2]; exact hC.off
            generalize (planS s ob).2 = E at *
            have HH := shut e1
            clear e1 e2 hp r1
            unfold ptr opX at *
            go_wp2_with fail
            refine hd1.mono ?_
            rintro e w9 ⟨rfl, hT9, t9⟩
            have hcl9 := hT9.calls.1
            rw [hn2] at hcl9
            have hon9 := hT9.on
            rw [hof2] at hon9
            unfold ptr at hcl9 hon9
            have hA9 := H2.out w9 t9 hT9
            have HT9 := shut hT9
            clear hd1 hT9
            go_wp2_with fail
            refine hcl9.mono ?_
            rintro e w10 ⟨rfl, rfl⟩
            clear hcl9
            go_wp2_with fail
            have cur0 : Turn no w10 w10.drew := (Turn.refl no w10).drew
            have HTd := shut (HT9.out.turn_no cur0)
            have hond := HTd.out.on
            rw [hof2] at hond
            have hdo := (H2.out w10.drew (t9.then_no cur0) HTd.out).2
            have hD : ∀ W, Turn (old B) w10 W → OpAt W (w.heap.size + 1) 0 ob va vn vc ka kn kc := fun W t => hA9.1.turn t (fun q => by have : B ≤ w.heap.size + 1 := q; have := HBW.out; omega)
            have HD := shut hD
            unfold ptr at hond
            clear hA9 hD hon9
            refine wp_region_held_drew (S := fun W => Turn (old B) w10 W) (by kernel_rfl) (Turn.refl _ w10).drew (fun hHeld => ?_)
            refine' wpAnyH_take (i := 0) (v := .int .i64 E) rfl (by kernel_rfl) (by kernel_rfl) (by kernel_rfl) (fun _ _ _ h => h) (Or.inl ⟨by kernel_rfl, fun W hW => ?y31⟩) hHeld ?r31
            · go_simp
            refine wpAnyH_ready (rs := [1]) (by kernel_rfl) (by simp) ?_
            refine AllReadyH.cons rfl (fun K hK => ?_) AllReadyH.nil
            go_simp
            refine (hz.out _ E).mono ?_
            rintro e w11 ⟨rfl, rfl⟩
            refine hK.out _ _ hHeld (fun hHeld => ?_)
            clear hK
            refine' wpAnyH_take (i := 2) (v := .bool true) rfl (by kernel_rfl) (by kernel_rfl) (by kernel_rfl) (fun _ _ _ h => h) (Or.inl ⟨by kernel_rfl, fun W hW => ?y32⟩) hHeld ?r32
            · go_simp
            refine' wpAnyH_take (i := 3) (v := .bool true) rfl (by kernel_rfl) (by kernel_rfl) (by kernel_rfl) (fun _ _ _ h => h) (Or.inl ⟨by kernel_rfl, fun W hW => ?y33⟩) hHeld ?r33
            · go_simp
            refine' wpAnyH_take (i := 4) (v := .pointer (some ⟨p, 0, none⟩)) rfl (by kernel_rfl) (by kernel_rfl) (by kernel_rfl) (fun _ _ _ h => h) (Or.inl ⟨by kernel_rfl, fun W hW => ?y34⟩) hHeld ?r34
            · go_simp
            refine wpAnyH_ready (rs := [5]) (by kernel_rfl) (by simp) ?_
            refine AllReadyH.cons rfl (fun K hK => ?_) AllReadyH.nil
            go_simp
            refine hond.mono ?_
            rintro e w11 ⟨rfl, rfl⟩
            refine hK.out _ _ hHeld (fun hHeld => ?_)
            clear hK
            refine' wpAnyH_take (i := 6) (v := .bool true) rfl (by kernel_rfl) (by kernel_rfl) (by kernel_rfl) (fun _ _ _ h => h) (Or.inl ⟨by kernel_rfl, fun W hW => ?y35⟩) hHeld ?r35
            · go_simp
            refine' wpAnyH_take (i := 7) (v := .bool true) rfl (by kernel_rfl) (by kernel_rfl) (by kernel_rfl) (fun _ _ _ h => h) (Or.inl ⟨by kernel_rfl, fun W hW => ?y36⟩) hHeld ?r36
            · go_simp
            refine' wpAnyH_take (i := 8) (v := .int .i64 E) rfl (by kernel_rfl) (by kernel_rfl) (by kernel_rfl) (fun _ _ _ h => h) (Or.inl ⟨by kernel_rfl, fun W hW => ?y37⟩) hHeld ?r37
            · go_simp
            refine' wpAnyH_take (i := 10) (v := .pointer (some ⟨q, 0, none⟩)) rfl (by kernel_rfl) (by kernel_rfl) (by kernel_rfl) (fun _ _ _ h => h) (Or.inl ⟨by kernel_rfl, fun W hW => ?y38⟩) hHeld ?r38
            · go_simp
            refine' wpAnyH_take (i := 11) (v := .agg #[.int .i64 ob.kind, .int .i64 ob.who, .string ⟨ob.nm.toArray⟩, .slice va vn vc, .int .i64 ob.n, .int .i64 ob.t.when, .int .i64 ob.t.kind, .bool ob.t.done, .slice ka kn kc, .int .u8 ob.junk.toNat]) rfl (by kernel_rfl) (by kernel_rfl) (by kernel_rfl) (fun _ _ _ h => h) (Or.inl ⟨by kernel_rfl, fun W hW => ?y39⟩) hHeld ?r39
            · obtain ⟨_, _, g0, g1, g2, g3, g4, g5, g6, g7, g8, g9⟩ := HD.out W hW
              simp only [Nat.zero_add] at g0 g1 g2 g3 g4 g5 g6 g7 g8 g9
              go_simp
            refine wpAnyH_ready (rs := [9]) (by kernel_rfl) (by simp) ?_
            refine AllReadyH.cons rfl (fun K hK => ?_) AllReadyH.nil
            go_simp
            refine (hz.out _ E).mono ?_
            rintro e w11 ⟨rfl, rfl⟩
            refine hK.out _ _ hHeld (fun hHeld => ?_)
            clear hK
            refine wpAnyH_ready (rs := [12]) (by kernel_rfl) (by simp) ?_
            refine AllReadyH.cons rfl (fun K hK => ?_) AllReadyH.nil
            go_simp
            refine hdo.mono ?_
            rintro e w12 ⟨rfl, hT12, t12⟩
            have t1012 : Turn (old B) w10 w12 := ((Turn.refl (old B) w10).drew).trans t12 (fun _ _ q => q)
            have hal := hT12.alike htl.out.1 htl.out.2
            unfold ptr at hal
            refine hK.out _ _ t1012 (fun hHeld => ?_)
            clear hK hdo
            refine wpAnyH_ready (rs := [13]) (by kernel_rfl) (by simp) ?_
            refine AllReadyH.cons rfl (fun K hK => ?_) AllReadyH.nil
            go_simp
            refine (hz.out _ E).mono ?_
            rintro e w13 ⟨rfl, rfl⟩
            refine hK.out _ _ t1012 (fun hHeld => ?_)
            clear hK
            refine' wpAnyH_take (i := 14) (v := .bool true) rfl (by kernel_rfl) (by kernel_rfl) (by kernel_rfl) (fun _ _ _ h => h) (Or.inl ⟨by kernel_rfl, fun W hW => ?y40⟩) hHeld ?r40
            · go_simp
            refine' wpAnyH_take (i := 15) (v := .bool true) rfl (by kernel_rfl) (by kernel_rfl) (by kernel_rfl) (fun _ _ _ h => h) (Or.inl ⟨by kernel_rfl, fun W hW => ?y41⟩) hHeld ?r41
            · go_simp
            refine' wpAnyH_take (i := 16) (v := .bool true) rfl (by kernel_rfl) (by kernel_rfl) (by kernel_rfl) (fun _ _ _ h => h) (Or.inl ⟨by kernel_rfl, fun W hW => ?y42⟩) hHeld ?r42
            · go_simp
            refine' wpAnyH_take (i := 17) (v := .pointer (some ⟨p, 0, none⟩)) rfl (by kernel_rfl) (by kernel_rfl) (by kernel_rfl) (fun _ _ _ h => h) (Or.inl ⟨by kernel_rfl, fun W hW => ?y43⟩) hHeld ?r43
            · go_simp
            refine' wpAnyH_take (i := 18) (v := .pointer (some ⟨q, 0, none⟩)) rfl (by kernel_rfl) (by kernel_rfl) (by kernel_rfl) (fun _ _ _ h => h) (Or.inl ⟨by kernel_rfl, fun W hW => ?y44⟩) hHeld ?r44
            · go_simp
            refine wpAnyH_ready (rs := [19]) (by kernel_rfl) (by simp) ?_
            refine AllReadyH.cons rfl (fun K hK => ?_) AllReadyH.nil
            go_simp
            refine hal.mono ?_
            rintro e w14 ⟨rfl, t14⟩
            have TF : Turn no w w14 := T4.trans ((TT7.trans t9 (fun k _ q => by have : B ≤ k := q; show w.heap.size + 1 ≤ k; have := HBW.out; omega)).trans (t1012.then_no t14) (fun k _ q => by have : B ≤ k := q; show w.heap.size + 1 ≤ k; have := HBW.out; omega)) (fun k hk q => by have : w.heap.size + 1 ≤ k := q; omega)
            refine hK.out _ _ (t1012.then_no t14) (fun hHeld => ?_)
            clear hK
            refine' wpAnyH_take (i := 20) (v := .bool true) rfl (by kernel_rfl) (by kernel_rfl) (by kernel_rfl) (fun _ _ _ h => h) (Or.inl ⟨by kernel_rfl, fun W hW => ?y45⟩) hHeld ?r45
            · go_simp
            refine wpAnyH_ready (rs := [21]) (by kernel_rfl) (by simp) ?_
            refine AllReadyH.cons rfl (fun K hK => ?_) AllReadyH.nil
            go_simp
            refine hK.out _ _ (t1012.then_no t14) (fun hHeld => ?_)
            clear hK
            refine wpAnyH_done (by kernel_rfl) ?_ _
            go_wp2_with fail
            go_ret
            exact ⟨rfl, TF⟩
          · rw [e1] at hd1
            unfold ptr opX at hd1
            go_wp2_with fail
            refine hd1.mono ?_
            rintro e w9 ⟨rfl, hT9, t9⟩
            have cA := hT9.calls.1
            have hon := hT9.on
            unfold ptr at cA hon
            simp only [Bool.not_true] at cA hon
            have hz9 := hz.out w9 63
            have HT9 := shut hT9
            have hne : (((s.n + 1 : Nat) : Int) == (s.n : Int)) = false := by simp; omega
            have TT9 : Turn (old (w.heap.size + 1)) w4 w9 := TT7.trans t9 (fun k _ q => by have : B ≤ k := q; show w.heap.size + 1 ≤ k; have := HBW.out; omega)
            have hA9 := HA7.out.turn t9 (fun q => by have : B ≤ w.heap.size + 1 := q; have := HBW.out; omega)
            have hd2 := HT9.out.does2 (by have := t9.size; omega) (by omega) (by omega) (HO7.out.turn t9 (fun k hk => hk)) HA7.out.vd HA7.out.vk
            rw [e2] at hd2
            clear hd1 hT9
            obtain ⟨_, _, g0, g1, g2, g3, g4, g5, g6, g7, g8, g9⟩ := id hA9
            simp only [Nat.zero_add] at g0 g1 g2 g3 g4 g5 g6 g7 g8 g9
            unfold ptr opX at hd2
            go_wp2_with fail
            refine cA.mono ?_
            rintro e w10 ⟨rfl, rfl⟩
            go_wp2_with fail
            refine hz9.mono ?_
            rintro e w10 ⟨rfl, rfl⟩
            go_wp2_with fail
            refine hon.mono ?_
            rintro e w10 ⟨rfl, rfl⟩
            clear cA hz9 hon
            cases dn
            · have HTc : Shut (Two B w10 p q { s with n := s.n + 1, m := s.m + 1, off := true, fs := s.fs } s) := HT9
              have TTc := TT9
              have hCo : s.out = false := hC.out
              have hcA := HTc.out.crashed (by exact hCo)
              unfold ptr at hcA
              go_wp2_with fail
              refine hcA.mono ?_
              rintro e w11 ⟨v11, rfl, I11, ⟨KB, DB, hKB, hKl⟩, t11⟩
              obtain ⟨x11, y11, rfl, _⟩ := I11.form
              obtain ⟨w12, hw12⟩ : ∃ w12, w12 = w11.alloc (.cells #[.slice x11 (crashL s.fs [] 0).length y11] 24) := ⟨_, rfl⟩
              have A12 : Turn no w11 w12 := by rw [hw12]; exact (Turn.refl no w11).alloc _
              have R12 : Row w12 w11.heap.size #[.slice x11 (crashL s.fs [] 0).length y11] 24 := by rw [hw12]; exact Row.new _ _ _
              have hcB := crashed16 (DB.turn_no A12) (by exact hC.out)
              have I12 := I11.turn_no A12
              have TT12 : Turn (old (w.heap.size + 1)) w4 w12 := (TTc.trans t11 (fun k _ q => by have : B ≤ k := q; show w.heap.size + 1 ≤ k; have := HBW.out; omega)).then_no A12
              try simp only at hcB
              unfold ptr at hcB
              generalize hL : crashL s.fs [] 0 = fl at *
              have s11 := t11.size
              clear hcA I11 HTc DB
              go_wp2_with fail
              try rw [← hw12]
              refine hcB.mono ?_
              rintro e w13 ⟨v13, rfl, I13, t13⟩
              obtain ⟨x13, y13, rfl, _⟩ := I13.form
              obtain ⟨w14, hw14⟩ : ∃ w14, w14 = w13.alloc (.cells #[.slice x13 fl.length y13] 24) := ⟨_, rfl⟩
              have A14 : Turn no w13 w14 := by rw [hw14]; exact (Turn.refl no w13).alloc _
              have R14 : Row w14 w13.heap.size #[.slice x13 fl.length y13] 24 := by rw [hw14]; exact Row.new _ _ _
              have I12' : Im _ w14 (.slice x11 fl.length y11) fl := (I12.turn t13 (fun k z => hKl k z)).turn_no A14
              have R12' : Row w14 w11.heap.size #[.slice x11 fl.length y11] 24 := (R12.turn t13 (fun z => by have := hKl _ z; omega)).turn A14 (fun q => q)
              have hsi := sameImage27 I12' (I13.turn_no A14)
              have z1 : (w13.alloc (.cells #[.slice x13 fl.length y13] 24)).cell? ⟨w13.heap.size, 0, none⟩ = some (.slice x13 fl.length y13) := by rw [← hw14]; exact R14.cell 0 _ rfl
              have z2 : (w13.alloc (.cells #[.slice x13 fl.length y13] 24)).cell? ⟨w11.heap.size, 0, none⟩ = some (.slice x11 fl.length y11) := by rw [← hw14]; exact R12'.cell 0 _ rfl
              have TF : Turn no w w14 := (T4.trans (TT12.trans t13 (fun k _ q => by have := hKB k q; show w.heap.size + 1 ≤ k; have := HBW.out; omega)) (fun k hk q => by have : w.heap.size + 1 ≤ k := q; omega)).then_no A14
              clear hcB I13 I12 I12' R12 R12' R14
              go_wp2_with fail
              try rw [← hw14]
              refine hsi.mono ?_
              rintro e w15 ⟨rfl, t15⟩
              go_wp2_with fail
              go_ret
              exact ⟨rfl, TF.then_no t15⟩
            · simp only [if_true] at HT9 hd2
              go_wp2_with fail
              refine hd2.mono ?_
              rintro e w10b ⟨rfl, hT10, t10⟩
              have HTc := shut hT10
              have TTc : Turn (old (w.heap.size + 1)) w4 w10b := TT9.trans t10 (fun k _ q => by have : B ≤ k := q; show w.heap.size + 1 ≤ k; have := HBW.out; omega)
              have hCo : s.out = false := hC.out
              have hzb := hz.out w10b 0
              clear hd2 hT10
              go_wp2_with fail
              refine hzb.mono ?_
              rintro e w10c ⟨rfl, rfl⟩
              have hcA := HTc.out.crashed (by exact hCo)
              unfold ptr at hcA
              go_wp2_with fail
              refine hcA.mono ?_
              rintro e w11 ⟨v11, rfl, I11, ⟨KB, DB, hKB, hKl⟩, t11⟩
              obtain ⟨x11, y11, rfl, _⟩ := I11.form
              obtain ⟨w12, hw12⟩ : ∃ w12, w12 = w11.alloc (.cells #[.slice x11 (crashL l [] 0).length y11] 24) := ⟨_, rfl⟩
              have A12 : Turn no w11 w12 := by rw [hw12]; exact (Turn.refl no w11).alloc _
              have R12 : Row w12 w11.heap.size #[.slice x11 (crashL l [] 0).length y11] 24 := by rw [hw12]; exact Row.new _ _ _
              have hcB := crashed16 (DB.turn_no A12) (by exact hC.out)
              have I12 := I11.turn_no A12
              have TT12 : Turn (old (w.heap.size + 1)) w4 w12 := (TTc.trans t11 (fun k _ q => by have : B ≤ k := q; show w.heap.size + 1 ≤ k; have := HBW.out; omega)).then_no A12
              try simp only at hcB
              unfold ptr at hcB
              generalize hL : crashL l [] 0 = fl at *
              have s11 := t11.size
              clear hcA I11 HTc DB
              go_wp2_with fail
              try rw [← hw12]
              refine hcB.mono ?_
              rintro e w13 ⟨v13, rfl, I13, t13⟩
              obtain ⟨x13, y13, rfl, _⟩ := I13.form
              obtain ⟨w14, hw14⟩ : ∃ w14, w14 = w13.alloc (.cells #[.slice x13 fl.length y13] 24) := ⟨_, rfl⟩
              have A14 : Turn no w13 w14 := by rw [hw14]; exact (Turn.refl no w13).alloc _
              have R14 : Row w14 w13.heap.size #[.slice x13 fl.length y13] 24 := by rw [hw14]; exact Row.new _ _ _
              have I12' : Im _ w14 (.slice x11 fl.length y11) fl := (I12.turn t13 (fun k z => hKl k z)).turn_no A14
              have R12' : Row w14 w11.heap.size #[.slice x11 fl.length y11] 24 := (R12.turn t13 (fun z => by have := hKl _ z; omega)).turn A14 (fun q => q)
              have hsi := sameImage27 I12' (I13.turn_no A14)
              have z1 : (w13.alloc (.cells #[.slice x13 fl.length y13] 24)).cell? ⟨w13.heap.size, 0, none⟩ = some (.slice x13 fl.length y13) := by rw [← hw14]; exact R14.cell 0 _ rfl
              have z2 : (w13.alloc (.cells #[.slice x13 fl.length y13] 24)).cell? ⟨w11.heap.size, 0, none⟩ = some (.slice x11 fl.length y11) := by rw [← hw14]; exact R12'.cell 0 _ rfl
              have TF : Turn no w w14 := (T4.trans (TT12.trans t13 (fun k _ q => by have := hKB k q; show w.heap.size + 1 ≤ k; have := HBW.out; omega)) (fun k hk q => by have : w.heap.size + 1 ≤ k := q; omega)).then_no A14
              clear hcB I13 I12 I12' R12 R12' R14
              go_wp2_with fail
              try rw [← hw14]
              refine hsi.mono ?_
              rintro e w15 ⟨rfl, t15⟩
              go_wp2_with fail
              go_ret
              exact ⟨rfl, TF.then_no t15⟩
end Go.Proofs.Ytcdogciacchigab
