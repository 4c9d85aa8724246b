/- LedgerSeated: the walk. -/
import Derived.Test.YtdbfbdhnjbmmjaaE2a
namespace Go.Proofs.Ytdbfbdhnjbmmjaa
open Go.RowKit
set_option linter.unusedVariables false

set_option maxRecDepth 100000 in
set_option maxHeartbeats 400000000 in
theorem seated3 (w : World) (va : Value) (l : List Ac) (ha : As w va l) (hl : l.length * 40 ≤ 140737488355328) (mb : Nat) (st : Int) (p2 p3 p4 p5 p6 p7 p8 p9 p10 p11 : Value) :
    Calls Try.prog 3 #[va, .agg #[.int .u64 mb, .int .i64 st, p2, p3, p4, p5, p6, p7, p8, p9, p10, p11]] w fun e w' => e = .returned (.bool true) ∧ Turn no w w' := by
  obtain ⟨P, hP⟩ : ∃ P : Array Value, Hid (P = #[.int .u64 mb, .int .i64 st, p2, p3, p4, p5, p6, p7, p8, p9, p10, p11]) := ⟨_, rfl⟩
  obtain ⟨w0, hw0⟩ : ∃ w0, w.alloc (.cells #[.int .u64 mb, .int .i64 st, p2, p3, p4, p5, p6, p7, p8, p9, p10, p11] 25) = w0 := ⟨_, rfl⟩
  have T0 : Turn no w w0 := by rw [← hw0]; exact (Turn.refl no w).alloc _
  have R0 : w0.heap[w.heap.size]? = some (.cells #[.int .u64 mb, .int .i64 st, p2, p3, p4, p5, p6, p7, p8, p9, p10, p11] 25 (0, 0)) := by rw [← hw0]; exact heap_alloc_new w _
  have HS0 : Shut (w.heap.size < w0.heap.size) := by show _ < _; rw [← hw0]; simp
  have hal := alive5 w0
  have HA := shut ha
  have HL := shut hl
  have HT0 := shut T0
  have HR0 := shut R0
  obtain ⟨a, cap, rfl, h⟩ := ha
  clear h T0 R0 hl
  go_enter Try.func3, Try.ntmps3
  go_wp2_with fail
  try rw [hw0]
  refine hal.mono ?_
  rintro e w1 ⟨rfl, t1⟩
  have HT1 := shut (HT0.out.then_no t1)
  have HR1 := shut (t1.obj HR0.out (fun q => q))
  have HS1 : Shut (w.heap.size < w1.heap.size) := Nat.lt_of_lt_of_le HS0.out t1.size
  have hn := new6 w1 _ l (HA.out.turn_no HT1.out) HL.out
  rw [new_same] at hn
  clear hal t1 HT0 HR0 HS0 hw0
  go_wp2_with fail
  refine hn.mono ?_
  rintro e w2 hq
  rcases hq with ⟨hE, v1, rfl, O1, f1, t2⟩ | ⟨hE, rfl, t2⟩
  · obtain ⟨a1, cap1, e1, _⟩ := id O1.form
    subst e1
    obtain ⟨sp, hsp⟩ : ∃ sp, wholeN 0 l [] = sp := ⟨_, rfl⟩
    rw [hsp]
    obtain ⟨w3, hw3⟩ : ∃ w3, w2.alloc (.cells #[.slice a1 l.length cap1, .slice none 0 0, .int .u64 0, .int .u64 sp] 29) = w3 := ⟨_, rfl⟩
    have t3 : Turn no w2 w3 := by rw [← hw3]; exact (Turn.refl no w2).alloc _
    have R3 : w3.heap[w2.heap.size]? = some (.cells #[.slice a1 l.length cap1, .slice none 0 0, .int .u64 0, .int .u64 sp] 29 (0, 0)) := by rw [← hw3]; exact heap_alloc_new w2 _
    have HS3 : Shut (w2.heap.size < w3.heap.size) := by show _ < _; rw [← hw3]; simp
    have HO3 := shut (O1.turn_no t3)
    have HT3 := shut ((HT1.out.then_no t2).then_no t3)
    have HR3 := shut R3
    have HP3 := shut ((t2.then_no t3).obj HR1.out (fun q => q))
    have HS2 : Shut (w.heap.size < w2.heap.size) := Nat.lt_of_lt_of_le HS1.out t2.size
    have hn7 := new7 w3 _ l (HA.out.turn_no HT3.out) HL.out
    rw [hE] at hn7
    have HAS := shut (scanA_asc l 0 (by
      unfold newE at hE
      split at hE
      · rename_i z; exact absurd hE z
      · rename_i z
        have q' : accE l = 0 := Classical.byContradiction z
        unfold accE at q'
        split at q'
        · cases q'
        · exact q')).1
    clear hn O1 f1 t2 t3 R3 hE HR1 HS1 HT1
    go_wp2_with fail
    try rw [hw3]
    refine hn7.mono ?_
    rintro e w4 ⟨x0, x1, x2, x3, rfl, t4⟩
    obtain ⟨w5, hw5⟩ : ∃ w5, w4.alloc (.cells #[.slice x0 x1 x2, .slice none 0 0, .int .u64 0, .int .u64 x3] 29) = w5 := ⟨_, rfl⟩
    have t5 : Turn no w4 w5 := by rw [← hw5]; exact (Turn.refl no w4).alloc _
    have t35 := t4.then_no t5
    have R5 := t35.obj HR3.out (fun q => q)
    have P5 := t35.obj HP3.out (fun q => q)
    have y0 := cell_of_row _ _ 0 _ 29 (0, 0) R5
    have y1 := cell_of_row _ _ 1 _ 29 (0, 0) R5
    have y2 := cell_of_row _ _ 2 _ 29 (0, 0) R5
    have y3 := cell_of_row _ _ 3 _ 29 (0, 0) R5
    have z0 := cell_of_row _ _ 0 _ 25 (0, 0) P5
    have z1 := cell_of_row _ _ 1 _ 25 (0, 0) P5
    have z2 := cell_of_row _ _ 2 _ 25 (0, 0) P5
    have z3 := cell_of_row _ _ 3 _ 25 (0, 0) P5
    have z4 := cell_of_row _ _ 4 _ 25 (0, 0) P5
    have z5 := cell_of_row _ _ 5 _ 25 (0, 0) P5
    have z6 := cell_of_row _ _ 6 _ 25 (0, 0) P5
    have z7 := cell_of_row _ _ 7 _ 25 (0, 0) P5
    have z8 := cell_of_row _ _ 8 _ 25 (0, 0) P5
    have z9 := cell_of_row _ _ 9 _ 25 (0, 0) P5
    have z10 := cell_of_row _ _ 10 _ 25 (0, 0) P5
    have z11 := cell_of_row _ _ 11 _ 25 (0, 0) P5
    have HR5 := shut R5
    have HP5 := shut P5
    have HO5 := shut (HO3.out.turn_no t35)
    have HT5 := shut (HT3.out.then_no t35)
    have HS5 : Shut (w2.heap.size < w5.heap.size) := Nat.lt_of_lt_of_le HS3.out t35.size
    have A5 : As w5 (.slice a1 l.length cap1) l := HO5.out.as HA.out.oks
    have HA5 := shut A5
    have hs := seats8 w5 _ (.slice none 0 0) l A5 HL.out HAS.out.inj 0 sp #[.int .u64 mb, .int .i64 st, p2, p3, p4, p5, p6, p7, p8, p9, p10, p11] mb st rfl rfl
    clear hn7 t4 t5 t35 R5 P5 HR3 HP3 HO3 HT3 HS3 A5 hw3 hP
    go_wp2_with fail
    try rw [hw5]
    refine hs.mono ?_
    rintro e w6 ⟨v6, q, rfl, hq, hsq, O6, t6⟩
    have HSE := shut (seated_of (st := st) HAS.out hq hsq)
    generalize l.filter (sitB (q.take (cnt st q.length))) = L at O6 HSE
    obtain ⟨a6, cap6, e6, _, _, hL6, hcap6⟩ := id O6.form
    subst e6
    have HR6 := shut (t6.obj HR5.out (fun q => q))
    have HP6 := shut (t6.obj HP5.out (fun q => q))
    have HA6 := shut (HA5.out.turn_no t6)
    have HT6 := shut (HT5.out.then_no t6)
    have HS6 : Shut (w2.heap.size < w6.heap.size) := Nat.lt_of_lt_of_le HS5.out t6.size
    have HO6 := shut O6
    clear hs hq hsq t6 HR5 HP5 HO5 HT5 HS5 HA5 y0 y1 y2 y3 z0 z1 z2 z3 z4 z5 z6 z7 z8 z9 z10 z11 hw5 O6
    go_wp2_with fail
    obtain ⟨w7, hw7⟩ : ∃ w7, w6.alloc (.cells #[.int .u64 0, .int .u64 0, .int .i64 0] 37) = w7 := ⟨_, rfl⟩
    rw [hw7]
    have t7 : Turn no w6 w7 := by rw [← hw7]; exact (Turn.refl no w6).alloc _
    have R7 : w7.heap[w6.heap.size]? = some (.cells #[.int .u64 0, .int .u64 0, .int .i64 0] 37 (0, 0)) := by rw [← hw7]; exact heap_alloc_new w6 _
    have hgo : ∀ g, (Value.slice a6 L.length cap6).ownBlock = some g → ¬ g = w6.heap.size := fun g hg e => by have := HO6.out.lt hg; omega
    have HK : Shut (∀ W, Turn (fun z => z = w6.heap.size) w7 W → W.heap[w2.heap.size]? = some (.cells #[.slice a1 l.length cap1, .slice none 0 0, .int .u64 0, .int .u64 sp] 29 (0, 0)) ∧ W.heap[w.heap.size]? = some (.cells #[.int .u64 mb, .int .i64 st, p2, p3, p4, p5, p6, p7, p8, p9, p10, p11] 25 (0, 0)) ∧ As W (.slice a1 l.length cap1) l ∧ OwnN W 37 3 (.slice a6 L.length cap6) L.length (meC L) ∧ Turn no w W) := fun W t => by
      have s2 := HS2.out
      have s6 := HS6.out
      have tt : Turn (fun z => z = w6.heap.size) w6 W := t7.of_no.trans t (fun _ _ e => e)
      exact ⟨tt.obj HR6.out (by omega), tt.obj HP6.out (by omega), HA6.out.turn_ge tt (fun k e => by omega), HO6.out.turn tt hgo, HT6.out.trans tt (fun i hi e => by have := HT6.out.size; omega)⟩
    have HR7 := shut R7
    have hLl : L.length ≤ 9223372036854775807 := by simp only [maxLen] at hcap6; omega
    have HL64 := shut HSE.out.few
    obtain ⟨n, hn⟩ : ∃ n, Hid (L.length = n) := ⟨_, rfl⟩
    have hn' : L.length = n := hn.out
    rw [hn'] at hLl HK
    rw [hn']
    generalize hKK : w6.heap.size = K at HK HR7
    have HKS : Shut (K < w7.heap.size) := by show _ < _; rw [← hw7, ← hKK]; simp
    try rw [hKK]
    clear hw7 t7 R7 hgo HR6 HP6 HA6 HO6 HT6 hn' hL6 hcap6 hKK HS6
    refine loop1 w w2 w7 l L K n mb sp st p2 p3 p4 p5 p6 p7 p8 p9 p10 p11 a1 a6 cap1 cap6 hn HK HR7 HAS HSE hLl _ _ _ _ _ _ _ _ _ _ _ _ _ _ _ _ _ _ _ _ _ _ _ _ _ _ _ _ _ _ _ _ _ _ _ _ _ _ _ _ _ _ _ _ _ _ _ _ _ _ _ _ _ _ _ _ _ _ _ _ _ _ _ _ _ _ _ _ _ _ _ _ _ _ _ _ _ _ _ _ _ _ _ _ _ _ _ _ _ _ _ _ _ _ _ _ _ _ _ _ _ _ _ _ _ _ _ _ _ _ _ _ _ _ _ _ _ _ _ _ _ _ _ _ _ _ _ _ _ _ _ _ _ _ _ _ _ _ _ _ _ _ _ _ _ _ _ _ _ _ _ _ _ _ _ _ _ _ _ _ _ _ _ _ _ _ _ _ _ _ _ _ _ _ _ _ _ _ _ _ _ _ _ _ _ _ _ _ _ _ _ _ _ _ _ _ _ _ _ _ _ _ _ _ _ _ _ _ _ _ _ _ _ _ _ _ _ _ _ _ ?_
    intro u4 u13 u40 u41 u42 u43 u44 u45 u46 u47 u48 u49 u50 u51 u52 u53 u54 u55 u56 u57 u58 u59 u60 u61 u62 u63 u64 u65 u66 u67 u68 u69 u70 u71 u72 u73 u74 u75 u76 u77 u78 u79 u80 u81 u82 u83 u84 u85 u86 u87 u88 u89 u90 u91 u92 u93 u94 u95 u96 u97 u98 u99 u100 u101 u102 u103 u104 u105 u106 u107 u108 u109 u110 u111 u112 u113 u114 u115 u116 u117 u118 u119 u120 u121 u122 u123 u124 u125 u126 u127 u128 wr HI
    obtain ⟨hR, hP, _, _, _⟩ := HK.out wr HI.out.1
    have HK2 : Shut (∀ W, Turn no wr W → W.heap[w2.heap.size]? = some (.cells #[.slice a1 l.length cap1, .slice none 0 0, .int .u64 0, .int .u64 sp] 29 (0, 0)) ∧ W.heap[w.heap.size]? = some (.cells #[.int .u64 mb, .int .i64 st, p2, p3, p4, p5, p6, p7, p8, p9, p10, p11] 25 (0, 0)) ∧ As W (.slice a1 l.length cap1) l ∧ OwnN W 37 3 (.slice a6 n cap6) n (meC L) ∧ Turn no w W ∧ LeastAt L K n W) := fun W t => by
      obtain ⟨q1, q2, q3, q4, q5⟩ := HK.out W (HI.out.1.then_no t)
      exact ⟨q1, q2, q3, q4, q5, HI.out.2.turn t⟩
    have z1 := cell_of_row _ _ 1 _ 25 (0, 0) hP
    have hg1 : ¬ (64 : Int) < (n : Int) := by have h1 := HL64.out; have h2 := hn.out; omega
    have hg1' : decide ((64 : Int) < (n : Int)) = false := by simp; have h1 := HL64.out; have h2 := hn.out; omega
    have HZ2 := shut z1
    have HST : Shut (0 < n → (n : Int) ≤ st) := fun h => by have := HSE.out.some; have h2 := hn.out; rw [h2] at this; exact this h
    obtain ⟨N, hN⟩ : ∃ N, Hid (l.length = N) := ⟨_, rfl⟩
    have hN' := hN.out
    have hNb : N ≤ 140737488355328 := by have := HL.out; omega
    rw [hN'] at HK2
    rw [hN']
    clear hR hP HK HI HR7 hN'
    go_upto_region 20 with fail
    go_cut [143] from 129 to 143 (fun c wy => c = .bool false ∧ wy = wr)
    case first =>
      by_cases h0 : n = 0
      · have h0' : ¬ (0 : Int) < (n : Int) := by omega
        clear h0
        go_wp2_with fail
        go_meet
        case rel => exact ⟨rfl, rfl⟩
      · have h0' : (0 : Int) < (n : Int) := by omega
        have h3 : ¬ st < (n : Int) := by have := HST.out (by omega); omega
        clear h0
        go_wp2_with fail
        go_meet
        case rel => exact ⟨rfl, rfl⟩
    case rest =>
      obtain ⟨rfl, rfl⟩ := hcut
      clear z1 hg1 hg1'
      go_wp2_with fail
      obtain ⟨wo, rfl⟩ : ∃ wo : World, wo = wc := ⟨_, rfl⟩
      go_loopw [14] (fun x wr => ∃ j : Nat, j ≤ N ∧ x = .int .i64 j ∧ Shut (Turn no wo wr)) (fun x _ => N - (intOf x).toNat)
      case atStart => exact ⟨0, by omega, rfl, Turn.refl _ _⟩
      case round =>
        obtain ⟨j, hj, rfl, HI⟩ := hrel
        obtain ⟨hR, hP, hA, hO, hT, hLe⟩ := HK2.out wr HI.out
        have z0 := cell_of_row _ _ 0 _ 29 (0, 0) hR
        by_cases hjN : j < N
        · obtain ⟨x, hx⟩ : ∃ x, l[j]? = some x := ⟨l[j]'(by rw [hN.out]; exact hjN), List.getElem?_eq_getElem _⟩
          obtain ⟨b1, off1, e1, c0, c1, c2, c3, c4⟩ := hA.cells j x hx
          subst e1
          have hxl : x ∈ l := List.mem_of_getElem? hx
          have hlt2 : (j : Int) < (N : Int) := by omega
          have hj1 : Hid (j + 1 ≤ N) := hjN
          have HXL := shut hxl
          clear hR hP hA hO hT hLe hx hxl
          go_wp2_with fail
          obtain ⟨wx, hwx⟩ : ∃ wx, wr.alloc (.cells #[.int .u64 x.ad, .int .u64 x.bal, .int .u64 x.bond, .int .u64 x.nonce, .bool x.jail] 39) = wx := ⟨_, rfl⟩
          have tx : Turn no wr wx := by rw [← hwx]; exact (Turn.refl no wr).alloc _
          have RX : wx.heap[wr.heap.size]? = some (.cells #[.int .u64 x.ad, .int .u64 x.bal, .int .u64 x.bond, .int .u64 x.nonce, .bool x.jail] 39 (0, 0)) := by rw [← hwx]; exact heap_alloc_new wr _
          try rw [hwx]
          have HTX := shut (HI.out.then_no tx)
          have HRX := shut RX
          clear hwx tx RX z0 c0 c1 c2 c3 c4 HI
          generalize wr.heap.size = B at *
          go_loopw [16, 17] (fun s c wr => ∃ i : Nat, i ≤ n ∧ c = .int .i64 i ∧ s = .bool ((L.take i).any (fun y => decide (y.ad = x.ad))) ∧ Shut (Turn no wx wr)) (fun _ c _ => n - (intOf c).toNat)
          case atStart => exact ⟨0, by omega, rfl, rfl, Turn.refl _ _⟩
          case round =>
            obtain ⟨i, hi, rfl, rfl, HI⟩ := hrel
            by_cases hin : i < n
            · obtain ⟨y, hy⟩ : ∃ y, L[i]? = some y := ⟨L[i]'(by rw [hn.out]; exact hin), List.getElem?_eq_getElem _⟩
              have hO' := (HK2.out wr (HTX.out.then_no HI.out)).2.2.2.1
              rw [← hn.out] at hO'
              obtain ⟨b6, e6, d0, _⟩ := mem_cells hO' i y hy
              subst e6
              have HDD : Shut (∀ W, Turn no wr W → W.cell? ⟨b6, i * 3, none⟩ = some (.int .u64 y.ad) ∧ W.cell? ⟨B, 0, none⟩ = some (.int .u64 x.ad)) := fun W t => ⟨t.keep d0 (fun q => q), cell_of_row _ _ 0 _ 39 (0, 0) ((HI.out.then_no t).obj HRX.out (fun q => q))⟩
              have hlt3 : (i : Int) < (n : Int) := by omega
              have hi1 : Hid (i + 1 ≤ n) := hin
              have HTK : Shut ((L.take (i + 1)).any (fun y => decide (y.ad = x.ad)) = ((L.take i).any (fun y => decide (y.ad = x.ad)) || decide (y.ad = x.ad))) := by
                obtain ⟨hk, rfl⟩ := List.getElem?_eq_some_iff.1 hy
                show _ = _
                rw [List.take_succ_eq_append_getElem hk, List.any_append, List.any_cons, List.any_nil, Bool.or_false]
              clear hO' d0 hy
              generalize (L.take i).any (fun y => decide (y.ad = x.ad)) = s at *
              cases s with
              | true =>
                go_upto_region 30 with fail
                refine wp_region_held_drew (S := fun W => Turn no wr W) (by kernel_rfl) (Turn.refl no wr).drew (fun hHeld => ?_)
                refine' wpAnyH_take (i := 0) (v := .bool true) rfl (by kernel_rfl) (by kernel_rfl) (by kernel_rfl) (fun _ _ _ h => h) (Or.inl ⟨by kernel_rfl, fun W hW => ?y1⟩) hHeld ?r1
                · go_simp
                refine' wpAnyH_take (i := 1) (v := .bool true) rfl (by kernel_rfl) (by kernel_rfl) (by kernel_rfl) (fun _ _ _ h => h) (Or.inl ⟨by kernel_rfl, fun W hW => ?y2⟩) hHeld ?r2
                · go_simp
                refine' wpAnyH_take (i := 2) (v := undef) rfl (by kernel_rfl) (by kernel_rfl) (by kernel_rfl) (fun _ _ _ h => h) (Or.inr ⟨by kernel_rfl, rfl⟩) hHeld ?r3
                refine' wpAnyH_take (i := 3) (v := undef) rfl (by kernel_rfl) (by kernel_rfl) (by kernel_rfl) (fun _ _ _ h => h) (Or.inr ⟨by kernel_rfl, rfl⟩) hHeld ?r4
                refine' wpAnyH_take (i := 4) (v := undef) rfl (by kernel_rfl) (by kernel_rfl) (by kernel_rfl) (fun _ _ _ h => h) (Or.inr ⟨by kernel_rfl, rfl⟩) hHeld ?r5
                refine' wpAnyH_take (i := 5) (v := undef) rfl (by kernel_rfl) (by kernel_rfl) (by kernel_rfl) (fun _ _ _ h => h) (Or.inr ⟨by kernel_rfl, rfl⟩) hHeld ?r6
                refine' wpAnyH_take (i := 6) (v := undef) rfl (by kernel_rfl) (by kernel_rfl) (by kernel_rfl) (fun _ _ _ h => h) (Or.inr ⟨by kernel_rfl, rfl⟩) hHeld ?r7
                refine' wpAnyH_take (i := 7) (v := undef) rfl (by kernel_rfl) (by kernel_rfl) (by kernel_rfl) (fun _ _ _ h => h) (Or.inr ⟨by kernel_rfl, rfl⟩) hHeld ?r8
                refine' wpAnyH_take (i := 8) (v := undef) rfl (by kernel_rfl) (by kernel_rfl) (by kernel_rfl) (fun _ _ _ h => h) (Or.inr ⟨by kernel_rfl, rfl⟩) hHeld ?r9
                refine' wpAnyH_take (i := 9) (v := undef) rfl (by kernel_rfl) (by kernel_rfl) (by kernel_rfl) (fun _ _ _ h => h) (Or.inr ⟨by kernel_rfl, rfl⟩) hHeld ?r10
                refine' wpAnyH_take (i := 10) (v := .bool true) rfl (by kernel_rfl) (by kernel_rfl) (by kernel_rfl) (fun _ _ _ h => h) (Or.inl ⟨by kernel_rfl, fun W hW => ?y11⟩) hHeld ?r11
                · go_simp
                refine' wpAnyH_take (i := 11) (v := .bool true) rfl (by kernel_rfl) (by kernel_rfl) (by kernel_rfl) (fun _ _ _ h => h) (Or.inl ⟨by kernel_rfl, fun W hW => ?y12⟩) hHeld ?r12
                · go_simp
                refine wpAnyH_done (by kernel_rfl) ?_ _
                go_simp
                have HN := shut (HI.out.then_no hHeld)
                clear hHeld HDD
                go_wp2_with fail
                go_roundw
                case rel => exact ⟨i + 1, hi1.out, by go_num, by rw [HTK.out]; rfl, HN⟩
                case measure => have := hi1.out; simp [intOf]; omega
              | false =>
                go_upto_region 30 with fail
                refine wp_region_held_drew (S := fun W => Turn no wr W) (by kernel_rfl) (Turn.refl no wr).drew (fun hHeld => ?_)
                refine' wpAnyH_take (i := 0) (v := .bool false) rfl (by kernel_rfl) (by kernel_rfl) (by kernel_rfl) (fun _ _ _ h => h) (Or.inl ⟨by kernel_rfl, fun W hW => ?y13⟩) hHeld ?r13
                · go_simp
                refine' wpAnyH_take (i := 1) (v := .bool false) rfl (by kernel_rfl) (by kernel_rfl) (by kernel_rfl) (fun _ _ _ h => h) (Or.inl ⟨by kernel_rfl, fun W hW => ?y14⟩) hHeld ?r14
                · go_simp
                refine' wpAnyH_take (i := 2) (v := .slice (some ⟨b6, 0, none⟩) n cap6) rfl (by kernel_rfl) (by kernel_rfl) (by kernel_rfl) (fun _ _ _ h => h) (Or.inl ⟨by kernel_rfl, fun W hW => ?y15⟩) hHeld ?r15
                · go_simp
                refine' wpAnyH_take (i := 3) (v := .int .i64 i) rfl (by kernel_rfl) (by kernel_rfl) (by kernel_rfl) (fun _ _ _ h => h) (Or.inl ⟨by kernel_rfl, fun W hW => ?y16⟩) hHeld ?r16
                · go_simp
                refine' wpAnyH_take (i := 4) (v := .pointer (some ⟨b6, i * 3, none⟩)) rfl (by kernel_rfl) (by kernel_rfl) (by kernel_rfl) (fun _ _ _ h => h) (Or.inl ⟨by kernel_rfl, fun W hW => ?y17⟩) hHeld ?r17
                · go_simp
                refine' wpAnyH_take (i := 5) (v := .pointer (some ⟨b6, i * 3, none⟩)) rfl (by kernel_rfl) (by kernel_rfl) (by kernel_rfl) (fun _ _ _ h => h) (Or.inl ⟨by kernel_rfl, fun W hW => ?y18⟩) hHeld ?r18
                · go_simp
                refine' wpAnyH_take (i := 6) (v := .int .u64 y.ad) rfl (by kernel_rfl) (by kernel_rfl) (by kernel_rfl) (fun _ _ _ h => h) (Or.inl ⟨by kernel_rfl, fun W hW => ?y19⟩) hHeld ?r19
                · obtain ⟨g0, g1⟩ := HDD.out W hW
                  go_simp
                refine' wpAnyH_take (i := 7) (v := .pointer (some ⟨B, 0, none⟩)) rfl (by kernel_rfl) (by kernel_rfl) (by kernel_rfl) (fun _ _ _ h => h) (Or.inl ⟨by kernel_rfl, fun W hW => ?y20⟩) hHeld ?r20
                · go_simp
                refine' wpAnyH_take (i := 8) (v := .int .u64 x.ad) rfl (by kernel_rfl) (by kernel_rfl) (by kernel_rfl) (fun _ _ _ h => h) (Or.inl ⟨by kernel_rfl, fun W hW => ?y21⟩) hHeld ?r21
                · obtain ⟨g0, g1⟩ := HDD.out W hW
                  go_simp
                refine' wpAnyH_take (i := 9) (v := .bool ((y.ad : Int) == (x.ad : Int))) rfl (by kernel_rfl) (by kernel_rfl) (by kernel_rfl) (fun _ _ _ h => h) (Or.inl ⟨by kernel_rfl, fun W hW => ?y22⟩) hHeld ?r22
                · go_simp
                refine' wpAnyH_take (i := 10) (v := .bool ((y.ad : Int) == (x.ad : Int))) rfl (by kernel_rfl) (by kernel_rfl) (by kernel_rfl) (fun _ _ _ h => h) (Or.inl ⟨by kernel_rfl, fun W hW => ?y23⟩) hHeld ?r23
                · go_simp
                refine' wpAnyH_take (i := 11) (v := .bool ((y.ad : Int) == (x.ad : Int))) rfl (by kernel_rfl) (by kernel_rfl) (by kernel_rfl) (fun _ _ _ h => h) (Or.inl ⟨by kernel_rfl, fun W hW => ?y24⟩) hHeld ?r24
                · go_simp
                refine wpAnyH_done (by kernel_rfl) ?_ _
                have HN := shut (HI.out.then_no hHeld)
                have HEQ : Shut ((false || decide (y.ad = x.ad)) = ((y.ad : Int) == (x.ad : Int))) := by
                  show _ = _
                  by_cases e : y.ad = x.ad
                  · simp [e]
                  · have : ¬ (y.ad : Int) = (x.ad : Int) := by omega
                    simp [e, this]
                clear hHeld HDD
                generalize ((y.ad : Int) == (x.ad : Int)) = eq at *
                go_simp
                go_wp2_with fail
                go_roundw
                case rel => exact ⟨i + 1, hi1.out, by go_num, by rw [HTK.out, HEQ.out], HN⟩
                case measure => have := hi1.out; simp [intOf]; omega
            · have hin' : n = i := by omega
              subst hin'
              have hlt3 : ¬ (n : Int) < (n : Int) := by omega
              have HAL : Shut (L.take n = L) := List.take_of_length_le (by rw [hn.out]; exact Nat.le_refl _)
              obtain ⟨_, hP, _, _, _, hLe⟩ := HK2.out wr (HTX.out.then_no HI.out)
              have RX := HI.out.obj HRX.out (fun q => q)
              have x0 := cell_of_row _ _ 0 _ 39 (0, 0) RX
              have x2 := cell_of_row _ _ 2 _ 39 (0, 0) RX
              have x4 := cell_of_row _ _ 4 _ 39 (0, 0) RX
              have z0 := cell_of_row _ _ 0 _ 25 (0, 0) hP
              have z1 := cell_of_row _ _ 1 _ 25 (0, 0) hP
              have HN := shut (HTX.out.then_no HI.out)
              have HLE := shut hLe
              rw [HAL.out]
              clear hP hLe RX HI
              have HNO : Shut (L.any (fun y => decide (y.ad = x.ad)) = false → ∀ y ∈ L, y.ad ≠ x.ad) := fun s y hy e => by
                have : L.any (fun y => decide (y.ad = x.ad)) = true := List.any_eq_true.2 ⟨y, hy, by simp [e]⟩
                rw [s] at this
                cases this
              generalize L.any (fun y => decide (y.ad = x.ad)) = s at *
              go_upto_region 31 with fail
              go_cut [189] from 144 to 223 (fun c wy => ∃ g : Bool, c = .bool g ∧ wy = wr ∧ Shut (g = false → s = false ∧ x.jail = false ∧ mb ≤ x.bond ∧ 0 < x.bond))
              case first =>
                cases s with
                | true =>
                  go_wp2_with fail
                  go_meet
                  case rel => exact ⟨true, rfl, rfl, fun q => by cases q⟩
                | false =>
                  cases hj' : x.jail with
                  | true =>
                    rw [hj'] at x4
                    clear hj'
                    go_wp2_with fail
                    go_meet
                    case rel => exact ⟨true, rfl, rfl, fun q => by cases q⟩
                  | false =>
                    have HJ := shut hj'
                    rw [hj'] at x4
                    clear hj'
                    by_cases hb1 : x.bond < mb
                    · have hb1' : (x.bond : Int) < (mb : Int) := by omega
                      clear hb1
                      go_wp2_with fail
                      go_meet
                      case rel => exact ⟨true, rfl, rfl, fun q => by cases q⟩
                    · have hb1' : ¬ (x.bond : Int) < (mb : Int) := by omega
                      by_cases hb2 : x.bond = 0
                      · have hb2' : ((x.bond : Int) == 0) = true := by simp; omega
                        clear hb2
                        go_wp2_with fail
                        go_meet
                        case rel => exact ⟨true, rfl, rfl, fun q => by cases q⟩
                      · have hb2' : ((x.bond : Int) == 0) = false := by simp; omega
                        have HB : Shut (mb ≤ x.bond ∧ 0 < x.bond) := by refine ⟨?_, ?_⟩ <;> omega
                        clear hb1 hb2
                        go_wp2_with fail
                        go_meet
                        case rel => exact ⟨false, rfl, rfl, fun _ => ⟨by trivial, HJ.out, HB.out.1, HB.out.2⟩⟩
              case rest =>
                obtain ⟨g, rfl, rfl, HG⟩ := hcut
                cases g with
                | true =>
                  clear HLE HNO HG x0 x2 x4 z0 z1
                  go_wp2_with fail
                  go_roundw
                  case rel => exact ⟨j + 1, hj1.out, by go_num, HN⟩
                  case measure => have := hj1.out; simp [intOf]; omega
                | false =>
                  obtain ⟨g1, g2, g3, g4⟩ := HG.out (by trivial)
                  obtain ⟨o1, o2⟩ := HSE.out.out x HXL.out g2 g3 g4 (HNO.out g1)
                  rw [hn.out] at o1
                  have h64 : ((n : Int) < 64 ∧ ¬ (n : Int) < st) ∨ ¬ (n : Int) < 64 := by omega
                  have HO2 := shut o2
                  clear HG HNO o1 o2 g1 g2 g3 g4 x4 z0
                  go_upto_region 32 with fail
                  go_cut [199] from 144 to 223 (fun c wy => c = .bool false ∧ wy = wc)
                  case first =>
                    rcases h64 with ⟨q1, q2⟩ | q1
                    all_goals
                      go_wp2_with fail
                      go_meet
                      case rel => exact ⟨rfl, rfl⟩
                  case rest =>
                    obtain ⟨rfl, rfl⟩ := hcut
                    clear h64 z1
                    go_upto_region 34 with fail
                    go_cut [223] from 144 to 223 (fun c wy => c = .bool false ∧ wy = wc)
                    case first =>
                      rcases HLE.out with ⟨e0, r0⟩ | ⟨e0, y0, m0, r0⟩
                      · have hn0 : ¬ (0 : Int) < (n : Int) := by omega
                        clear r0 e0
                        go_wp2_with fail
                        go_meet
                        case rel => exact ⟨rfl, rfl⟩
                      · have hn0 : (0 : Int) < (n : Int) := by omega
                        have k1 := cell_of_row _ _ 1 _ 37 (0, 0) r0
                        have k0 := cell_of_row _ _ 0 _ 37 (0, 0) r0
                        have o3 := HO2.out y0 m0
                        have hc1 : ¬ (y0.bond : Int) < (x.bond : Int) := by omega
                        have hc2 : (((x.bond : Int) == (y0.bond : Int)) = true ∧ ¬ (x.ad : Int) < (y0.ad : Int)) ∨ ((x.bond : Int) == (y0.bond : Int)) = false := by
                          by_cases e : x.bond = y0.bond
                          · left
                            refine ⟨by simp; omega, by omega⟩
                          · right
                            simp
                            omega
                        clear r0 e0 o3
                        rcases hc2 with ⟨q3, q4⟩ | q3
                        all_goals
                          go_wp2_with fail
                          go_meet
                          case rel => exact ⟨rfl, rfl⟩
                    case rest =>
                      obtain ⟨rfl, rfl⟩ := hcut
                      clear HLE HO2 x0 x2
                      go_wp2_with fail
                      go_roundw
                      case rel => exact ⟨j + 1, hj1.out, by go_num, HN⟩
                      case measure => have := hj1.out; simp [intOf]; omega
        · have hjN' : N = j := by omega
          subst hjN'
          have hlt2 : ¬ (N : Int) < (N : Int) := by omega
          have HTF := shut hT
          clear hR hP hA hO hT hLe
          go_wp2_with fail
          go_ret
          exact ⟨rfl, HTF.out⟩
  · go_wp2_with fail
    obtain ⟨w3, hw3⟩ : ∃ w3, w2.alloc (.cells #[.slice none 0 0, .slice none 0 0, .int .u64 0, .int .u64 0] 29) = w3 := ⟨_, rfl⟩
    rw [hw3]
    have t3 : Turn no w2 w3 := by rw [← hw3]; exact (Turn.refl no w2).alloc _
    have HT3 := shut ((HT1.out.then_no t2).then_no t3)
    have hn7 := new7 w3 _ l (HA.out.turn_no HT3.out) HL.out
    clear hn t2 t3 HT1
    generalize newE l = NE at *
    have hE' : (NE != 0) = true := by simpa using hE
    refine hn7.mono ?_
    rintro e w4 ⟨x0, x1, x2, x3, rfl, t4⟩
    have HTE := shut ((HT3.out.then_no t4).alloc (.cells #[.slice x0 x1 x2, .slice none 0 0, .int .u64 0, .int .u64 x3] 29))
    clear hn7 t4
    go_wp2_with fail
    go_ret
    exact ⟨rfl, HTE.out⟩
end Go.Proofs.Ytdbfbdhnjbmmjaa
