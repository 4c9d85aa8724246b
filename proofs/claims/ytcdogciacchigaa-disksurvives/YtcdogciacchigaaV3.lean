/- DiskSurvives: the walk. -/
import Derived.Test.YtcdogciacchigaaV2
namespace Go.Proofs.Ytcdogciacchigaa
open Go.RowKit Go.Maps
set_option linter.unusedVariables false

set_option maxRecDepth 100000 in
set_option maxHeartbeats 16000000 in
theorem survives_any (w : World) (m : Mx) (ma : Option Addr) (mcap : Nat) (hm : Fs w.heap.size w ma mcap m.l) (v1 : Value) (l1 : List Opx) (h1 : Sc w.heap.size w v1 l1) (hl1 : l1.length ≤ 1000000000000000) (vk : Value) (keep : List Int) (hkeep : Vs w vk (keep.map iv)) (hkold : keep = [] ∨ ∀ g, vk.ownBlock = some g → g < w.heap.size) (junk : UInt8) :
    Calls Try.prog 8 #[.agg (mxC m ma mcap), v1, vk, .int .u8 junk.toNat] w fun e w' => e = .returned (.bool true) ∧ Turn no w w' := by
  obtain ⟨a1, c1, rfl, _⟩ := h1.slice
  obtain ⟨ka, kc, hks⟩ := hkeep.slice
  simp only [List.length_map] at hks
  subst hks
  obtain ⟨W2, hW2⟩ : ∃ W2, W2 = w.alloc (.cells (mxC m ma mcap) 52) := ⟨_, rfl⟩
  have T2 : Turn no w W2 := by rw [hW2]; exact (Turn.refl no w).alloc _
  have RM : Row W2 w.heap.size (mxC m ma mcap) 52 := by rw [hW2]; exact Row.new w _ 52
  obtain ⟨B, hB⟩ : ∃ B, B = W2.heap.size := ⟨_, rfl⟩
  have hBw : B = w.heap.size + 1 := by rw [hB, hW2]; simp
  have s1 := (h1.turn_no T2).mono (show w.heap.size ≤ B by omega)
  have hlv := lives17 w.heap.size W2 (by have := T2.size; omega) m ma mcap (hm.turn_no T2)
  obtain ⟨lc, ln, lm⟩ := live_calm m
  have hz := shut num10
  have m0 := RM.cell 0 _ rfl
  have m1 := RM.cell 1 _ rfl
  have m2 := RM.cell 2 _ rfl
  have hkp : ∀ W, Turn (old B) W2 W → Vs W (.slice ka keep.length kc) (keep.map iv) := fun W t => (hkeep.turn_no T2).late t (fun hne g hg q => by
    rcases hkold with e | e
    · exact hne (by rw [e]; rfl)
    · have := e g hg; have : B ≤ g := q; omega)
  have HKP := shut hkp
  have S1 := shut s1
  have HB := shut hB
  have HBW := shut hBw
  generalize hs0 : liveS m = s0 at *
  clear hkp s1 hB hBw h1 hm hkeep hkold
  unfold mxC at *
  go_enter Try.func8, Try.ntmps8
  go_wp2_with fail
  try rw [← hW2]
  refine hlv.mono ?_
  rintro e w3 ⟨p, rfl, K, hpq, hD, hK, t3⟩
  have hOne : One B w3 p s0 := ⟨K, hD, fun k x => by have := hK k x; have := HB.out; omega⟩
  have S13 := shut (S1.out.turn_no t3)
  have HKP3 : Shut (∀ W, Turn (old B) w3 W → Vs W (.slice ka keep.length kc) (keep.map iv)) := fun W t => HKP.out W (t3.of_no.trans t (fun _ _ q => q))
  have T3 := T2.then_no t3
  have hB3 : B ≤ w3.heap.size := by have := t3.size; have := HB.out; omega
  have HON := shut hOne
  unfold ptr at *
  clear hlv hD hK hpq hOne S1 HKP t3 T2 m0 m1 m2 RM hW2 HB
  go_wp2_with fail
  go_loopw [11] (fun x wr => ∃ (i : Nat) (s : St), i ≤ l1.length ∧ x = .int .i64 i ∧ Shut (One B wr p s) ∧ s.n ≤ i ∧ s.m ≤ i ∧ s.out = false ∧ Turn (old B) w3 wr) (fun x _ => l1.length - (intOf x).toNat)
  case atStart => exact ⟨0, s0, Nat.zero_le _, rfl, HON, by omega, by omega, lc.out, Turn.refl _ _⟩
  case round =>
    clear HON
    obtain ⟨i, s, hi, rfl, hT, hn, hm0, hout, T⟩ := hrel
    have hBr : B ≤ wr.heap.size := by have := T.size; omega
    by_cases hlt : i < l1.length
    · have hlt' : (i : Int) < (l1.length : Int) := by omega
      obtain ⟨x, hx⟩ : ∃ x, l1[i]? = some x := ⟨l1[i], List.getElem?_eq_getElem hlt⟩
      obtain ⟨bb, off, xa, xn, xc, ya, yn, yc, ea, hb, hO, hA⟩ := (S13.out.turn T).at i x hx
      subst ea
      obtain ⟨_, _, d0, d1, d2, d3, d4, d5, d6, d7, d8, d9⟩ := id hA
      have hd1 := hT.out.does hBr (by omega) (by omega) hO hA.vd hA.vk
      obtain ⟨b1, b2, b3⟩ := do_bounds s x
      clear hA hO
      unfold opX ptr at *
      generalize (doS s x).2 = E at *
      generalize (doS s x).1 = s' at *
      go_wp2_with fail
      refine hd1.mono ?_
      rintro e w5 ⟨rfl, hT5, t5⟩
      have HT5 := shut hT5
      have TT := T.trans t5 (fun _ _ q => q)
      clear hd1 hT5
      go_wp2_with fail
      go_roundw
      case rel => exact ⟨i + 1, s', by omega, by go_num, HT5, by omega, by omega, by rw [b3, hout], TT⟩
      case measure => simp [intOf]; omega
    · have hlt' : ¬ (i : Int) < (l1.length : Int) := by omega
      have hon := hT.out.on
      have htl := hT.out.tells
      unfold ptr at hon htl
      go_wp2_with fail
      refine hon.mono ?_
      rintro e w5 ⟨rfl, rfl⟩
      go_wp2_with fail
      refine htl.mono ?_
      rintro e w6 ⟨v6, rfl, hTl, t6⟩
      obtain ⟨la, lcap, rfl⟩ := hTl.slice
      have T6 : Turn (old B) w3 w6 := T.then_no t6
      have hcr := hT.out.crash t6 hout (.slice ka keep.length kc) keep (HKP3.out w6 T6) junk
      have HTL := shut hTl
      have hok := shut hT.out.ok
      obtain ⟨sC, hsC⟩ : ∃ sC : St, sC = { s with off := true, out := true } := ⟨_, rfl⟩
      rw [← hsC] at hcr
      have hoffC : sC.off = true := by rw [hsC]
      have houtC : sC.out = true := by rw [hsC]
      have hnC : sC.n ≤ l1.length := by rw [hsC]; show s.n ≤ _; omega
      have hmC : sC.m ≤ l1.length := by rw [hsC]; show s.m ≤ _; omega
      have HSC := shut hsC
      clear hsC hon htl hTl
      unfold ptr at *
      cases hoff : s.off
      · have htn : tellL s = s.fs := by simp [tellL, hoff]
        rw [htn] at HTL
        simp only [htn]
        go_wp2_with fail
        refine hcr.mono ?_
        rintro e w7 ⟨v7, rfl, hI, hOC, t7⟩
        obtain ⟨a7, c7, rfl⟩ := hI.slice
        rw [crashL_len] at *
        generalize hL7 : s.fs.length = L7 at *
        have HL7 := shut hL7
        clear hL7
        obtain ⟨w8, hw8⟩ : ∃ w8, w8 = w7.alloc (.cells #[.slice a7 L7 c7] 36) := ⟨_, rfl⟩
        have A8 : Turn no w7 w8 := by rw [hw8]; exact (Turn.refl no w7).alloc _
        have R8 : Row w8 w7.heap.size #[.slice a7 L7 c7] 36 := by rw [hw8]; exact Row.new _ _ _
        have r8 := R8.cell 0 _ rfl
        have O8 := shut (hOC.turn_no A8)
        have T8 : Turn (old B) w3 w8 := (T6.trans t7 (fun _ _ q => q.1)).then_no A8
        have hz8 := hz.out w8 0
        have t7' : Turn (fun k => k < w5.heap.size) w6 w7 := t7.mono (fun k _ hk => hk.2)
        have hT8 : Tl w5.heap.size w8 (.slice la L7 lcap) s.fs := (HTL.out.turn t7' (fun k hk => hk)).turn_no A8
        have hsv := survived28 w8 w5.heap.size w6.heap.size (.slice la L7 lcap) (.slice a7 L7 c7) (.slice ka keep.length kc) s.fs keep junk hT8 (hI.turn_no A8) (HKP3.out w8 T8) hok.out.1 (by rw [HL7.out]; exact hok.out.2)
        clear hT8 t7'
        clear hcr hOC hI
        go_wp2_with fail
        try rw [← hw8]
        refine hz8.mono ?_
        rintro e w8' ⟨rfl, rfl⟩
        clear hw8
        go_wp2_with fail
        refine hsv.mono ?_
        rintro e w9 ⟨rfl, t9⟩
        have O9 := shut (O8.out.turn_no t9)
        have T9 : Turn (old B) w3 w9 := T8.then_no t9
        have on9 := O9.out.on
        rw [hoffC] at on9
        unfold ptr at on9
        clear O8 hsv
        go_wp2_with fail
        refine on9.mono ?_
        rintro e w10 ⟨rfl, rfl⟩
        clear on9 HTL hT r8 R8
        go_wp2_with fail
        go_loopw [16] (fun x wr => ∃ (i : Nat), i ≤ l1.length ∧ x = .int .i64 i ∧ Shut (One B wr p sC) ∧ Turn (old B) w3 wr) (fun x _ => l1.length - (intOf x).toNat)
        case atStart => exact ⟨0, Nat.zero_le _, rfl, O9, T9⟩
        case round =>
          clear O9 T9
          obtain ⟨j, hj, rfl, hT, TJ⟩ := hrel
          have hBj : B ≤ wr.heap.size := by have := TJ.size; omega
          by_cases hjl : j < l1.length
          · have hjl' : (j : Int) < (l1.length : Int) := by omega
            obtain ⟨x, hx⟩ : ∃ x, l1[j]? = some x := ⟨l1[j], List.getElem?_eq_getElem hjl⟩
            obtain ⟨bb, off, xa, xn, xc, ya, yn, yc, ea, hb, hO, hA⟩ := (S13.out.turn TJ).at j x hx
            subst ea
            obtain ⟨_, _, d0, d1, d2, d3, d4, d5, d6, d7, d8, d9⟩ := id hA
            by_cases hkk : 1 ≤ x.kind ∧ x.kind ≤ 5
            · have k1 : decide (1 ≤ x.kind) = true := by simp; omega
              have k2 : decide (x.kind ≤ 5) = true := by simp; omega
              have hd1 := hT.out.does hBj (by omega) (by omega) hO hA.vd hA.vk
              rw [do_off hoffC x hkk] at hd1
              clear hA hO hT
              unfold opX ptr at *
              go_wp2_with fail
              refine hd1.mono ?_
              rintro e wA ⟨rfl, hTA, tA⟩
              have HTA := shut hTA
              have TA := TJ.trans tA (fun _ _ q => q)
              have hzA := hz.out wA 63
              clear hd1 hTA
              go_wp2_with fail
              refine hzA.mono ?_
              rintro e wB ⟨rfl, rfl⟩
              go_wp2_with fail
              go_roundw
              case rel => exact ⟨j + 1, by omega, by go_num, HTA, TA⟩
              case measure => simp [intOf]; omega
            · clear hA hO
              by_cases hk1 : 1 ≤ x.kind
              · have k1 : decide (1 ≤ x.kind) = true := by simp; omega
                have k2 : decide (x.kind ≤ 5) = false := by simp; omega
                go_wp2_with fail
                go_roundw
                case rel => exact ⟨j + 1, by omega, by go_num, hT, TJ⟩
                case measure => simp [intOf]; omega
              · have k1 : decide (1 ≤ x.kind) = false := by simp; omega
                go_wp2_with fail
                go_roundw
                case rel => exact ⟨j + 1, by omega, by go_num, hT, TJ⟩
                case measure => simp [intOf]; omega
          · have hjl' : ¬ (j : Int) < (l1.length : Int) := by omega
            have hc2 := hT.out.crash2 houtC ka keep.length kc junk.toNat
            unfold ptr at hc2
            go_wp2_with fail
            refine hc2.mono ?_
            rintro e wA ⟨rfl, tA⟩
            obtain ⟨wB, hwB⟩ : ∃ wB, wB = wA.alloc (.cells #[.slice none 0 0] 36) := ⟨_, rfl⟩
            have AB : Turn no wA wB := by rw [hwB]; exact (Turn.refl no wA).alloc _
            have RB : Row wB wA.heap.size #[.slice none 0 0] 36 := by rw [hwB]; exact Row.new _ _ _
            have hrd := (hT.out.turn_no (tA.then_no AB)).readA hoffC
            unfold ptr strV at hrd
            clear hc2
            go_wp2_with fail
            try rw [← hwB]
            refine hrd.mono ?_
            rintro e wC ⟨vC, rfl, tC⟩
            have rB := (RB.turn tC (fun q => q)).cell 0 _ rfl
            have hnm := (hT.out.turn_no ((tA.then_no AB).then_no tC)).names hoffC
            have hzC := hz.out wC 63
            unfold ptr at hnm
            have TF : Turn (old B) w3 wC := ((TJ.then_no tA).then_no AB).then_no tC
            clear hrd hwB
            go_wp2_with fail
            refine hzC.mono ?_
            rintro e wD ⟨rfl, rfl⟩
            go_wp2_with fail
            refine hzC.mono ?_
            rintro e wE ⟨rfl, rfl⟩
            go_wp2_with fail
            refine hnm.mono ?_
            rintro e wF ⟨fa, fc, rfl, tF⟩
            have TG : Turn no w wF := T3.trans (TF.then_no tF) (fun k hk q => by have : B ≤ k := q; have := HBW.out; omega)
            go_wp2_with fail
            go_ret
            exact ⟨rfl, TG⟩

      · have htn : tellL s = [] := by simp [tellL, hoff]
        rw [htn] at HTL
        simp only [htn, List.length_nil]
        go_wp2_with fail
        refine hcr.mono ?_
        rintro e w7 ⟨v7, rfl, hI, hOC, t7⟩
        obtain ⟨a7, c7, rfl⟩ := hI.slice
        rw [crashL_len] at *
        generalize hL7 : s.fs.length = L7 at *
        have HL7 := shut hL7
        clear hL7
        obtain ⟨w8, hw8⟩ : ∃ w8, w8 = w7.alloc (.cells #[.slice a7 L7 c7] 36) := ⟨_, rfl⟩
        have A8 : Turn no w7 w8 := by rw [hw8]; exact (Turn.refl no w7).alloc _
        have R8 : Row w8 w7.heap.size #[.slice a7 L7 c7] 36 := by rw [hw8]; exact Row.new _ _ _
        have r8 := R8.cell 0 _ rfl
        have O8 := shut (hOC.turn_no A8)
        have T8 : Turn (old B) w3 w8 := (T6.trans t7 (fun _ _ q => q.1)).then_no A8
        have hz8 := hz.out w8 0

        clear hcr hOC hI
        go_wp2_with fail
        try rw [← hw8]
        refine hz8.mono ?_
        rintro e w8' ⟨rfl, rfl⟩
        clear hw8
        go_wp2_with fail
        have O9 := O8
        have T9 := T8
        have on9 := O9.out.on
        rw [hoffC] at on9
        unfold ptr at on9
        clear O8
        go_wp2_with fail
        refine on9.mono ?_
        rintro e w10 ⟨rfl, rfl⟩
        clear on9 HTL hT r8 R8
        go_wp2_with fail
        go_loopw [16] (fun x wr => ∃ (i : Nat), i ≤ l1.length ∧ x = .int .i64 i ∧ Shut (One B wr p sC) ∧ Turn (old B) w3 wr) (fun x _ => l1.length - (intOf x).toNat)
        case atStart => exact ⟨0, Nat.zero_le _, rfl, O9, T9⟩
        case round =>
          clear O9 T9
          obtain ⟨j, hj, rfl, hT, TJ⟩ := hrel
          have hBj : B ≤ wr.heap.size := by have := TJ.size; omega
          by_cases hjl : j < l1.length
          · have hjl' : (j : Int) < (l1.length : Int) := by omega
            obtain ⟨x, hx⟩ : ∃ x, l1[j]? = some x := ⟨l1[j], List.getElem?_eq_getElem hjl⟩
            obtain ⟨bb, off, xa, xn, xc, ya, yn, yc, ea, hb, hO, hA⟩ := (S13.out.turn TJ).at j x hx
            subst ea
            obtain ⟨_, _, d0, d1, d2, d3, d4, d5, d6, d7, d8, d9⟩ := id hA
            by_cases hkk : 1 ≤ x.kind ∧ x.kind ≤ 5
            · have k1 : decide (1 ≤ x.kind) = true := by simp; omega
              have k2 : decide (x.kind ≤ 5) = true := by simp; omega
              have hd1 := hT.out.does hBj (by omega) (by omega) hO hA.vd hA.vk
              rw [do_off hoffC x hkk] at hd1
              clear hA hO hT
              unfold opX ptr at *
              go_wp2_with fail
              refine hd1.mono ?_
              rintro e wA ⟨rfl, hTA, tA⟩
              have HTA := shut hTA
              have TA := TJ.trans tA (fun _ _ q => q)
              have hzA := hz.out wA 63
              clear hd1 hTA
              go_wp2_with fail
              refine hzA.mono ?_
              rintro e wB ⟨rfl, rfl⟩
              go_wp2_with fail
              go_roundw
              case rel => exact ⟨j + 1, by omega, by go_num, HTA, TA⟩
              case measure => simp [intOf]; omega
            · clear hA hO
              by_cases hk1 : 1 ≤ x.kind
              · have k1 : decide (1 ≤ x.kind) = true := by simp; omega
                have k2 : decide (x.kind ≤ 5) = false := by simp; omega
                go_wp2_with fail
                go_roundw
                case rel => exact ⟨j + 1, by omega, by go_num, hT, TJ⟩
                case measure => simp [intOf]; omega
              · have k1 : decide (1 ≤ x.kind) = false := by simp; omega
                go_wp2_with fail
                go_roundw
                case rel => exact ⟨j + 1, by omega, by go_num, hT, TJ⟩
                case measure => simp [intOf]; omega
          · have hjl' : ¬ (j : Int) < (l1.length : Int) := by omega
            have hc2 := hT.out.crash2 houtC ka keep.length kc junk.toNat
            unfold ptr at hc2
            go_wp2_with fail
            refine hc2.mono ?_
            rintro e wA ⟨rfl, tA⟩
            obtain ⟨wB, hwB⟩ : ∃ wB, wB = wA.alloc (.cells #[.slice none 0 0] 36) := ⟨_, rfl⟩
            have AB : Turn no wA wB := by rw [hwB]; exact (Turn.refl no wA).alloc _
            have RB : Row wB wA.heap.size #[.slice none 0 0] 36 := by rw [hwB]; exact Row.new _ _ _
            have hrd := (hT.out.turn_no (tA.then_no AB)).readA hoffC
            unfold ptr strV at hrd
            clear hc2
            go_wp2_with fail
            try rw [← hwB]
            refine hrd.mono ?_
            rintro e wC ⟨vC, rfl, tC⟩
            have rB := (RB.turn tC (fun q => q)).cell 0 _ rfl
            have hnm := (hT.out.turn_no ((tA.then_no AB).then_no tC)).names hoffC
            have hzC := hz.out wC 63
            unfold ptr at hnm
            have TF : Turn (old B) w3 wC := ((TJ.then_no tA).then_no AB).then_no tC
            clear hrd hwB
            go_wp2_with fail
            refine hzC.mono ?_
            rintro e wD ⟨rfl, rfl⟩
            go_wp2_with fail
            refine hzC.mono ?_
            rintro e wE ⟨rfl, rfl⟩
            go_wp2_with fail
            refine hnm.mono ?_
            rintro e wF ⟨fa, fc, rfl, tF⟩
            have TG : Turn no w wF := T3.trans (TF.then_no tF) (fun k hk q => by have : B ≤ k := q; have := HBW.out; omega)
            go_wp2_with fail
            go_ret
            exact ⟨rfl, TG⟩
end Go.Proofs.Ytcdogciacchigaa
