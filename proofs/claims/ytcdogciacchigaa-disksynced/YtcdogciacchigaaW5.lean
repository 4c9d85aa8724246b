/- DiskSynced: the walk. -/
import Derived.Test.YtcdogciacchigaaW4
namespace Go.Proofs.Ytcdogciacchigaa
open Go.RowKit Go.Maps
set_option linter.unusedVariables false


set_option maxRecDepth 100000 in
set_option maxHeartbeats 16000000 in
theorem synced_any (w : World) (m : Mx) (ma : Option Addr) (mcap : Nat) (hm : Fs w.heap.size w ma mcap m.l) (v1 : Value) (l1 : List Opx) (h1 : Sc w.heap.size w v1 l1) (hl1 : (l1.length + 1) * 48 ≤ 140737488355328) (vk : Value) (keep : List Int) (hkeep : Vs w vk (keep.map iv)) (hkold : keep = [] ∨ ∀ g, vk.ownBlock = some g → g < w.heap.size) (junk : UInt8) :
    Calls Try.prog 5 #[.agg (mxC m ma mcap), v1, vk, .int .u8 junk.toNat] w fun e w' => e = .returned (.bool true) ∧ Turn no w w' := by
  obtain ⟨a1, c1, rfl, _⟩ := h1.slice
  obtain ⟨ka, kc, hks⟩ := hkeep.slice
  simp only [List.length_map] at hks
  subst hks
  obtain ⟨W2, hW2⟩ : ∃ W2, W2 = w.alloc (.cells (mxC m ma mcap) 52) := ⟨_, rfl⟩
  have T2 : Turn no w W2 := by rw [hW2]; exact (Turn.refl no w).alloc _
  have RM : Row W2 w.heap.size (mxC m ma mcap) 52 := by rw [hW2]; exact Row.new w _ 52
  obtain ⟨B, hB⟩ : ∃ B, B = W2.heap.size := ⟨_, rfl⟩
  have hBw : B = w.heap.size + 1 := by rw [hB, hW2]; simp
  have s1 := (h1.turn_no T2).mono (show w.heap.size ≤ B by omega)
  have hlv := lives17 w.heap.size W2 (by have := T2.size; omega) m ma mcap (hm.turn_no T2)
  obtain ⟨lc, ln, lm⟩ := live_calm m
  have hz := shut num10
  have m0 := RM.cell 0 _ rfl
  have m1 := RM.cell 1 _ rfl
  have m2 := RM.cell 2 _ rfl
  have hkp : ∀ W, Turn (old B) W2 W → Vs W (.slice ka keep.length kc) (keep.map iv) := fun W t => (hkeep.turn_no T2).late t (fun hne g hg q => by
    rcases hkold with e | e
    · exact hne (by rw [e]; rfl)
    · have := e g hg; have : B ≤ g := q; omega)
  have HKP := shut hkp
  have S1 := shut s1
  have HB := shut hB
  have HBW := shut hBw
  generalize hs0 : liveS m = s0 at *
  clear hkp s1 hB hBw h1 hm hkeep hkold
  unfold mxC at *
  go_enter Try.func5, Try.ntmps5
  go_wp2_with fail
  try rw [← hW2]
  refine hlv.mono ?_
  rintro e w3 ⟨p, rfl, K, hpq, hD, hK, t3⟩
  have hOne : One B w3 p s0 := ⟨K, hD, fun k x => by have := hK k x; have := HB.out; omega⟩
  have S13 := shut (S1.out.turn_no t3)
  have HKP3 : Shut (∀ W, Turn (old B) w3 W → Vs W (.slice ka keep.length kc) (keep.map iv)) := fun W t => HKP.out W (t3.of_no.trans t (fun _ _ q => q))
  have T3 := T2.then_no t3
  have hB3 : B ≤ w3.heap.size := by have := t3.size; have := HB.out; omega
  have HON := shut hOne
  unfold ptr at *
  clear hlv hD hK hpq hOne S1 HKP t3 T2 m0 m1 m2 RM hW2 HB
  go_wp2_with fail
  go_loopw [11, 12] (fun x y wr => ∃ (i : Nat) (s : St) (l : List Sf) (R : Nat → Prop) (sa : Option Addr) (sc : Nat), i ≤ l1.length ∧ x = .slice sa l.length sc ∧ y = .int .i64 i ∧ Shut (Onr R B wr p s) ∧ Shut (Sl R wr (.slice sa l.length sc) l) ∧ Shut (∀ k, R k → k < wr.heap.size) ∧ l.length ≤ i ∧ s.n ≤ i ∧ s.m ≤ i ∧ s.out = false ∧ Shut (bookOk s.fs l) ∧ Turn (old B) w3 wr) (fun _ y _ => l1.length - (intOf y).toNat)
  case atStart => exact ⟨0, s0, [], no, none, 0, Nat.zero_le _, rfl, rfl, HON.out.onr, Sl.nil _ _, (fun k q => q.elim), Nat.zero_le _, by omega, by omega, lc.out, (fun x hx => by cases hx), Turn.refl _ _⟩
  case round =>
    clear HON
    obtain ⟨i, s, l, R, sa, sc, hi, rfl, rfl, hT, hSl, hR, hli, hn, hm0, hout, hbk, T⟩ := hrel
    have hBr : B ≤ wr.heap.size := by have := T.size; omega
    by_cases hlt : i < l1.length
    · have hlt' : (i : Int) < (l1.length : Int) := by omega
      obtain ⟨x, hx⟩ : ∃ x, l1[i]? = some x := ⟨l1[i], List.getElem?_eq_getElem hlt⟩
      obtain ⟨bb, off, xa, xn, xc, ya, yn, yc, ea, hb, hO, hA⟩ := (S13.out.turn T).at i x hx
      subst ea
      obtain ⟨_, _, d0, d1, d2, d3, d4, d5, d6, d7, d8, d9⟩ := id hA
      have hvd := shut hA.vd
      have hvk := shut hA.vk
      have hxnm := hO.nm
      have HO := shut hO
      clear hO hA
      obtain ⟨wa, hwa⟩ : ∃ wa, wa = wr.alloc (.cells #[.int .i64 x.kind, .int .i64 x.who, .string ⟨x.nm.toArray⟩, .slice xa xn xc, .int .i64 x.n, .int .i64 x.t.when, .int .i64 x.t.kind, .bool x.t.done, .slice ya yn yc, .int .u8 x.junk.toNat] 44) := ⟨_, rfl⟩
      have TA : Turn no wr wa := by rw [hwa]; exact (Turn.refl no wr).alloc _
      have RA : Row wa wr.heap.size #[.int .i64 x.kind, .int .i64 x.who, .string ⟨x.nm.toArray⟩, .slice xa xn xc, .int .i64 x.n, .int .i64 x.t.when, .int .i64 x.t.kind, .bool x.t.done, .slice ya yn yc, .int .u8 x.junk.toNat] 44 := by rw [hwa]; exact Row.new _ _ _
      have TTA : Turn (old B) w3 wa := T.then_no TA
      obtain ⟨R1, hR1⟩ : ∃ R1 : Nat → Prop, R1 = fun k => R k ∨ (wr.heap.size ≤ k ∧ k < wa.heap.size) := ⟨_, rfl⟩
      have HTa : Shut (Onr R1 B wa p s) := by show Onr R1 B wa p s; rw [hR1]; exact hT.out.grow TA
      have HSa : Shut (Sl R1 wa (.slice sa l.length sc) l) := (hSl.out.turn_no TA).mono (fun k hk => by rw [hR1]; exact Or.inl hk)
      have hwas : wa.heap.size = wr.heap.size + 1 := by rw [hwa]; simp
      have HRa : Shut (∀ k, R1 k → k < wa.heap.size) := fun k hk => by
        rw [hR1] at hk
        rcases hk with q | q
        · have := hR.out k q; omega
        · exact q.2
      have hRop : Shut (R1 wr.heap.size) := by show R1 wr.heap.size; rw [hR1]; exact Or.inr ⟨Nat.le_refl _, by omega⟩
      have HWAS := shut hwas
      have HR1 := shut hR1
      clear hwas hR1 hT hSl hR
      have hon := HTa.out.one.on
      unfold ptr at hon
      by_cases hk1 : 1 ≤ x.kind ∧ x.kind ≤ 11
      · have k1 : ¬ x.kind < 1 := by omega
        have k2 : ¬ 11 < x.kind := by omega
        have k1' : decide (x.kind < 1) = false := by simp; omega
        have k2' : decide (11 < x.kind) = false := by simp; omega
        cases hoff : s.off
        · rw [hoff] at hon
          have hd := HTa.out.does (by have := TA.size; omega) HRa.out (by omega) (by omega) (HO.out.turn_no TA) hvd.out hvk.out
          have HBS := shut (book_step s x HTa.out.inv hoff l hbk.out)
          obtain ⟨bn, bm, bo⟩ := do_bounds s x
          rw [hout] at bo
          generalize hE : (doS s x).2 = E at *
          generalize hs' : (doS s x).1 = s' at *
          clear hE hs'
          have hout2 := bo
          unfold opX ptr at hd
          go_wp2_with fail
          try rw [← hwa]
          refine hon.mono ?_
          intro e' w' hh
          rw [hh.1, hh.2]
          clear hh e' w' hon
          have a0 := RA.cell 0 _ rfl
          have a1 := RA.cell 1 _ rfl
          have a2 := RA.cell 2 _ rfl
          have a3 := RA.cell 3 _ rfl
          have a4 := RA.cell 4 _ rfl
          have a5 := RA.cell 5 _ rfl
          have a6 := RA.cell 6 _ rfl
          have a7 := RA.cell 7 _ rfl
          have a8 := RA.cell 8 _ rfl
          have a9 := RA.cell 9 _ rfl
          clear hwa
          go_wp2_with fail
          refine hd.mono ?_
          rintro e wb ⟨rfl, hTb, tb⟩
          have HTb := shut hTb
          have HSb := shut (HSa.out.but tb)
          have HRb : Shut (∀ k, R1 k → k < wb.heap.size) := fun k hk => by have := HRa.out k hk; have := tb.size; omega
          have TTB : Turn (old B) w3 wb := TTA.trans tb (fun _ _ q => q.1)
          have RB := RA.turn tb (fun q => q.2 hRop.out)
          have g0 := RB.cell 0 _ rfl
          have g2 := RB.cell 2 _ rfl
          have hzb := hz.out wb E
          clear hd hTb a0 a1 a2 a3 a4 a5 a6 a7 a8 a9 HTa HSa HRa
          by_cases hE0 : E = 0
          · subst hE0
            by_cases h5 : x.kind = 5
            · rw [h5] at g0
              have hlo := loosen19 wb R1 _ l (by omega) HSb.out x.nm true
              unfold strV at hlo
              go_wp2_with fail
              (refine Calls.mono hzb ?_; intro eNc wNc hNc; rw [hNc.1, hNc.2]; clear hNc eNc wNc; go_wp2_with fail)
              (refine Calls.mono hzb ?_; intro eNc wNc hNc; rw [hNc.1, hNc.2]; clear hNc eNc wNc; go_wp2_with fail)
              (refine Calls.mono hzb ?_; intro eNc wNc hNc; rw [hNc.1, hNc.2]; clear hNc eNc wNc; go_wp2_with fail)
              refine hlo.mono ?_
              rintro e wc ⟨vc, rfl, hWc⟩
              obtain ⟨ca, cc, rfl⟩ := hWc.sl.slice
              have hTc := shut (HTb.out.grow hWc.turn)
              have hSc := shut hWc.sl
              have hRc : Shut (∀ k, (R1 k ∨ (wb.heap.size ≤ k ∧ k < wc.heap.size)) → k < wc.heap.size) := fun k hk => by
                rcases hk with q | q
                · have := HRb.out k q; have := hWc.turn.size; omega
                · exact q.2
              have TTC := TTB.then_no hWc.turn
              have hlen := loosen_len l x.nm true
              have HBL := shut (HBS.out.2.1 true)
              clear hlo hWc
              go_wp2_with fail
              go_roundw
              case rel => exact ⟨i + 1, s', _, _, _, _, by omega, rfl, by go_num, hTc, hSc, hRc, by omega, by omega, by omega, hout2, HBL, TTC⟩
              case measure => simp [intOf]; omega
            by_cases h2 : x.kind = 2
            · rw [h2] at g0
              obtain ⟨hfE, hbN⟩ := HBS.out.2.2.2 rfl (by omega)
              have HBN := shut hbN
              have hrd := HTb.out.read x.nm hxnm hfE
              generalize readS s' x.nm = rb at *
              unfold ptr strV at hrd
              clear hbN
              go_wp2_with fail
              (refine Calls.mono hzb ?_; intro eNc wNc hNc; rw [hNc.1, hNc.2]; clear hNc eNc wNc; go_wp2_with fail)
              (refine Calls.mono hzb ?_; intro eNc wNc hNc; rw [hNc.1, hNc.2]; clear hNc eNc wNc; go_wp2_with fail)
              (refine Calls.mono hzb ?_; intro eNc wNc hNc; rw [hNc.1, hNc.2]; clear hNc eNc wNc; go_wp2_with fail)
              (refine Calls.mono hzb ?_; intro eNc wNc hNc; rw [hNc.1, hNc.2]; clear hNc eNc wNc; go_wp2_with fail)
              refine hrd.mono ?_
              rintro e wc ⟨ba, bc, rfl, hOb, hBb, tc⟩
              have hTc := shut (HTb.out.grow tc)
              have hSc := shut ((HSb.out.turn_no tc).mono (R' := fun k => R1 k ∨ (wb.heap.size ≤ k ∧ k < wc.heap.size)) (fun k hk => Or.inl hk))
              have hno := note21 wc _ _ l (by omega) hSc.out x.nm ba bc rb hOb (fun g hg => Or.inr (hBb g hg))
              have hzc := hz.out wc 0
              have g2c := (RB.turn tc (fun q => q)).cell 2 _ rfl
              unfold strV at hno
              have hsz3 := tc.size
              have TTC0 := TTB.then_no tc
              clear hrd hOb hBb
              go_wp2_with fail
              (refine Calls.mono hzc ?_; intro eNc wNc hNc; rw [hNc.1, hNc.2]; clear hNc eNc wNc; go_wp2_with fail)
              refine hno.mono ?_
              rintro e wd ⟨vd, rfl, hWd⟩
              obtain ⟨ca, cc, rfl⟩ := hWd.sl.slice
              have hTd := shut (hTc.out.grow hWd.turn)
              have hSd := shut hWd.sl
              have hRd : Shut (∀ k, ((R1 k ∨ (wb.heap.size ≤ k ∧ k < wc.heap.size)) ∨ (wc.heap.size ≤ k ∧ k < wd.heap.size)) → k < wd.heap.size) := fun k hk => by
                have := hWd.turn.size
                rcases hk with (q | q) | q
                · have := HRb.out k q; omega
                · omega
                · exact q.2
              have TTD := TTC0.then_no hWd.turn
              have hlen : (noteL l x.nm rb).length ≤ l.length + 1 := by
                unfold noteL
                rw [List.length_append]
                have := List.length_filter_le (fun y : Sf => y.nm != x.nm) l
                simp
                omega
              clear hno hWd
              go_wp2_with fail
              go_roundw
              case rel => exact ⟨i + 1, s', _, _, _, _, by omega, rfl, by go_num, hTd, hSd, hRd, by omega, by omega, by omega, hout2, HBN, TTD⟩
              case measure => simp [intOf]; omega
            by_cases h3 : x.kind = 3
            · rw [h3] at g0
              obtain ⟨hfE, hbN⟩ := HBS.out.2.2.2 rfl (by omega)
              have HBN := shut hbN
              have hrd := HTb.out.read x.nm hxnm hfE
              generalize readS s' x.nm = rb at *
              unfold ptr strV at hrd
              clear hbN
              go_wp2_with fail
              (refine Calls.mono hzb ?_; intro eNc wNc hNc; rw [hNc.1, hNc.2]; clear hNc eNc wNc; go_wp2_with fail)
              (refine Calls.mono hzb ?_; intro eNc wNc hNc; rw [hNc.1, hNc.2]; clear hNc eNc wNc; go_wp2_with fail)
              (refine Calls.mono hzb ?_; intro eNc wNc hNc; rw [hNc.1, hNc.2]; clear hNc eNc wNc; go_wp2_with fail)
              (refine Calls.mono hzb ?_; intro eNc wNc hNc; rw [hNc.1, hNc.2]; clear hNc eNc wNc; go_wp2_with fail)
              refine hrd.mono ?_
              rintro e wc ⟨ba, bc, rfl, hOb, hBb, tc⟩
              have hTc := shut (HTb.out.grow tc)
              have hSc := shut ((HSb.out.turn_no tc).mono (R' := fun k => R1 k ∨ (wb.heap.size ≤ k ∧ k < wc.heap.size)) (fun k hk => Or.inl hk))
              have hno := note21 wc _ _ l (by omega) hSc.out x.nm ba bc rb hOb (fun g hg => Or.inr (hBb g hg))
              have hzc := hz.out wc 0
              have g2c := (RB.turn tc (fun q => q)).cell 2 _ rfl
              unfold strV at hno
              have hsz3 := tc.size
              have TTC0 := TTB.then_no tc
              clear hrd hOb hBb
              go_wp2_with fail
              (refine Calls.mono hzc ?_; intro eNc wNc hNc; rw [hNc.1, hNc.2]; clear hNc eNc wNc; go_wp2_with fail)
              refine hno.mono ?_
              rintro e wd ⟨vd, rfl, hWd⟩
              obtain ⟨ca, cc, rfl⟩ := hWd.sl.slice
              have hTd := shut (hTc.out.grow hWd.turn)
              have hSd := shut hWd.sl
              have hRd : Shut (∀ k, ((R1 k ∨ (wb.heap.size ≤ k ∧ k < wc.heap.size)) ∨ (wc.heap.size ≤ k ∧ k < wd.heap.size)) → k < wd.heap.size) := fun k hk => by
                have := hWd.turn.size
                rcases hk with (q | q) | q
                · have := HRb.out k q; omega
                · omega
                · exact q.2
              have TTD := TTC0.then_no hWd.turn
              have hlen : (noteL l x.nm rb).length ≤ l.length + 1 := by
                unfold noteL
                rw [List.length_append]
                have := List.length_filter_le (fun y : Sf => y.nm != x.nm) l
                simp
                omega
              clear hno hWd
              go_wp2_with fail
              go_roundw
              case rel => exact ⟨i + 1, s', _, _, _, _, by omega, rfl, by go_num, hTd, hSd, hRd, by omega, by omega, by omega, hout2, HBN, TTD⟩
              case measure => simp [intOf]; omega
            by_cases h4 : x.kind = 4
            · rw [h4] at g0
              obtain ⟨hfE, hbN⟩ := HBS.out.2.2.2 rfl (by omega)
              have HBN := shut hbN
              have hrd := HTb.out.read x.nm hxnm hfE
              generalize readS s' x.nm = rb at *
              unfold ptr strV at hrd
              clear hbN
              go_wp2_with fail
              (refine Calls.mono hzb ?_; intro eNc wNc hNc; rw [hNc.1, hNc.2]; clear hNc eNc wNc; go_wp2_with fail)
              (refine Calls.mono hzb ?_; intro eNc wNc hNc; rw [hNc.1, hNc.2]; clear hNc eNc wNc; go_wp2_with fail)
              (refine Calls.mono hzb ?_; intro eNc wNc hNc; rw [hNc.1, hNc.2]; clear hNc eNc wNc; go_wp2_with fail)
              (refine Calls.mono hzb ?_; intro eNc wNc hNc; rw [hNc.1, hNc.2]; clear hNc eNc wNc; go_wp2_with fail)
              refine hrd.mono ?_
              rintro e wc ⟨ba, bc, rfl, hOb, hBb, tc⟩
              have hTc := shut (HTb.out.grow tc)
              have hSc := shut ((HSb.out.turn_no tc).mono (R' := fun k => R1 k ∨ (wb.heap.size ≤ k ∧ k < wc.heap.size)) (fun k hk => Or.inl hk))
              have hno := note21 wc _ _ l (by omega) hSc.out x.nm ba bc rb hOb (fun g hg => Or.inr (hBb g hg))
              have hzc := hz.out wc 0
              have g2c := (RB.turn tc (fun q => q)).cell 2 _ rfl
              unfold strV at hno
              have hsz3 := tc.size
              have TTC0 := TTB.then_no tc
              clear hrd hOb hBb
              go_wp2_with fail
              (refine Calls.mono hzc ?_; intro eNc wNc hNc; rw [hNc.1, hNc.2]; clear hNc eNc wNc; go_wp2_with fail)
              refine hno.mono ?_
              rintro e wd ⟨vd, rfl, hWd⟩
              obtain ⟨ca, cc, rfl⟩ := hWd.sl.slice
              have hTd := shut (hTc.out.grow hWd.turn)
              have hSd := shut hWd.sl
              have hRd : Shut (∀ k, ((R1 k ∨ (wb.heap.size ≤ k ∧ k < wc.heap.size)) ∨ (wc.heap.size ≤ k ∧ k < wd.heap.size)) → k < wd.heap.size) := fun k hk => by
                have := hWd.turn.size
                rcases hk with (q | q) | q
                · have := HRb.out k q; omega
                · omega
                · exact q.2
              have TTD := TTC0.then_no hWd.turn
              have hlen : (noteL l x.nm rb).length ≤ l.length + 1 := by
                unfold noteL
                rw [List.length_append]
                have := List.length_filter_le (fun y : Sf => y.nm != x.nm) l
                simp
                omega
              clear hno hWd
              go_wp2_with fail
              go_roundw
              case rel => exact ⟨i + 1, s', _, _, _, _, by omega, rfl, by go_num, hTd, hSd, hRd, by omega, by omega, by omega, hout2, HBN, TTD⟩
              case measure => simp [intOf]; omega
            have f2 : (x.kind == 2) = false := by simpa using h2
            have f3 : (x.kind == 3) = false := by simpa using h3
            have f4 : (x.kind == 4) = false := by simpa using h4
            have f5 : (x.kind == 5) = false := by simpa using h5
            have HBK : Shut (bookOk s'.fs l) := HBS.out.2.2.1 h3 h4 h5
            go_wp2_with fail
            (refine Calls.mono hzb ?_; intro eNc wNc hNc; rw [hNc.1, hNc.2]; clear hNc eNc wNc; go_wp2_with fail)
            (refine Calls.mono hzb ?_; intro eNc wNc hNc; rw [hNc.1, hNc.2]; clear hNc eNc wNc; go_wp2_with fail)
            (refine Calls.mono hzb ?_; intro eNc wNc hNc; rw [hNc.1, hNc.2]; clear hNc eNc wNc; go_wp2_with fail)
            (refine Calls.mono hzb ?_; intro eNc wNc hNc; rw [hNc.1, hNc.2]; clear hNc eNc wNc; go_wp2_with fail)
            go_roundw
            case rel => exact ⟨i + 1, s', l, R1, _, _, by omega, rfl, by go_num, HTb, HSb, HRb, by omega, by omega, by omega, hout2, HBK, TTB⟩
            case measure => simp [intOf]; omega
          · by_cases hE63 : E = 63
            · subst hE63
              by_cases h3 : x.kind = 3
              · rw [h3] at g0
                have hlo := loosen19 wb R1 _ l (by omega) HSb.out x.nm false
                unfold strV at hlo
                go_wp2_with fail
                (refine Calls.mono hzb ?_; intro eNc wNc hNc; rw [hNc.1, hNc.2]; clear hNc eNc wNc; go_wp2_with fail)
                (refine Calls.mono hzb ?_; intro eNc wNc hNc; rw [hNc.1, hNc.2]; clear hNc eNc wNc; go_wp2_with fail)
                (refine Calls.mono hzb ?_; intro eNc wNc hNc; rw [hNc.1, hNc.2]; clear hNc eNc wNc; go_wp2_with fail)
                refine hlo.mono ?_
                rintro e wc ⟨vc, rfl, hWc⟩
                obtain ⟨ca, cc, rfl⟩ := hWc.sl.slice
                have hTc := shut (HTb.out.grow hWc.turn)
                have hSc := shut hWc.sl
                have hRc : Shut (∀ k, (R1 k ∨ (wb.heap.size ≤ k ∧ k < wc.heap.size)) → k < wc.heap.size) := fun k hk => by
                  rcases hk with q | q
                  · have := HRb.out k q; have := hWc.turn.size; omega
                  · exact q.2
                have TTC := TTB.then_no hWc.turn
                have hlen := loosen_len l x.nm false
                have HBL := shut (HBS.out.2.1 false)
                clear hlo hWc
                go_wp2_with fail
                go_roundw
                case rel => exact ⟨i + 1, s', _, _, _, _, by omega, rfl, by go_num, hTc, hSc, hRc, by omega, by omega, by omega, hout2, HBL, TTC⟩
                case measure => simp [intOf]; omega
              by_cases h4 : x.kind = 4
              · rw [h4] at g0
                have hlo := loosen19 wb R1 _ l (by omega) HSb.out x.nm false
                unfold strV at hlo
                go_wp2_with fail
                (refine Calls.mono hzb ?_; intro eNc wNc hNc; rw [hNc.1, hNc.2]; clear hNc eNc wNc; go_wp2_with fail)
                (refine Calls.mono hzb ?_; intro eNc wNc hNc; rw [hNc.1, hNc.2]; clear hNc eNc wNc; go_wp2_with fail)
                (refine Calls.mono hzb ?_; intro eNc wNc hNc; rw [hNc.1, hNc.2]; clear hNc eNc wNc; go_wp2_with fail)
                refine hlo.mono ?_
                rintro e wc ⟨vc, rfl, hWc⟩
                obtain ⟨ca, cc, rfl⟩ := hWc.sl.slice
                have hTc := shut (HTb.out.grow hWc.turn)
                have hSc := shut hWc.sl
                have hRc : Shut (∀ k, (R1 k ∨ (wb.heap.size ≤ k ∧ k < wc.heap.size)) → k < wc.heap.size) := fun k hk => by
                  rcases hk with q | q
                  · have := HRb.out k q; have := hWc.turn.size; omega
                  · exact q.2
                have TTC := TTB.then_no hWc.turn
                have hlen := loosen_len l x.nm false
                have HBL := shut (HBS.out.2.1 false)
                clear hlo hWc
                go_wp2_with fail
                go_roundw
                case rel => exact ⟨i + 1, s', _, _, _, _, by omega, rfl, by go_num, hTc, hSc, hRc, by omega, by omega, by omega, hout2, HBL, TTC⟩
                case measure => simp [intOf]; omega
              by_cases h5 : x.kind = 5
              · rw [h5] at g0
                have hlo := loosen19 wb R1 _ l (by omega) HSb.out x.nm false
                unfold strV at hlo
                go_wp2_with fail
                (refine Calls.mono hzb ?_; intro eNc wNc hNc; rw [hNc.1, hNc.2]; clear hNc eNc wNc; go_wp2_with fail)
                (refine Calls.mono hzb ?_; intro eNc wNc hNc; rw [hNc.1, hNc.2]; clear hNc eNc wNc; go_wp2_with fail)
                (refine Calls.mono hzb ?_; intro eNc wNc hNc; rw [hNc.1, hNc.2]; clear hNc eNc wNc; go_wp2_with fail)
                refine hlo.mono ?_
                rintro e wc ⟨vc, rfl, hWc⟩
                obtain ⟨ca, cc, rfl⟩ := hWc.sl.slice
                have hTc := shut (HTb.out.grow hWc.turn)
                have hSc := shut hWc.sl
                have hRc : Shut (∀ k, (R1 k ∨ (wb.heap.size ≤ k ∧ k < wc.heap.size)) → k < wc.heap.size) := fun k hk => by
                  rcases hk with q | q
                  · have := HRb.out k q; have := hWc.turn.size; omega
                  · exact q.2
                have TTC := TTB.then_no hWc.turn
                have hlen := loosen_len l x.nm false
                have HBL := shut (HBS.out.2.1 false)
                clear hlo hWc
                go_wp2_with fail
                go_roundw
                case rel => exact ⟨i + 1, s', _, _, _, _, by omega, rfl, by go_num, hTc, hSc, hRc, by omega, by omega, by omega, hout2, HBL, TTC⟩
                case measure => simp [intOf]; omega
              have f3 : (x.kind == 3) = false := by simpa using h3
              have f4 : (x.kind == 4) = false := by simpa using h4
              have f5 : (x.kind == 5) = false := by simpa using h5
              have HBK : Shut (bookOk s'.fs l) := HBS.out.2.2.1 h3 h4 h5
              go_wp2_with fail
              (refine Calls.mono hzb ?_; intro eNc wNc hNc; rw [hNc.1, hNc.2]; clear hNc eNc wNc; go_wp2_with fail)
              (refine Calls.mono hzb ?_; intro eNc wNc hNc; rw [hNc.1, hNc.2]; clear hNc eNc wNc; go_wp2_with fail)
              (refine Calls.mono hzb ?_; intro eNc wNc hNc; rw [hNc.1, hNc.2]; clear hNc eNc wNc; go_wp2_with fail)
              (refine Calls.mono hzb ?_; intro eNc wNc hNc; rw [hNc.1, hNc.2]; clear hNc eNc wNc; go_wp2_with fail)
              (refine Calls.mono hzb ?_; intro eNc wNc hNc; rw [hNc.1, hNc.2]; clear hNc eNc wNc; go_wp2_with fail)
              go_roundw
              case rel => exact ⟨i + 1, s', l, R1, _, _, by omega, rfl, by go_num, HTb, HSb, HRb, by omega, by omega, by omega, hout2, HBK, TTB⟩
              case measure => simp [intOf]; omega
            · have q0 : (E != 0) = true := by simpa using hE0
              have q1 : (E != 63) = true := by simpa using hE63
              have HBK : Shut (bookOk s'.fs l) := HBS.out.1 hE0 hE63
              go_wp2_with fail
              (refine Calls.mono hzb ?_; intro eNc wNc hNc; rw [hNc.1, hNc.2]; clear hNc eNc wNc; go_wp2_with fail)
              (refine Calls.mono hzb ?_; intro eNc wNc hNc; rw [hNc.1, hNc.2]; clear hNc eNc wNc; go_wp2_with fail)
              go_roundw
              case rel => exact ⟨i + 1, s', l, R1, _, _, by omega, rfl, by go_num, HTb, HSb, HRb, by omega, by omega, by omega, hout2, HBK, TTB⟩
              case measure => simp [intOf]; omega

        · rw [hoff] at hon
          go_wp2_with fail
          try rw [← hwa]
          refine hon.mono ?_
          intro e' w' hh
          rw [hh.1, hh.2]
          clear hh e' w' hon
          subst hwa
          go_wp2_with fail
          go_roundw
          case rel => exact ⟨i + 1, s, l, R1, _, _, by omega, rfl, by go_num, HTa, HSa, HRa, by omega, by omega, by omega, hout, hbk, TTA⟩
          case measure => simp [intOf]; omega

      · subst hwa
        by_cases hk2 : x.kind < 1
        · have k1' : decide (x.kind < 1) = true := by simp; omega
          go_wp2_with fail
          try rw [← hwa]
          go_roundw
          case rel => exact ⟨i + 1, s, l, R1, _, _, by omega, rfl, by go_num, HTa, HSa, HRa, by omega, by omega, by omega, hout, hbk, TTA⟩
          case measure => simp [intOf]; omega

        · have k1' : decide (x.kind < 1) = false := by simp; omega
          have k2' : decide (11 < x.kind) = true := by simp; omega
          go_wp2_with fail
          try rw [← hwa]
          go_roundw
          case rel => exact ⟨i + 1, s, l, R1, _, _, by omega, rfl, by go_num, HTa, HSa, HRa, by omega, by omega, by omega, hout, hbk, TTA⟩
          case measure => simp [intOf]; omega
    · have hlt' : ¬ (i : Int) < (l1.length : Int) := by omega
      have hcr := hT.out.crash hout (.slice ka keep.length kc) keep (HKP3.out wr T) junk
      have HEND := shut (fun x hx ho => book_end (l := l) (fun f hf => (hT.out.one.ok.1 f hf).1) hbk.out keep junk x hx ho)
      have iml : (crashL s.fs keep junk).length ≤ 65536 := by rw [crashL_len]; exact hT.out.one.ok.2
      generalize crashL s.fs keep junk = im at *
      have hSz : wr.heap.size ≤ wr.heap.size := Nat.le_refl _
      unfold ptr at hcr
      go_wp2_with fail
      refine hcr.mono ?_
      rintro e w7 ⟨v7, rfl, hI, t7⟩
      obtain ⟨a7, c7, rfl⟩ := hI.slice
      obtain ⟨w8, hw8⟩ : ∃ w8, w8 = w7.alloc (.cells #[.slice a7 im.length c7] 36) := ⟨_, rfl⟩
      have A8 : Turn no w7 w8 := by rw [hw8]; exact (Turn.refl no w7).alloc _
      have R8 : Row w8 w7.heap.size #[.slice a7 im.length c7] 36 := by rw [hw8]; exact Row.new _ _ _
      have S8 := shut ((hSl.out.but t7).turn_no A8)
      have I8 := shut (hI.turn_no A8)
      have T8 : Turn (old B) w3 w8 := (T.trans t7 (fun _ _ q => q.1)).then_no A8
      have hz8 := hz.out w8 0
      obtain ⟨G8, hG8⟩ : ∃ G8, G8 = w7.heap.size := ⟨_, rfl⟩
      rw [← hG8] at R8
      have HG8 := shut hG8
      clear hcr hI hSl hT hR
      go_wp2_with fail
      try rw [← hw8]
      try rw [← hG8]
      clear hw8 hG8
      (refine Calls.mono hz8 ?_; intro eNc wNc hNc; rw [hNc.1, hNc.2]; clear hNc eNc wNc; go_wp2_with fail)
      go_loopw [19] (fun x wr => ∃ (j : Nat), j ≤ l.length ∧ x = .int .i64 j ∧ Turn no w8 wr) (fun x _ => l.length - (intOf x).toNat)
      case atStart => exact ⟨0, Nat.zero_le _, rfl, Turn.refl _ _⟩
      case round =>
        obtain ⟨j, hj, rfl, TJ⟩ := hrel
        by_cases hjl : j < l.length
        · have hjl' : (j : Int) < (l.length : Int) := by omega
          obtain ⟨f, hf⟩ : ∃ f, l[j]? = some f := ⟨l[j], List.getElem?_eq_getElem hjl⟩
          obtain ⟨g, cg, xa, xc, e1, c0, c1, c2, hO, hR⟩ := (S8.out.turn_no TJ).at j f hf
          have e1' : sa = some ⟨g, 0, none⟩ := by simp at e1; exact e1.1
          subst e1'
          have HR8 := shut R8
          clear hO hR e1
          go_wp2_with fail
          go_loopw [20, 21] (fun x y wr => ∃ (q : Nat) (fd : Bool), q ≤ im.length ∧ x = .bool fd ∧ y = .int .i64 q ∧ Shut (fd = true ∨ (f.op = false ∧ ∀ (q' : Nat) (fi : Fi), q' < q → im[q']? = some fi → ¬ (fi.1 = f.nm ∧ begB f.bs fi.2 = true))) ∧ Turn no w8 wr) (fun _ y _ => im.length - (intOf y).toNat)
          case atStart => exact ⟨0, f.op, Nat.zero_le _, rfl, rfl, by
            show _ ∨ _
            cases f.op
            · exact Or.inr ⟨rfl, fun q' fi hq => by omega⟩
            · exact Or.inl rfl, TJ⟩
          case round =>
            clear c0 c1 c2
            obtain ⟨q, fd, hq, rfl, rfl, hfd, TQ⟩ := hrel
            have r0 := (HR8.out.turn TQ (fun q => q)).cell 0 _ rfl
            by_cases hql : q < im.length
            · have hql' : (q : Int) < (im.length : Int) := by omega
              obtain ⟨fi, hfi⟩ : ∃ fi, im[q]? = some fi := ⟨im[q], List.getElem?_eq_getElem hql⟩
              obtain ⟨g2, cg2, ya, yc, e2, m0, m1, hBs⟩ := (I8.out.turn_no TQ).at q fi hfi
              have e2' : a7 = some ⟨g2, 0, none⟩ := by simp at e2; exact e2.1
              subst e2'
              obtain ⟨g3, cg3, xa3, xc3, e3, c0, c1, c2, hO, _⟩ := (S8.out.turn_no TQ).at j f hf
              have e3' : g = g3 := by simp at e3; exact e3.1
              subst e3'
              unfold strV at m0 c0
              by_cases hnm : fi.1 = f.nm
              · obtain ⟨rr, hrr⟩ : ∃ rr, begB f.bs fi.2 = rr := ⟨_, rfl⟩
                have hbg : Shut (∀ x, Calls Try.prog 22 #[.slice xa3 f.bs.length xc3, .slice ya fi.2.length yc] (wr.drewN x) fun e w' => e = .returned (.bool rr) ∧ ∃ m, w' = wr.drewN m) := fun x => begins_q wr x _ _ _ _ rr hO.bs hBs hrr
                have b1 : (fi.1 == f.nm) = true := by simpa using hnm
                have HNM := shut hnm
                rw [hnm] at m0
                clear hnm e2 e3 hO hBs
                have hbb := shut hrr
                clear hrr
                cases rr
                · have hfd2 : Shut (fd = true ∨ (f.op = false ∧ ∀ (q' : Nat) (fi : Fi), q' < q + 1 → im[q']? = some fi → ¬ (fi.1 = f.nm ∧ begB f.bs fi.2 = true))) := by
                    rcases hfd.out with h | ⟨h, h'⟩
                    · exact Or.inl h
                    · refine Or.inr ⟨h, fun q' fi' hq' hfi' hh => ?_⟩
                      by_cases hqq : q' = q
                      · subst hqq
                        rw [hfi] at hfi'
                        cases hfi'
                        rw [hbb.out] at hh
                        cases hh.2
                      · exact h' q' fi' (by omega) hfi' hh
                  go_wp2_with fail
                  go_quiet ((first | (go_at_call 22; exact hbg.out _)))
                  have TQ2 := TQ.drewN nq
                  clear hbg
                  generalize wr.drewN nq = wq at *
                  go_wp2_with fail
                  go_roundw
                  case rel => exact ⟨q + 1, fd, by omega, rfl, by go_num, hfd2, TQ2⟩
                  case measure => simp [intOf]; omega
                · go_wp2_with fail
                  go_quiet ((first | (go_at_call 22; exact hbg.out _)))
                  have TQ2 := TQ.drewN nq
                  clear hbg
                  generalize wr.drewN nq = wq at *
                  go_wp2_with fail
                  go_roundw
                  case rel => exact ⟨q + 1, true, by omega, rfl, by go_num, Or.inl rfl, TQ2⟩
                  case measure => simp [intOf]; omega
              · have b1 : (fi.1 == f.nm) = false := by simpa using hnm
                have hfd2 : Shut (fd = true ∨ (f.op = false ∧ ∀ (q' : Nat) (fi : Fi), q' < q + 1 → im[q']? = some fi → ¬ (fi.1 = f.nm ∧ begB f.bs fi.2 = true))) := by
                  rcases hfd.out with h | ⟨h, h'⟩
                  · exact Or.inl h
                  · refine Or.inr ⟨h, fun q' fi' hq' hfi' hh => ?_⟩
                    by_cases hqq : q' = q
                    · subst hqq
                      rw [hfi] at hfi'
                      cases hfi'
                      exact hnm hh.1
                    · exact h' q' fi' (by omega) hfi' hh
                clear e2 e3 hO hBs
                go_wp2_with fail
                go_quiet (fail)
                have TQ2 := TQ.drewN nq
                generalize wr.drewN nq = wq at *
                go_wp2_with fail
                go_roundw
                case rel => exact ⟨q + 1, fd, by omega, rfl, by go_num, hfd2, TQ2⟩
                case measure => simp [intOf]; omega
            · have hql' : ¬ (q : Int) < (im.length : Int) := by omega
              have hfdt : fd = true := by
                rcases hfd.out with h | ⟨h, h'⟩
                · exact h
                · obtain ⟨q', fi', h1, h2, h3⟩ := HEND.out f (List.mem_of_getElem? hf) h
                  exact (h' q' fi' (by have := (List.getElem?_eq_some_iff.1 h1).1; omega) h1 ⟨h2, h3⟩).elim
              subst hfdt
              go_wp2_with fail
              go_roundw
              case rel => exact ⟨j + 1, by omega, by go_num, TQ⟩
              case measure => simp [intOf]; omega
        · have hjl' : ¬ (j : Int) < (l.length : Int) := by omega
          have TG : Turn no w wr := T3.trans (T8.then_no TJ) (fun k hk q => by have : B ≤ k := q; have := HBW.out; omega)
          go_wp2_with fail
          go_ret
          exact ⟨rfl, TG⟩
end Go.Proofs.Ytcdogciacchigaa
