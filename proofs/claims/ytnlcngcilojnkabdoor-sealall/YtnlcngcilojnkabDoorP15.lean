/- SealAll: its walk. -/
import Derived.Test.YtnlcngcilojnkabDoorPd
namespace Go.Proofs.YtnlcngcilojnkabDoor
open Go.RowKit Go.Maps Go.MuLone
set_option linter.unusedVariables false

set_option maxRecDepth 100000 in
set_option maxHeartbeats 4000000 in
theorem all3 (w : World) (v : Value) (l : List Opx) (hS : Script w v l) (hl0 : Laid0 w) (hl1 : Laid1 w) (h2 : 2 ≤ w.heap.size) (hl : l.length ≤ 1599289640401) :
    Calls Tryd.prog 3 #[v] w fun e w' => e = .returned (.bool true) ∧ Turn no w w' := by
  obtain ⟨va, vc, hv, hcells, hcap, hle⟩ := hS.slice
  subst hv
  clear hS
  have cb := begin9 w
  have Hl0 := shutX hl0
  have Hl1 := shutX hl1
  clear hl0 hl1
  obtain ⟨n, hn⟩ : ∃ n, Shut (l.length = n) := ⟨_, rfl⟩
  rw [show l.length = n from hn.out] at hcap hle hl ⊢
  go_enter Tryd.func3, Tryd.ntmps3
  go_wp2_with (go_at_call 9; refine cb.mono ?_; rintro e w1 ⟨rfl, d, hT, hd, t1⟩)
  have R0 : Rnd w w1 0 := ⟨d, _, [], hT, fun j => by rw [(hd j).1, (hd j).2]; simp, by simp, t1⟩
  obtain ⟨tw, htw⟩ : ∃ t, w.heap.size = t := ⟨_, rfl⟩
  rw [htw]
  clear cb hT hd t1
  go_loopw [4, 5] (fun b c wr => ∃ i : Nat, i ≤ n ∧ b = .bool true ∧ c = .int .i64 i ∧ Rnd w wr i) (fun _ c _ => n - (intOf c).toNat)
  case atStart => exact ⟨0, by omega, rfl, rfl, R0⟩
  case round =>
    clear R0
    obtain ⟨i, hi', rfl, rfl, d', vq, Q, hT, hd, hQ, T⟩ := hrel
    by_cases hlt : i < n
    · have hlt' : (i : Int) < (n : Int) := by omega
      obtain ⟨x, hx⟩ : ∃ x, l[i]? = some x := ⟨l[i]'(by rw [hn.out]; exact hlt), List.getElem?_eq_getElem _⟩
      obtain ⟨b, off, rfl, hr, hb, hok⟩ := hcells i x hx
      have hr1 := rangeAt_turn hr T
      have s33l : (Tryd.prog.info? 33).map (·.size) = some (opC x).length := by rw [opC_len hok]; exact size33c
      have cst := step10 hT x hok (hb.turn_no T) (Hl0.out.turn T (fun q => q)) (Hl1.out.turn T (fun q => q)) h2 (fun k _ => by have := hd k; omega) (by omega)
      have hfin := fun W' (h : After w.heap.size wr w.heap.size d' Q W') => Rnd.next hd hQ T h
      rw [htw] at cst hfin
      have Hfin := shutX hfin
      clear hfin hT hd hQ hr hx hcells hb hok
      generalize hCC : (opC x) = C at *
      go_upto_region 8 with (first | (guard_target =~ wpList _ _ _ ({ dst := _, op := Op.load 33 _, .. } :: _) _ _; refine wpList_load_mid rfl 33 (.tmp 21) rfl b (off + i * 23) rfl C _ hr1 Tryd.underlying33 rfl s33l ?_) | (go_at_call 10; refine cst.mono ?_; rintro e w4 ⟨rfl, A4⟩))
      clear cst s33l hr1
      obtain ⟨d2, vq2, Q2, h4, g4, q4, t4⟩ := A4
      have cp0 : w4.cell? ⟨tw, 0, none⟩ = some (.pointer (some ⟨(d2 0).p, 0, none⟩)) := (h4.at (k := 0) (i := 0) (by omega)).1
      have cq0 : w4.cell? ⟨tw, 2, none⟩ = some (.pointer (some ⟨(d2 0).q, 0, none⟩)) := (h4.at (k := 0) (i := 0) (by omega)).2.1
      have cp1 : w4.cell? ⟨tw, 1, none⟩ = some (.pointer (some ⟨(d2 1).p, 0, none⟩)) := (h4.at (k := 1) (i := 0) (by omega)).1
      have cq1 : w4.cell? ⟨tw, 3, none⟩ = some (.pointer (some ⟨(d2 1).q, 0, none⟩)) := (h4.at (k := 1) (i := 0) (by omega)).2.1
      have off0 := h4.tw_off (k := 0) (by omega)
      have off1 := h4.tw_off (k := 1) (by omega)
      have offS : ¬ (tw = (d2 0).p ∨ tw = (d2 1).p) := fun q => q.elim (fun q => off0 (.inl (.inl q))) (fun q => off1 (.inl (.inl q)))
      have cc := ((h4.side 0 (by omega)).bk.turn_no ((Turn.refl no w4).drew)).count
      have Hh4 := shutX h4
      have Hg4 := shutX (And.intro g4 (And.intro q4 t4))
      clear h4 g4 q4 t4 off0 off1
      generalize hn0 : (d2 0).R.length = n0 at *
      generalize hn1 : (d2 1).R.length = n1 at *
      have Hn := shutX (And.intro hn0 hn1)
      clear hn0 hn1
      refine wp_region_noPanic ?_
      refine wp_region_held_drew (S := fun W => Turn (fun g => g = (d2 0).p ∨ g = (d2 1).p) w4 W) (by kernel_rfl) ((Turn.refl _ w4).drew) (fun hHeld => ?_)
      refine' wpAnyH_take (i := 0) (v := .bool true) rfl (by kernel_rfl) (by kernel_rfl) (by kernel_rfl) (fun _ _ _ h => h) (Or.inl ⟨by kernel_rfl, fun W hW => ?y1⟩) hHeld ?r1
      · go_simp
      refine' wpAnyH_take (i := 1) (v := .bool false) rfl (by kernel_rfl) (by kernel_rfl) (by kernel_rfl) (fun _ _ _ h => h) (Or.inl ⟨by kernel_rfl, fun W hW => ?y2⟩) hHeld ?r2
      · go_simp
      refine' wpAnyH_take (i := 2) (v := .bool false) rfl (by kernel_rfl) (by kernel_rfl) (by kernel_rfl) (fun _ _ _ h => h) (Or.inl ⟨by kernel_rfl, fun W hW => ?y3⟩) hHeld ?r3
      · go_simp
      refine' wpAnyH_take (i := 3) (v := .pointer (some ⟨tw, 0, none⟩)) rfl (by kernel_rfl) (by kernel_rfl) (by kernel_rfl) (fun _ _ _ h => h) (Or.inl ⟨by kernel_rfl, fun W hW => ?y4⟩) hHeld ?r4
      · go_simp
      refine' wpAnyH_take (i := 4) (v := .pointer (some ⟨tw, 0, none⟩)) rfl (by kernel_rfl) (by kernel_rfl) (by kernel_rfl) (fun _ _ _ h => h) (Or.inl ⟨by kernel_rfl, fun W hW => ?y5⟩) hHeld ?r5
      · go_simp
      refine' wpAnyH_take (i := 5) (v := .pointer (some ⟨tw, 0, none⟩)) rfl (by kernel_rfl) (by kernel_rfl) (by kernel_rfl) (fun _ _ _ h => h) (Or.inl ⟨by kernel_rfl, fun W hW => ?y6⟩) hHeld ?r6
      · go_simp
      refine' wpAnyH_take (i := 6) (v := .pointer (some ⟨tw, 0, none⟩)) rfl (by kernel_rfl) (by kernel_rfl) (by kernel_rfl) (fun _ _ _ h => h) (Or.inl ⟨by kernel_rfl, fun W hW => ?y7⟩) hHeld ?r7
      · go_simp
      refine' wpAnyH_take (i := 7) (v := .pointer (some ⟨(d2 0).p, 0, none⟩)) rfl (by kernel_rfl) (by kernel_rfl) (by kernel_rfl) (fun _ _ _ h => h) (Or.inl ⟨by kernel_rfl, fun W hW => ?y8⟩) hHeld ?r8
      · have c := hW.keep cp0 offS
        go_simp
      refine' wpAnyH_take (i := 9) (v := .pointer (some ⟨tw, 0, none⟩)) rfl (by kernel_rfl) (by kernel_rfl) (by kernel_rfl) (fun _ _ _ h => h) (Or.inl ⟨by kernel_rfl, fun W hW => ?y9⟩) hHeld ?r9
      · go_simp
      refine' wpAnyH_take (i := 10) (v := .pointer (some ⟨tw, 0, none⟩)) rfl (by kernel_rfl) (by kernel_rfl) (by kernel_rfl) (fun _ _ _ h => h) (Or.inl ⟨by kernel_rfl, fun W hW => ?y10⟩) hHeld ?r10
      · go_simp
      refine' wpAnyH_take (i := 11) (v := .pointer (some ⟨tw, 2, none⟩)) rfl (by kernel_rfl) (by kernel_rfl) (by kernel_rfl) (fun _ _ _ h => h) (Or.inl ⟨by kernel_rfl, fun W hW => ?y11⟩) hHeld ?r11
      · go_simp
      refine' wpAnyH_take (i := 12) (v := .pointer (some ⟨tw, 2, none⟩)) rfl (by kernel_rfl) (by kernel_rfl) (by kernel_rfl) (fun _ _ _ h => h) (Or.inl ⟨by kernel_rfl, fun W hW => ?y12⟩) hHeld ?r12
      · go_simp
      refine' wpAnyH_take (i := 13) (v := .pointer (some ⟨(d2 0).q, 0, none⟩)) rfl (by kernel_rfl) (by kernel_rfl) (by kernel_rfl) (fun _ _ _ h => h) (Or.inl ⟨by kernel_rfl, fun W hW => ?y13⟩) hHeld ?r13
      · have c := hW.keep cq0 offS
        go_simp
      refine wpAnyH_ready (rs := [8]) (by kernel_rfl) (by simp) ?_
      refine AllReadyH.cons rfl (fun K hK => ?_) AllReadyH.nil
      go_simp
      refine cc.mono ?_
      rintro e w5 ⟨rfl, bk5, t5⟩
      have t45 : Turn (fun g => g = (d2 0).p) w4 w5 := ((Turn.refl _ w4).drew).trans t5 (fun _ _ q => q)
      obtain ⟨h5, tb5⟩ := Hh4.out.side_same (k := 0) (by omega) (t45.mono (fun _ _ q => .inl (.inl q))) ((Hh4.out.side 0 (by omega)).bk_same t45 bk5)
      have t45' : Turn (fun g => g = (d2 0).p ∨ g = (d2 1).p) w4 w5 := t45.mono (fun _ _ q => .inl q)
      refine hK.out _ _ t45' (fun hHeld => ?_)
      clear hK
      have c2 := rcount12 (h5.side 0 (by omega)).rf
      rw [Hn.out.1] at c2
      refine wpAnyH_ready (rs := [14]) (by kernel_rfl) (by simp) ?_
      refine AllReadyH.cons rfl (fun K hK => ?_) AllReadyH.nil
      go_simp
      refine c2.mono ?_
      rintro e w6 ⟨rfl, q6⟩
      have q6 := q6.symm
      subst q6
      refine hK.out _ _ t45' (fun hHeld => ?_)
      clear hK c2 cc t45 t5 bk5
      have cc := (h5.side 1 (by omega)).bk.count
      rw [Hn.out.2] at cc
      have Hh5 := shutX (And.intro h5 tb5)
      clear h5 tb5
      refine' wpAnyH_take (i := 15) (v := .bool false) rfl (by kernel_rfl) (by kernel_rfl) (by kernel_rfl) (fun _ _ _ h => h) (Or.inl ⟨by kernel_rfl, fun W hW => ?y14⟩) hHeld ?r14
      · go_simp
      refine' wpAnyH_take (i := 16) (v := .bool false) rfl (by kernel_rfl) (by kernel_rfl) (by kernel_rfl) (fun _ _ _ h => h) (Or.inl ⟨by kernel_rfl, fun W hW => ?y15⟩) hHeld ?r15
      · go_simp
      refine' wpAnyH_take (i := 17) (v := .bool false) rfl (by kernel_rfl) (by kernel_rfl) (by kernel_rfl) (fun _ _ _ h => h) (Or.inl ⟨by kernel_rfl, fun W hW => ?y16⟩) hHeld ?r16
      · go_simp
      refine' wpAnyH_take (i := 18) (v := .pointer (some ⟨tw, 0, none⟩)) rfl (by kernel_rfl) (by kernel_rfl) (by kernel_rfl) (fun _ _ _ h => h) (Or.inl ⟨by kernel_rfl, fun W hW => ?y17⟩) hHeld ?r17
      · go_simp
      refine' wpAnyH_take (i := 19) (v := .pointer (some ⟨tw, 0, none⟩)) rfl (by kernel_rfl) (by kernel_rfl) (by kernel_rfl) (fun _ _ _ h => h) (Or.inl ⟨by kernel_rfl, fun W hW => ?y18⟩) hHeld ?r18
      · go_simp
      refine' wpAnyH_take (i := 20) (v := .pointer (some ⟨tw, 0, none⟩)) rfl (by kernel_rfl) (by kernel_rfl) (by kernel_rfl) (fun _ _ _ h => h) (Or.inl ⟨by kernel_rfl, fun W hW => ?y19⟩) hHeld ?r19
      · go_simp
      refine' wpAnyH_take (i := 21) (v := .pointer (some ⟨tw, 1, none⟩)) rfl (by kernel_rfl) (by kernel_rfl) (by kernel_rfl) (fun _ _ _ h => h) (Or.inl ⟨by kernel_rfl, fun W hW => ?y20⟩) hHeld ?r20
      · go_simp
      refine' wpAnyH_take (i := 22) (v := .pointer (some ⟨(d2 1).p, 0, none⟩)) rfl (by kernel_rfl) (by kernel_rfl) (by kernel_rfl) (fun _ _ _ h => h) (Or.inl ⟨by kernel_rfl, fun W hW => ?y21⟩) hHeld ?r21
      · have c := hW.keep cp1 offS
        go_simp
      refine' wpAnyH_take (i := 24) (v := .pointer (some ⟨tw, 0, none⟩)) rfl (by kernel_rfl) (by kernel_rfl) (by kernel_rfl) (fun _ _ _ h => h) (Or.inl ⟨by kernel_rfl, fun W hW => ?y22⟩) hHeld ?r22
      · go_simp
      refine' wpAnyH_take (i := 25) (v := .pointer (some ⟨tw, 0, none⟩)) rfl (by kernel_rfl) (by kernel_rfl) (by kernel_rfl) (fun _ _ _ h => h) (Or.inl ⟨by kernel_rfl, fun W hW => ?y23⟩) hHeld ?r23
      · go_simp
      refine' wpAnyH_take (i := 26) (v := .pointer (some ⟨tw, 2, none⟩)) rfl (by kernel_rfl) (by kernel_rfl) (by kernel_rfl) (fun _ _ _ h => h) (Or.inl ⟨by kernel_rfl, fun W hW => ?y24⟩) hHeld ?r24
      · go_simp
      refine' wpAnyH_take (i := 27) (v := .pointer (some ⟨tw, 3, none⟩)) rfl (by kernel_rfl) (by kernel_rfl) (by kernel_rfl) (fun _ _ _ h => h) (Or.inl ⟨by kernel_rfl, fun W hW => ?y25⟩) hHeld ?r25
      · go_simp
      refine' wpAnyH_take (i := 28) (v := .pointer (some ⟨(d2 1).q, 0, none⟩)) rfl (by kernel_rfl) (by kernel_rfl) (by kernel_rfl) (fun _ _ _ h => h) (Or.inl ⟨by kernel_rfl, fun W hW => ?y26⟩) hHeld ?r26
      · have c := hW.keep cq1 offS
        go_simp
      refine wpAnyH_ready (rs := [23]) (by kernel_rfl) (by simp) ?_
      refine AllReadyH.cons rfl (fun K hK => ?_) AllReadyH.nil
      go_simp
      refine cc.mono ?_
      rintro e w7 ⟨rfl, bk7, t7⟩
      obtain ⟨h7, tb7⟩ := Hh5.out.1.side_same (k := 1) (by omega) (t7.mono (fun _ _ q => .inl (.inl q))) ((Hh5.out.1.side 1 (by omega)).bk_same t7 bk7)
      have t47 : Turn (fun g => g = (d2 0).p ∨ g = (d2 1).p) w4 w7 := t45'.trans (t7.mono (fun _ _ q => .inr q)) (fun _ _ q => q)
      refine hK.out _ _ t47 (fun hHeld => ?_)
      clear hK
      have c2 := rcount12 (h7.side 1 (by omega)).rf
      rw [Hn.out.2] at c2
      refine wpAnyH_ready (rs := [29]) (by kernel_rfl) (by simp) ?_
      refine AllReadyH.cons rfl (fun K hK => ?_) AllReadyH.nil
      go_simp
      refine c2.mono ?_
      rintro e w8 ⟨rfl, q8⟩
      have q8 := q8.symm
      subst q8
      refine hK.out _ _ t47 (fun hHeld => ?_)
      clear hK c2 cc
      have A8 : After tw wr tw d' Q w7 := ⟨d2, vq2, Q2, h7, Hg4.out.1, Hg4.out.2.1, Hg4.out.2.2.trans (Hh5.out.2.trans tb7 (fun _ _ q => q)) (fun _ _ q => q)⟩
      have R8 := shutX (Hfin.out _ A8)
      clear h7 tb7 t7 bk7 A8 t45' cp0 cq0 cp1 cq1
      refine' wpAnyH_take (i := 30) (v := .bool false) rfl (by kernel_rfl) (by kernel_rfl) (by kernel_rfl) (fun _ _ _ h => h) (Or.inl ⟨by kernel_rfl, fun W hW => ?y27⟩) hHeld ?r27
      · go_simp
      refine wpAnyH_ready (rs := [31]) (by kernel_rfl) (by simp) ?_
      refine AllReadyH.cons rfl (fun K hK => ?_) AllReadyH.nil
      go_simp
      refine hK.out _ _ t47 (fun hHeld => ?_)
      clear hK
      refine wpAnyH_done (by kernel_rfl) ?_ _
      refine NoPanic.normal ?_
      go_simp
      go_wp2_with fail
      refine ⟨⟨i + 1, by omega, rfl, ?_, R8.out⟩, ?_⟩
      · first | rfl | (simp only [intOf]; omega) | (congr 1)
      · simp only [intOf]; omega
    · obtain rfl : i = n := by omega
      have hlt' : ¬ (i : Int) < (i : Int) := by omega
      go_wp2_with fail
      go_ret
      exact ⟨rfl, T⟩
end Go.Proofs.YtnlcngcilojnkabDoor
