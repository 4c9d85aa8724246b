/- Of the document's disk: Cut. -/
import Derived.Test.YtcdogciacchigabR5
import Derived.Test.YtcdogciacchigabM10
namespace Go.Proofs.Ytcdogciacchigab
open Go.RowKit Go.Maps
set_option linter.unusedVariables false

section
variable {w : World} {q : Nat} {K : Nat → Prop} {fv av : Value} {s : St}
theorem cut_inv {s : St} (h : Inv s) (nm : Nm) (f : Pf) (hg : getF nm s.fs = some f) (ha : isNm nm = true) (N : Nat) (hN : N ≤ f.bs.length) : Inv { s with fs := putF ⟨nm, f.bs.take N, N⟩ s.fs } := by
  have hL : lenF nm s.fs = f.bs.length := by simp [lenF, hg]
  have hl : (f.bs.take N).length = N := by rw [List.length_take]; omega
  refine h.put _ ha ?_ ?_ (Or.inl (by simp [hg]))
  · simp [hl]
  · have := h.used
    simp only [hl, hL]
    omega

set_option maxRecDepth 100000 in
set_option maxHeartbeats 16000000 in
theorem rcut81 (hk : Rk w q K s) (hn : s.n < 4611686018427387904) (hm : s.m < 3518437208780) (nm : Nm) (hnm : nm.length ≤ maxLen) (n : Int) :
    Calls Try.prog 81 #[ptr q, strV nm, .int .i64 n] w (Rns w q K (cutS s nm n)) := by
  have ha := asked49 hk nm hnm
  have hk0 := hk
  obtain ⟨fv, av, h⟩ := hk
  by_cases hA : asked s nm = 0
  · obtain ⟨a1, a2⟩ := asked_off hA
    rw [hA] at ha
    have hat := at50 h nm
    have hul := h.inv.used
    have hll := h.inv.lim
    have hcount := h.inv.count
    obtain ⟨fa, fc, hfv, _, _⟩ := h.files.slice
    subst hfv
    have c2 := h.c2
    cases hg : getF nm s.fs with
    | none =>
      have hk1 : atI nm s.fs = -1 := atI_none.2 hg
      rw [hk1] at hat
      have hE : foundE s nm = 61 := by simp [foundE, hA, hg]
      have e : cutS s nm n = (s, 61) := by simp [cutS, hE]
      rw [e]
      have FIN := shut (Rns.same (r := (s, 61)) hk0 (Turn.refl no w))
      clear e hE hg hk1 h hk0
      unfold ptr strV at *
      go_enter Try.func81, Try.ntmps81
      go_wp2_with fail
      refine ha.mono ?_
      rintro e w' ⟨rfl, rfl⟩
      go_wp2_with fail
      refine hat.mono ?_
      rintro e w' ⟨rfl, rfl⟩
      go_wp2_with fail
      go_ret
      exact FIN.out
    | some f =>
      obtain ⟨kn, hkn, hfk, _⟩ := atI_some hg
      rw [hkn] at hat
      have hkl := (List.getElem?_eq_some_iff.1 hfk).1
      have hkl' : (kn : Int) < (s.fs.length : Int) := by omega
      have hk0' : ¬ (kn : Int) < 0 := by omega
      have hE : foundE s nm = 0 := by simp [foundE, hA, hg]
      have hLf : lenF nm s.fs = f.bs.length := by simp [lenF, hg]
      have hfo : fileOf s.fs nm = f := by simp [fileOf, hg]
      have hfbl : f.bs.length ≤ 1073741824 := by
        have h1 := lenF_le nm s.fs
        omega
      obtain ⟨gw, cw, xw, xcw, ew, _, d1w, _, _, _⟩ := h.files.at kn f hfk
      have ew' : fa = some ⟨gw, 0, none⟩ := by simp at ew; exact ew.1
      clear ew
      by_cases hbad : n < 0 ∨ (f.bs.length : Int) < n
      · have e : cutS s nm n = (s, 2) := by simp only [cutS, hE, hLf]; simp [hbad]
        rw [e]
        have FIN := shut (Rns.same (r := (s, 2)) hk0 (Turn.refl no w))
        clear e hE hg hkn h hk0 hLf hfo hfk
        subst ew'
        unfold ptr strV at *
        by_cases hn0 : n < 0
        · clear hbad
          go_enter Try.func81, Try.ntmps81
          go_wp2_with fail
          refine ha.mono ?_
          rintro e w' ⟨rfl, rfl⟩
          go_wp2_with fail
          refine hat.mono ?_
          rintro e w' ⟨rfl, rfl⟩
          go_wp2_with fail
          go_ret
          exact FIN.out
        · have hn1 : (f.bs.length : Int) < n := by omega
          clear hbad
          go_enter Try.func81, Try.ntmps81
          go_wp2_with fail
          refine ha.mono ?_
          rintro e w' ⟨rfl, rfl⟩
          go_wp2_with fail
          refine hat.mono ?_
          rintro e w' ⟨rfl, rfl⟩
          go_wp2_with fail
          go_ret
          exact FIN.out
      · obtain ⟨N, hN⟩ : ∃ N : Nat, n = (N : Int) := ⟨n.toNat, by omega⟩
        subst hN
        have hNl : N ≤ f.bs.length := by omega
        have hN0 : ¬ (N : Int) < 0 := by omega
        have hN1 : ¬ (f.bs.length : Int) < (N : Int) := by omega
        have hN2 : (N : Int) ≤ (f.bs.length : Int) := by omega
        have e : cutS s nm (N : Int) = numb s (putF ⟨nm, f.bs.take N, N⟩ s.fs) := by
          unfold cutS
          rw [hE, hLf, hfo, if_neg (by simp), if_neg hbad]
          simp
        have hinv := cut_inv h.inv nm f hg a2 N hNl
        have hinv2 := numb_inv2 h.inv hinv
        rw [e]
        have HH := shut h
        have HI2 := shut hinv2
        have HFK := shut hfk
        have hdo := numb_do s (putF ⟨nm, f.bs.take N, N⟩ s.fs)
        have HDO := shut hdo
        have hbe := befall52 h hn hm
        have HFS := shut (numb_fs s)
        clear e hinv hg hkn hLf hdo hinv2 h hk0 hA a1 a2 hul hll hfk hE hfo hbad
        subst ew'
        unfold ptr strV at *
        go_enter Try.func81, Try.ntmps81
        go_wp2_with fail
        refine ha.mono ?_
        rintro e w' ⟨rfl, rfl⟩
        go_wp2_with fail
        refine hat.mono ?_
        rintro e w' ⟨rfl, rfl⟩
        go_wp2_with fail
        refine hbe.mono ?_
        rintro e w2 ⟨rfl, K2, av2, h2, hF2, T2⟩
        have T02 := ((Turn.refl no w').of_no).trans T2 (fun _ _ q => q)
        have F02 := (From.refl w' K).trans (Turn.refl no w') hF2
        have HH2 := shut h2
        have HT02 := shut T02
        have HF02 := shut F02
        clear hbe h2 hF2 T2 ha hat T02 F02 c2 d1w
        cases hdb : doB s with
        | false =>
          have e : numb s (putF ⟨nm, f.bs.take N, N⟩ s.fs) = ((numb s s.fs).1, (numb s s.fs).2) := by rw [HDO.out, hdb]; rfl
          have HE := shut e
          have FN := Rns.undone HH.out.kp HH2.out HT02.out HF02.out (Turn.refl no w2) ((numb s s.fs).1, (numb s s.fs).2) rfl
          have HFN := shut FN
          clear FN e
          go_wp2_with fail
          go_ret
          rw [HE.out]
          exact HFN.out
        | true =>
          have e : numb s (putF ⟨nm, f.bs.take N, N⟩ s.fs) = ({ (numb s s.fs).1 with fs := putF ⟨nm, f.bs.take N, N⟩ s.fs }, (numb s s.fs).2) := by rw [HDO.out, hdb]; rfl
          have HE := shut e
          clear e
          obtain ⟨bx, hbx⟩ : ∃ bx, bx = w2.heap.size := ⟨_, rfl⟩
          have RS : Row (w2.alloc (.cells #[.string ⟨nm.toArray⟩, .slice none 0 0, .int .i64 N] 102)) bx #[strV nm, .slice none 0 0, .int .i64 N] 102 := Row.newAt w2 _ 102 _ hbx
          have TS : Turn no w2 (w2.alloc (.cells #[.string ⟨nm.toArray⟩, .slice none 0 0, .int .i64 N] 102)) := (Turn.refl no w2).alloc _
          have hfl2 : Fl K2 w2 (.slice (some ⟨gw, 0, none⟩) s.fs.length fc) s.fs := by have := HH2.out.files; rw [HFS.out] at this; exact this
          obtain ⟨gb, c, xa, xc, ee, d0, d1, d2, hO, hRb⟩ := hfl2.at kn f HFK.out
          have ee' : gb = gw := by simp at ee; exact ee.1.symm
          subst ee'
          have hq2 : q < bx := by have := HH2.out.klt q HH2.out.kp; omega
          have hgb : gb < bx := by have := World.block_lt_of_cell? w2 _ d1; simp at this; omega
          generalize hwS : w2.alloc (.cells #[.string ⟨nm.toArray⟩, .slice none 0 0, .int .i64 N] 102) = wS at *
          have e2 := HH2.out.c2
          have cq : ∀ W, Turn (fun k => k = bx) wS W → W.cell? ⟨q, 2, none⟩ = some (.slice (some ⟨gb, 0, none⟩) s.fs.length fc) ∧ W.cell? ⟨gb, kn * 3 + 1, none⟩ = some (.slice xa f.bs.length xc) := fun W t => ⟨t.keep (TS.keep e2 (fun q => q)) (fun e => by simp at e; omega), t.keep (TS.keep d1 (fun q => q)) (fun e => by simp at e; omega)⟩
          have CQ := shut cq
          have hsS := TS.size
          have HX1 : Shut (wS.drew.cell? ⟨bx, 1, none⟩ = some (.slice none 0 0)) := RS.drew.cell 1 _ rfl
          have RSd : Row wS.drew bx #[strV nm, .slice none 0 0, .int .i64 N] 102 := RS.drew
          have htl : (f.bs.take N).length = N := by rw [List.length_take]; omega
          obtain ⟨ta, tc, te, tcl, hBt⟩ := take_bs ((hO.turn_no TS).turn_no (Turn.refl no wS).drew) N hNl
          have te' : xa = ta ∧ xc = tc := by simp at te; exact ⟨te.1, te.2⟩
          obtain ⟨rfl, rfl⟩ := te'
          have hNx : (N : Int) ≤ (xc : Int) := by omega
          have hNx2 : ¬ (xc : Int) < (N : Int) := by omega
          have hxa : Option.map (fun x : Addr => x.add 0) xa = xa := by
            cases xa with
            | none => rfl
            | some x => simp [Addr.add]
          have hxa2 : (if xc = 0 then xa else Option.map (fun x : Addr => x.add 0) xa) = xa := by rw [hxa]; simp
          obtain ⟨a4, c4, w4, hr4, r4, t4, r5, o5, b5, t5⟩ := box_app (B2 := bx) (xs := []) (b := f.bs.take N) (Nat.le_refl _) (by show bx ≤ wS.heap.size; omega) RSd (Own.nil _ 5) (fun g hg => by cases hg) (.slice xa N xc) hBt (by rw [htl]; simp; omega)
          simp only [List.nil_append] at hr4 r5 o5 b5 t5
          have S4 : Turn (fun k => k = bx) wS w4 := ((Turn.refl _ wS).drew).trans t4 (fun k _ e => by cases e)
          have S5 : Turn (fun k => k = bx) wS (w4.setCell ⟨bx, 1, none⟩ (.slice a4 (f.bs.take N).length c4)) := S4.trans (setTurn _ bx 1 _) (fun _ _ q => q)
          have T25 : Turn no w2 (w4.setCell ⟨bx, 1, none⟩ (.slice a4 (f.bs.take N).length c4)) := TS.trans S5 (fun k hk e => by omega)
          have y1f := r4.frozen 1
          have y1 := r4.cell 1 _ rfl
          have hput := put_end HH.out.kp HH2.out HT02.out HF02.out T25 ⟨nm, f.bs.take N, N⟩ a4 c4 o5 (fun g hg => by have := b5 g hg; omega) (by rw [HFS.out]; exact HI2.out) ({ (numb s s.fs).1 with fs := putF ⟨nm, f.bs.take N, N⟩ s.fs }, (numb s s.fs).2) (by rw [HFS.out])
          have z0 := r5.cell 0 _ rfl
          have z1 := r5.cell 1 _ rfl
          have z2 := r5.cell 2 _ rfl
          simp only [ptr, strV] at hput z0
          rw [htl] at hr4 hput z0 z1 z2 S5
          generalize hw5 : w4.setCell ⟨bx, 1, none⟩ (.slice a4 N c4) = w5 at *
          have z0' : w5.cell? ⟨bx, 0, none⟩ = some (.string ⟨nm.toArray⟩) := z0
          have z1' : w5.cell? ⟨bx, 1, none⟩ = some (.slice a4 N c4) := z1
          have z2' : w5.cell? ⟨bx, 2, none⟩ = some (.int .i64 N) := z2
          have HPUT := shut hput
          have HBX := shut hbx
          have HS4 := shut S4
          have HS5 := shut S5
          have HR4 := shut hr4
          clear hput o5 b5 t5 t4 r4 r5 T25 hfl2 hO hRb d0 ee cq RS RSd TS hsS e2 S4 S5 hq2 hgb d1 d2 hr4 z0 z1 z2 te hBt htl
          go_wp2_with fail
          rw [← HBX.out]
          try rw [hwS]
          clear hbx
          have hr4 := HR4.out
          refine wp_region_noPanic ?_
          refine wp_region_held_drew (S := fun W => Turn (fun k => k = bx) wS W) (by kernel_rfl) (Turn.refl _ wS).drew (fun hHeld => ?_)
          refine' wpAnyH_take (i := 0) (v := .pointer (some ⟨bx, 1, none⟩)) rfl (by kernel_rfl) (by kernel_rfl) (by kernel_rfl) (fun _ _ _ h => h) (Or.inl ⟨by kernel_rfl, fun W hW => ?y1⟩) hHeld ?r1
          · go_simp
          refine' wpAnyH_take (i := 2) (v := .pointer (some ⟨q, 0, none⟩)) rfl (by kernel_rfl) (by kernel_rfl) (by kernel_rfl) (fun _ _ _ h => h) (Or.inl ⟨by kernel_rfl, fun W hW => ?y2⟩) hHeld ?r2
          · go_simp
          refine' wpAnyH_take (i := 3) (v := .pointer (some ⟨q, 0, none⟩)) rfl (by kernel_rfl) (by kernel_rfl) (by kernel_rfl) (fun _ _ _ h => h) (Or.inl ⟨by kernel_rfl, fun W hW => ?y3⟩) hHeld ?r3
          · go_simp
          refine' wpAnyH_take (i := 4) (v := .pointer (some ⟨q, 2, none⟩)) rfl (by kernel_rfl) (by kernel_rfl) (by kernel_rfl) (fun _ _ _ h => h) (Or.inl ⟨by kernel_rfl, fun W hW => ?y4⟩) hHeld ?r4
          · go_simp
          refine' wpAnyH_take (i := 5) (v := .slice (some ⟨gb, 0, none⟩) s.fs.length fc) rfl (by kernel_rfl) (by kernel_rfl) (by kernel_rfl) (fun _ _ _ h => h) (Or.inl ⟨by kernel_rfl, fun W hW => ?y5⟩) hHeld ?r5
          · have cc := (CQ.out W hW).1
            go_simp
          refine' wpAnyH_take (i := 6) (v := .int .i64 kn) rfl (by kernel_rfl) (by kernel_rfl) (by kernel_rfl) (fun _ _ _ h => h) (Or.inl ⟨by kernel_rfl, fun W hW => ?y6⟩) hHeld ?r6
          · go_simp
          refine' wpAnyH_take (i := 7) (v := .pointer (some ⟨gb, kn * 3, none⟩)) rfl (by kernel_rfl) (by kernel_rfl) (by kernel_rfl) (fun _ _ _ h => h) (Or.inl ⟨by kernel_rfl, fun W hW => ?y7⟩) hHeld ?r7
          · go_simp
          refine' wpAnyH_take (i := 8) (v := .pointer (some ⟨gb, kn * 3 + 1, none⟩)) rfl (by kernel_rfl) (by kernel_rfl) (by kernel_rfl) (fun _ _ _ h => h) (Or.inl ⟨by kernel_rfl, fun W hW => ?y8⟩) hHeld ?r8
          · go_simp
          refine' wpAnyH_take (i := 9) (v := .slice xa f.bs.length xc) rfl (by kernel_rfl) (by kernel_rfl) (by kernel_rfl) (fun _ _ _ h => h) (Or.inl ⟨by kernel_rfl, fun W hW => ?y9⟩) hHeld ?r9
          · have cc := (CQ.out W hW).2
            go_simp
          refine' wpAnyH_take (i := 10) (v := .int .i64 N) rfl (by kernel_rfl) (by kernel_rfl) (by kernel_rfl) (fun _ _ _ h => h) (Or.inl ⟨by kernel_rfl, fun W hW => ?y10⟩) hHeld ?r10
          · go_simp
          refine' wpAnyH_take (i := 11) (v := .slice xa N xc) rfl (by kernel_rfl) (by kernel_rfl) (by kernel_rfl) (fun _ _ _ h => h) (Or.inl ⟨by kernel_rfl, fun W hW => ?y11⟩) hHeld ?r11
          · go_simp
          have xx1 : wS.drew.cell? ⟨bx, 1, none⟩ = some (.slice none 0 0) := HX1.out
          refine wpAnyH_ready (rs := [1]) (by kernel_rfl) (by simp) ?_
          refine AllReadyH.cons rfl (fun K hK => ?_) AllReadyH.nil
          go_simp
          refine hK.out _ _ hHeld (fun hHeld => ?_)
          clear hK
          refine wpAnyH_ready (rs := [12]) (by kernel_rfl) (by simp) ?_
          refine AllReadyH.cons rfl (fun K hK => ?_) AllReadyH.nil
          first | rw [if_pos (by rfl)] | skip
          refine wp_append_run _ _ rfl _ _ rfl rfl (hr4 _) ?_
          refine hK.out _ _ HS4.out (fun hHeld => ?_)
          clear hK
          refine' wpAnyH_take (i := 13) (v := .pointer (some ⟨bx, 1, none⟩)) rfl (by kernel_rfl) (by kernel_rfl) (by kernel_rfl) (fun _ _ _ h => h) (Or.inl ⟨by kernel_rfl, fun W hW => ?y12⟩) hHeld ?r12
          · go_simp
          refine wpAnyH_ready (rs := [14]) (by kernel_rfl) (by simp) ?_
          refine AllReadyH.cons rfl (fun K hK => ?_) AllReadyH.nil
          go_simp
          refine hK.out _ _ HS5.out (fun hHeld => ?_)
          clear hK
          refine wpAnyH_done (by kernel_rfl) ?_ _
          refine NoPanic.normal ?_
          go_wp2_with fail
          refine HPUT.out.mono ?_
          rintro e w8 ⟨rfl, hRR⟩
          go_wp2_with fail
          go_ret
          rw [HE.out]
          exact hRR
  · have hE : foundE s nm = asked s nm := by simp [foundE, hA]
    have e : cutS s nm n = (s, asked s nm) := by simp [cutS, hE, hA]
    rw [e]
    have ha' : (asked s nm != 0) = true := by simpa using hA
    have fin : Rns w q K (s, asked s nm) (.returned (.int .i64 (asked s nm))) w := Rns.same (r := (s, asked s nm)) hk0 (Turn.refl no w)
    have FIN := shut fin
    generalize asked s nm = E at *
    clear hk0 h e hA fin hE
    unfold ptr strV at *
    go_enter Try.func81, Try.ntmps81
    go_wp2_with fail
    refine ha.mono ?_
    rintro e w' ⟨rfl, rfl⟩
    go_wp2_with fail
    go_ret
    exact FIN.out
end
end Go.Proofs.Ytcdogciacchigab
