/- Of the document's disk: Replace. -/
import Derived.Test.YtcdogciacchigabR5
import Derived.Test.YtcdogciacchigabM10
namespace Go.Proofs.Ytcdogciacchigab
open Go.RowKit Go.Maps
set_option linter.unusedVariables false

section
variable {w : World} {q : Nat} {K : Nat → Prop} {fv av : Value} {s : St}
theorem repl_inv {s : St} (h : Inv s) (nm : Nm) (b : List UInt8) (ha : isNm nm = true) (hfb : fitsB s nm ((b.length : Int) - (lenF nm s.fs : Int)) = true) : Inv { s with fs := putF ⟨nm, b, b.length⟩ s.fs } := by
  simp only [fitsB, Bool.and_eq_true, Bool.or_eq_true, decide_eq_true_eq] at hfb
  refine h.put _ ha ?_ ?_ hfb.2
  · simp
  · have := h.used
    simp
    omega

set_option maxRecDepth 100000 in
set_option maxHeartbeats 16000000 in
theorem rreplace24 (hk : Rk w q K s) (hn : s.n < 4611686018427387904) (hm : s.m < 3518437208780) (nm : Nm) (hnm : nm.length ≤ maxLen) (v : Value) (b : List UInt8) (hb : Bs w v b) (hvK : b ≠ [] → ∀ g, v.ownBlock = some g → ¬ K g) :
    Calls Try.prog 24 #[ptr q, strV nm, v] w (Rns w q K (replS s nm b)) := by
  obtain ⟨va, vc, hvs⟩ := hb.slice
  have ha := asked49 hk nm hnm
  have hk0 := hk
  obtain ⟨fv, av, h⟩ := hk
  have hbl := hb.le
  have hbl' : (b.length : Int) ≤ 9223372036854775807 := by simp only [maxLen] at hbl; omega
  by_cases hA : asked s nm = 0
  · obtain ⟨a1, a2⟩ := asked_off hA
    rw [hA] at ha
    have hat := at50 h nm
    have hul := h.inv.used
    have hll := h.inv.lim
    have hcount := h.inv.count
    obtain ⟨fa, fc, hfv, _, _⟩ := h.files.slice
    subst hfv
    have hu : ∀ n, Calls Try.prog 51 #[ptr q] (w.drewN n) fun e w' => e = .returned (.int .i64 (usedF s.fs)) ∧ w' = w.drewN n := fun n => used51 (h.turn ((Turn.refl no w).drewN n) (fun _ _ q => q))
    have HU := shut hu
    clear hu
    obtain ⟨R, hR⟩ : ∃ R : Nat, R = s.lim - usedF s.fs := ⟨_, rfl⟩
    have hRi : (s.lim : Int) - (usedF s.fs : Int) = (R : Int) := by omega
    have hRw : IntKind.i64.wrap ((s.lim : Int) - (usedF s.fs : Int)) = (R : Int) := by rw [wrap_i64 (by omega) (by omega)]; exact hRi
    have hR30 : R ≤ 1073741824 := by omega
    have hRw2 : IntKind.i64.wrap (R : Int) = (R : Int) := wrap_i64 (by omega) (by omega)
    have c1 := h.c1
    have fin62 : ∀ n, fitsB s nm ((b.length : Int) - (lenF nm s.fs : Int)) = false → Rns w q K (replS s nm b) (.returned (.int .i64 62)) (w.drewN n) := fun n hf => by
      have e : replS s nm b = (s, 62) := by simp [replS, hA, hf]
      rw [e]
      exact Rns.same (r := (s, 62)) hk0 ((Turn.refl no w).drewN n)
    have F62 := shut fin62
    clear fin62
    cases hg : getF nm s.fs with
    | none =>
      have hk1 : atI nm s.fs = -1 := atI_none.2 hg
      rw [hk1] at hat
      have hL0 : lenF nm s.fs = 0 := by simp [lenF, hg]
      by_cases hfit : b.length ≤ R
      · have hd2 : ¬ (R : Int) < (b.length : Int) := by omega
        have hdd : decide ((R : Int) < (b.length : Int)) = false := decide_eq_false hd2
        by_cases hc : s.fs.length < 65536
        · have hc3 : ¬ (65536 : Int) ≤ (s.fs.length : Int) := by omega
          have hcd : decide ((65536 : Int) ≤ (s.fs.length : Int)) = false := decide_eq_false hc3
          have hfb : fitsB s nm ((b.length : Int) - (lenF nm s.fs : Int)) = true := by simp only [fitsB, hg, hL0]; simp; omega
          have e : replS s nm b = numb s (putF ⟨nm, b, b.length⟩ s.fs) := by simp [replS, hA, hfb]
          have hinv := repl_inv h.inv nm b a2 hfb
          have hinv2 := numb_inv2 h.inv hinv
          rw [e]
          clear e hfb hinv hg hk1 hL0 hc hc3
          have HB := shut hb
          have HVK := shut hvK
          have HH := shut h
          have hbq : ∀ W W', Turn no w W → Turn (fun k => k = q) W W' → Bs W' v b := fun W W' t t' => (HB.out.turn_no t).late t' (fun hne g hg e => HVK.out hne g hg (by rw [e]; exact HH.out.kp))
          have HBQ := shut hbq
          have HI2 := shut hinv2
          subst hvs
          have hdo := numb_do s (putF ⟨nm, b, b.length⟩ s.fs)
          have HDO := shut hdo
          have hbef := fun W (t : Turn no w W) => befall52 (HH.out.turn t (fun _ _ q => q)) hn hm
          have HBEF := shut hbef
          have HFS := shut (numb_fs s)
          have HC2 := shut (fun W (t : Turn no w W) => (HH.out.turn t (fun _ _ q => q)).c2)
          clear hbef hdo hinv2 hbq hb hvK h hk0 hA a1 a2 hR hul hll F62 
          unfold ptr strV at *
          go_enter Try.func24, Try.ntmps24
          go_wp2_with fail
          refine ha.mono ?_
          rintro e w' ⟨rfl, rfl⟩
          go_wp2_with fail
          refine hat.mono ?_
          rintro e w' ⟨rfl, rfl⟩
          go_wp2_with fail
          go_quiet ((first | (go_at_call 51; exact Calls.quiet_of_same (HU.out _))))
          have TD := shut ((Turn.refl no w').drewN nq)
          have TDn := shut ((Turn.refl no w').drewN nq)
          have hbe := HBEF.out _ TD.out
          have c2d := HC2.out _ TD.out
          generalize w'.drewN nq = wd at *
          go_wp2_with fail
          refine hbe.mono ?_
          rintro e w2 ⟨rfl, K2, av2, h2, hF2, T2⟩
          have T02 := (TD.out.of_no).trans T2 (fun _ _ q => q)
          have F02 := (From.refl w' K).trans TD.out hF2
          have HB2 := shut (HBQ.out _ _ TD.out T2)
          have HH2 := shut h2
          have HT02 := shut T02
          have HF02 := shut F02
          clear hbe h2 hF2 T2 ha hat T02 F02
          cases hdb : doB s with
          | false =>
            have e : numb s (putF ⟨nm, b, b.length⟩ s.fs) = ((numb s s.fs).1, (numb s s.fs).2) := by rw [HDO.out, hdb]; rfl
            have HE := shut e
            have FN := Rns.undone HH.out.kp HH2.out HT02.out HF02.out (Turn.refl no w2) ((numb s s.fs).1, (numb s s.fs).2) rfl
            have HFN := shut FN
            clear FN e
            go_wp2_with fail
            go_ret
            rw [HE.out]
            exact HFN.out
          | true =>
            have e : numb s (putF ⟨nm, b, b.length⟩ s.fs) = ({ (numb s s.fs).1 with fs := putF ⟨nm, b, b.length⟩ s.fs }, (numb s s.fs).2) := by rw [HDO.out, hdb]; rfl
            have HE := shut e
            clear e
            have TA : Turn no w2 (w2.alloc (.cells #[.string ⟨nm.toArray⟩, .slice none 0 0, .int .i64 b.length] 102)) := (Turn.refl no w2).alloc _
            have RX : Row (w2.alloc (.cells #[.string ⟨nm.toArray⟩, .slice none 0 0, .int .i64 b.length] 102)) w2.heap.size #[strV nm, .slice none 0 0, .int .i64 b.length] 102 := Row.new w2 _ 102
            obtain ⟨a4, c4, w4, hr4, r4, t4, r5, o5, b5, t5⟩ := box_app (B2 := w2.heap.size) (xs := []) (b := b) (Nat.le_refl _) TA.size RX (Own.nil _ 5) (fun g hg => by cases hg) (.slice va b.length vc) (HB2.out.turn_no TA) (by simp; omega)
            simp only [List.nil_append] at hr4 r5 o5 b5 t5
            have T25 : Turn no w2 (w4.setCell ⟨w2.heap.size, 1, none⟩ (.slice a4 b.length c4)) := TA.trans t5 (fun k hk q => by omega)
            have hput := put_end HH.out.kp HH2.out HT02.out HF02.out T25 ⟨nm, b, b.length⟩ a4 c4 o5 b5 (by rw [HFS.out]; exact HI2.out) ({ (numb s s.fs).1 with fs := putF ⟨nm, b, b.length⟩ s.fs }, (numb s s.fs).2) (by rw [HFS.out])
            have x0 := RX.cell 1 _ rfl
            have y1 := r4.cell 1 _ rfl
            have y1f := r4.frozen 1
            have z0 := r5.cell 0 _ rfl
            have z1 := r5.cell 1 _ rfl
            have z2 := r5.cell 2 _ rfl
            simp only [ptr, strV] at hput z0
            have HPUT := shut hput
            clear hput o5 b5 t5 t4 r4 r5 RX T25 TA
            generalize hw5 : w4.setCell ⟨w2.heap.size, 1, none⟩ (.slice a4 b.length c4) = w5 at *
            go_wp2_with (at_builtin; refine wpList_append_run rfl _ _ (t := 28) (tx := 28) rfl _ _ rfl rfl (hr4 _) ?_)
            refine HPUT.out.mono ?_
            rintro e w6 ⟨rfl, hRR⟩
            go_wp2_with fail
            go_ret
            rw [HE.out]
            exact hRR
        · have hc3 : (65536 : Int) ≤ (s.fs.length : Int) := by omega
          have hcd : decide ((65536 : Int) ≤ (s.fs.length : Int)) = true := decide_eq_true hc3
          have HF62 : Shut (fitsB s nm ((b.length : Int) - (lenF nm s.fs : Int)) = false) := by show fitsB s nm _ = false; simp [fitsB, hg]; omega
          have HH := shut h
          have HC2 := shut (fun W (t : Turn no w W) => (HH.out.turn t (fun _ _ q => q)).c2)
          clear h hk0 hA a1 a2 hR hul hll hb hvK hg hk1 hL0
          subst hvs
          unfold ptr strV at *
          go_enter Try.func24, Try.ntmps24
          go_wp2_with fail
          refine ha.mono ?_
          rintro e w' ⟨rfl, rfl⟩
          go_wp2_with fail
          refine hat.mono ?_
          rintro e w' ⟨rfl, rfl⟩
          go_wp2_with fail
          go_quiet ((first | (go_at_call 51; exact Calls.quiet_of_same (HU.out _))))
          have TD := shut ((Turn.refl no w').drewN nq)
          have TDn := shut ((Turn.refl no w').drewN nq)
          have FIN := shut (F62.out nq HF62.out)
          have c2d := HC2.out _ TD.out
          generalize w'.drewN nq = wd at *
          go_wp2_with fail
          go_ret
          exact FIN.out
      · have hd2 : (R : Int) < (b.length : Int) := by omega
        have hdd : decide ((R : Int) < (b.length : Int)) = true := decide_eq_true hd2
        have HF62 : Shut (fitsB s nm ((b.length : Int) - (lenF nm s.fs : Int)) = false) := by show fitsB s nm _ = false; simp only [fitsB, Bool.and_eq_false_iff, decide_eq_false_iff_not, hL0]; left; omega
        have HH := shut h
        have HC2 := shut (fun W (t : Turn no w W) => (HH.out.turn t (fun _ _ q => q)).c2)
        clear h hk0 hA a1 a2 hR hul hll hb hvK hg hk1 hL0
        subst hvs
        unfold ptr strV at *
        go_enter Try.func24, Try.ntmps24
        go_wp2_with fail
        refine ha.mono ?_
        rintro e w' ⟨rfl, rfl⟩
        go_wp2_with fail
        refine hat.mono ?_
        rintro e w' ⟨rfl, rfl⟩
        go_wp2_with fail
        go_quiet ((first | (go_at_call 51; exact Calls.quiet_of_same (HU.out _))))
        have TD := shut ((Turn.refl no w').drewN nq)
        have TDn := shut ((Turn.refl no w').drewN nq)
        have FIN := shut (F62.out nq HF62.out)
        have c2d := HC2.out _ TD.out
        generalize w'.drewN nq = wd at *
        go_wp2_with fail
        go_ret
        exact FIN.out
    | some f =>
      obtain ⟨kn, hkn, hfk, _⟩ := atI_some hg
      rw [hkn] at hat
      have hfn := (getF_mem hg).2
      have hkl := (List.getElem?_eq_some_iff.1 hfk).1
      have hkl' : (kn : Int) < (s.fs.length : Int) := by omega
      have hk0' : ¬ (kn : Int) < 0 := by omega
      have hk0b : decide ((kn : Int) < 0) = false := decide_eq_false hk0'
      have hk0c : (0 : Int) ≤ (kn : Int) := by omega
      have hLf : lenF nm s.fs = f.bs.length := by simp [lenF, hg]
      have hfbl : f.bs.length ≤ 1073741824 := by
        have h1 := lenF_le nm s.fs
        omega
      obtain ⟨gb, c, xa, xc, ee, d0, d1, d2, hO, hRb⟩ := h.files.at kn f hfk
      have ee' : fa = some ⟨gb, 0, none⟩ := by simp at ee; exact ee.1
      subst ee'
      obtain ⟨R9, hR9⟩ : ∃ R9 : Nat, R9 = R + f.bs.length := ⟨_, rfl⟩
      have hR9i : (R : Int) + (f.bs.length : Int) = (R9 : Int) := by omega
      have hR9w : IntKind.i64.wrap ((R : Int) + (f.bs.length : Int)) = (R9 : Int) := by rw [wrap_i64 (by omega) (by omega)]; exact hR9i
      have hR9w2 : IntKind.i64.wrap (R9 : Int) = (R9 : Int) := wrap_i64 (by omega) (by omega)
      have HD1 := shut (fun W (t : Turn no w W) => t.keep d1 (fun q => q))
      clear ee hO hRb d0 d2 d1
      by_cases hfit : b.length ≤ R9
      · have hd2 : ¬ (R9 : Int) < (b.length : Int) := by omega
        have hdd : decide ((R9 : Int) < (b.length : Int)) = false := decide_eq_false hd2
        have hfb : fitsB s nm ((b.length : Int) - (lenF nm s.fs : Int)) = true := by simp only [fitsB, hg, hLf]; simp; omega
        have e : replS s nm b = numb s (putF ⟨nm, b, b.length⟩ s.fs) := by simp [replS, hA, hfb]
        have hinv := repl_inv h.inv nm b a2 hfb
        have hinv2 := numb_inv2 h.inv hinv
        have hb31 : b.length ≤ 2147483648 := by omega
        rw [e]
        clear e hfb hinv hg hkn hLf hfk hR9
        have HB := shut hb
        have HVK := shut hvK
        have HH := shut h
        have hbq : ∀ W W', Turn no w W → Turn (fun k => k = q) W W' → Bs W' v b := fun W W' t t' => (HB.out.turn_no t).late t' (fun hne g hg e => HVK.out hne g hg (by rw [e]; exact HH.out.kp))
        have HBQ := shut hbq
        have HI2 := shut hinv2
        subst hvs
        have hdo := numb_do s (putF ⟨nm, b, b.length⟩ s.fs)
        have HDO := shut hdo
        have hbef := fun W (t : Turn no w W) => befall52 (HH.out.turn t (fun _ _ q => q)) hn hm
        have HBEF := shut hbef
        have HFS := shut (numb_fs s)
        have HC2 := shut (fun W (t : Turn no w W) => (HH.out.turn t (fun _ _ q => q)).c2)
        clear hbef hdo hinv2 hbq hb hvK h hk0 hA a1 a2 hR hul hll F62 
        unfold ptr strV at *
        go_enter Try.func24, Try.ntmps24
        go_wp2_with fail
        refine ha.mono ?_
        rintro e w' ⟨rfl, rfl⟩
        go_wp2_with fail
        refine hat.mono ?_
        rintro e w' ⟨rfl, rfl⟩
        go_wp2_with fail
        go_quiet ((first | (go_at_call 51; exact Calls.quiet_of_same (HU.out _))))
        have TD := shut ((Turn.refl no w').drewN nq)
        have TDn := shut ((Turn.refl no w').drewN nq)
        have hbe := HBEF.out _ TD.out
        have c2d := HC2.out _ TD.out
        have d1d := HD1.out _ TD.out
        generalize w'.drewN nq = wd at *
        go_wp2_with fail
        refine hbe.mono ?_
        rintro e w2 ⟨rfl, K2, av2, h2, hF2, T2⟩
        have T02 := (TD.out.of_no).trans T2 (fun _ _ q => q)
        have F02 := (From.refl w' K).trans TD.out hF2
        have HB2 := shut (HBQ.out _ _ TD.out T2)
        have HH2 := shut h2
        have HT02 := shut T02
        have HF02 := shut F02
        clear hbe h2 hF2 T2 ha hat T02 F02
        cases hdb : doB s with
        | false =>
          have e : numb s (putF ⟨nm, b, b.length⟩ s.fs) = ((numb s s.fs).1, (numb s s.fs).2) := by rw [HDO.out, hdb]; rfl
          have HE := shut e
          have FN := Rns.undone HH.out.kp HH2.out HT02.out HF02.out (Turn.refl no w2) ((numb s s.fs).1, (numb s s.fs).2) rfl
          have HFN := shut FN
          clear FN e
          go_wp2_with fail
          go_ret
          rw [HE.out]
          exact HFN.out
        | true =>
          have e : numb s (putF ⟨nm, b, b.length⟩ s.fs) = ({ (numb s s.fs).1 with fs := putF ⟨nm, b, b.length⟩ s.fs }, (numb s s.fs).2) := by rw [HDO.out, hdb]; rfl
          have HE := shut e
          clear e
          have TA : Turn no w2 (w2.alloc (.cells #[.string ⟨nm.toArray⟩, .slice none 0 0, .int .i64 b.length] 102)) := (Turn.refl no w2).alloc _
          have RX : Row (w2.alloc (.cells #[.string ⟨nm.toArray⟩, .slice none 0 0, .int .i64 b.length] 102)) w2.heap.size #[strV nm, .slice none 0 0, .int .i64 b.length] 102 := Row.new w2 _ 102
          obtain ⟨a4, c4, w4, hr4, r4, t4, r5, o5, b5, t5⟩ := box_app (B2 := w2.heap.size) (xs := []) (b := b) (Nat.le_refl _) TA.size RX (Own.nil _ 5) (fun g hg => by cases hg) (.slice va b.length vc) (HB2.out.turn_no TA) (by simp; omega)
          simp only [List.nil_append] at hr4 r5 o5 b5 t5
          have T25 : Turn no w2 (w4.setCell ⟨w2.heap.size, 1, none⟩ (.slice a4 b.length c4)) := TA.trans t5 (fun k hk q => by omega)
          have hput := put_end HH.out.kp HH2.out HT02.out HF02.out T25 ⟨nm, b, b.length⟩ a4 c4 o5 b5 (by rw [HFS.out]; exact HI2.out) ({ (numb s s.fs).1 with fs := putF ⟨nm, b, b.length⟩ s.fs }, (numb s s.fs).2) (by rw [HFS.out])
          have x0 := RX.cell 1 _ rfl
          have y1 := r4.cell 1 _ rfl
          have y1f := r4.frozen 1
          have z0 := r5.cell 0 _ rfl
          have z1 := r5.cell 1 _ rfl
          have z2 := r5.cell 2 _ rfl
          simp only [ptr, strV] at hput z0
          have HPUT := shut hput
          clear hput o5 b5 t5 t4 r4 r5 RX T25 TA
          generalize hw5 : w4.setCell ⟨w2.heap.size, 1, none⟩ (.slice a4 b.length c4) = w5 at *
          go_wp2_with (at_builtin; refine wpList_append_run rfl _ _ (t := 28) (tx := 28) rfl _ _ rfl rfl (hr4 _) ?_)
          refine HPUT.out.mono ?_
          rintro e w6 ⟨rfl, hRR⟩
          go_wp2_with fail
          go_ret
          rw [HE.out]
          exact hRR
      · have hd2 : (R9 : Int) < (b.length : Int) := by omega
        have hdd : decide ((R9 : Int) < (b.length : Int)) = true := decide_eq_true hd2
        have HF62 : Shut (fitsB s nm ((b.length : Int) - (lenF nm s.fs : Int)) = false) := by show fitsB s nm _ = false; simp only [fitsB, Bool.and_eq_false_iff, decide_eq_false_iff_not, hLf]; left; omega
        have HH := shut h
        have HC2 := shut (fun W (t : Turn no w W) => (HH.out.turn t (fun _ _ q => q)).c2)
        clear h hk0 hA a1 a2 hR hul hll hb hvK hg hkn hLf hfk hR9
        subst hvs
        unfold ptr strV at *
        go_enter Try.func24, Try.ntmps24
        go_wp2_with fail
        refine ha.mono ?_
        rintro e w' ⟨rfl, rfl⟩
        go_wp2_with fail
        refine hat.mono ?_
        rintro e w' ⟨rfl, rfl⟩
        go_wp2_with fail
        go_quiet ((first | (go_at_call 51; exact Calls.quiet_of_same (HU.out _))))
        have TD := shut ((Turn.refl no w').drewN nq)
        have TDn := shut ((Turn.refl no w').drewN nq)
        have FIN := shut (F62.out nq HF62.out)
        have c2d := HC2.out _ TD.out
        have d1d := HD1.out _ TD.out
        generalize w'.drewN nq = wd at *
        go_wp2_with fail
        go_ret
        exact FIN.out
  · have e : replS s nm b = (s, asked s nm) := by simp [replS, hA]
    rw [e]
    have ha' : (asked s nm != 0) = true := by simpa using hA
    have fin : Rns w q K (s, asked s nm) (.returned (.int .i64 (asked s nm))) w := Rns.same (r := (s, asked s nm)) hk0 (Turn.refl no w)
    have FIN := shut fin
    generalize asked s nm = E at *
    clear hk0 h e hA hb fin
    subst hvs
    unfold ptr strV at *
    go_enter Try.func24, Try.ntmps24
    go_wp2_with fail
    refine ha.mono ?_
    rintro e w' ⟨rfl, rfl⟩
    go_wp2_with fail
    go_ret
    exact FIN.out
end
end Go.Proofs.Ytcdogciacchigab
