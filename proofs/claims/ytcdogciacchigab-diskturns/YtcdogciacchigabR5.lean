/- Of the document's disk: Append. -/
import Derived.Test.YtcdogciacchigabR4
import Derived.Test.YtcdogciacchigabM9
namespace Go.Proofs.Ytcdogciacchigab
open Go.RowKit Go.Maps
set_option linter.unusedVariables false

/-- More bytes, into a file's box. -/
theorem box_app {W : World} {bx B2 : Nat} {nm : Nm} {sy : Int} {v1 : Value} {xs b : List UInt8} (hB : B2 ≤ bx) (hBW : B2 ≤ W.heap.size) (hr : Row W bx #[strV nm, v1, .int .i64 sy] 102) (ho : Own W 5 v1 (xs.map bv)) (hob : ∀ g, v1.ownBlock = some g → B2 ≤ g) (x : Value) (hx : Bs W x b) (hl : xs.length + b.length ≤ 2147483648) :
    ∃ a c w4, (∀ ty, (Builtin.append_ #[28, 28] ty #[v1, x]).run Try.prog W = .ok (.slice a (xs ++ b).length c) w4) ∧ Row w4 bx #[strV nm, v1, .int .i64 sy] 102 ∧ Turn (fun k => v1.ownBlock = some k) W w4 ∧
      Row (w4.setCell ⟨bx, 1, none⟩ (.slice a (xs ++ b).length c)) bx #[strV nm, .slice a (xs ++ b).length c, .int .i64 sy] 102 ∧ Own (w4.setCell ⟨bx, 1, none⟩ (.slice a (xs ++ b).length c)) 5 (.slice a (xs ++ b).length c) ((xs ++ b).map bv) ∧ (∀ g, (Value.slice a (xs ++ b).length c).ownBlock = some g → B2 ≤ g) ∧ Turn (fun k => B2 ≤ k) W (w4.setCell ⟨bx, 1, none⟩ (.slice a (xs ++ b).length c)) := by
  obtain ⟨v4, w4, hr4, hO4, hG4, _⟩ := run_append_src (P := Try.prog) (t := 28) (tx := 28) (e := 5) Try.underlying28 info5 rfl 28 W v1 (xs.map bv) ho x b.length (b.map bv) (hx.src Try.underlying28) (by simp; omega) (by simp only [maxLen]; simp; omega)
  rw [← List.map_append] at hO4
  obtain ⟨a, c, rfl⟩ := hO4.bs.slice
  have hne : ∀ {u ys W'}, Own W' 5 u ys → ∀ {cs}, Row W' bx cs 102 → ∀ g, u.ownBlock = some g → g ≠ bx := fun hu cs hr g hg e => by
    subst e
    obtain ⟨c, ec⟩ := hu.obj hg
    exact absurd (tag_ne hr ec) (by decide)
  have r4 : Row w4 bx #[strV nm, v1, .int .i64 sy] 102 := hr.turn hG4.turn (fun q => hne ho hr bx q rfl)
  have T5 := setTurn w4 bx 1 (.slice a (xs ++ b).length c)
  refine ⟨a, c, w4, fun ty => hr4, r4, hG4.turn, r4.set 1 _, hO4.turn T5 (fun g hg e => hne hO4 r4 g hg e), fun g hg => ?_, (hG4.turn.mono (fun k _ q => hob k q)).trans T5 (fun k _ e => by rw [e]; exact hB)⟩
  rcases hG4.blk with e | ⟨g', e, e1, _⟩
  · exact hob g (by rw [← e]; exact hg)
  · rw [e] at hg; cases hg; omega

section
variable {w : World} {q : Nat} {K : Nat → Prop} {fv av : Value} {s : St}
theorem Rns.same {r : St × Int} (h : Rk w q K r.1) {w' : World} (t : Turn no w w') : Rns w q K r (.returned (.int .i64 r.2)) w' := ⟨rfl, K, h.turn_no t, From.refl w K, t.of_no⟩
/-- What is put at a call's end. -/
theorem put_end {w2 W : World} {K2 : Nat → Prop} {fv2 av2 : Value} {s1 : St} (hq : K q) (h2 : Rp w2 q K2 fv2 av2 s1) (T02 : Turn (fun k => k = q) w w2) (F02 : From w K K2) (T2 : Turn no w2 W) (f : Pf) (ua : Option Addr) (uc : Nat) (hu : Own W 5 (.slice ua f.bs.length uc) (f.bs.map bv)) (hub : ∀ g, (Value.slice ua f.bs.length uc).ownBlock = some g → w2.heap.size ≤ g) (hinv : Inv { s1 with fs := putF f s1.fs }) (r : St × Int) (hr : r.1 = { s1 with fs := putF f s1.fs }) :
    Calls Try.prog 53 #[ptr q, .agg #[strV f.nm, .slice ua f.bs.length uc, .int .i64 f.sy]] W fun e w' => e = .returned (.tuple #[]) ∧ Rns w q K r (.returned (.int .i64 r.2)) w' := by
  have hs2 := T02.size
  have hsW := T2.size
  have h3 : Rp W q (fun k => K2 k ∨ (w2.heap.size ≤ k ∧ k < W.heap.size)) fv2 av2 s1 := (h2.turn T2 (fun _ _ q => q)).mono (fun _ q => Or.inl q) (fun k hk => by
    rcases hk with q | q
    · have := h2.klt k q; omega
    · exact q.2)
  refine (put53 h3 f ua uc hu (fun g hg => Or.inr ⟨hub g hg, hu.lt hg⟩) hinv).mono ?_
  rintro e w' ⟨rfl, K', fv', h4, hF, T⟩
  refine ⟨rfl, rfl, K', by rw [hr]; exact ⟨_, _, h4⟩, fun k hk => ?_, ((T02.then_no T2).trans T (fun _ _ q => q)).mono (fun k _ e => by rw [e]; exact hq)⟩
  rcases hF k hk with (a | a) | a
  · exact F02 k a
  · exact Or.inr (by omega)
  · exact Or.inr (by omega)
/-- What a call leaves that is not done. -/
theorem Rns.undone {w2 W : World} {K2 : Nat → Prop} {fv2 av2 : Value} {s1 : St} (hq : K q) (h2 : Rp w2 q K2 fv2 av2 s1) (T02 : Turn (fun k => k = q) w w2) (F02 : From w K K2) (T2 : Turn no w2 W) (r : St × Int) (hr : r.1 = s1) : Rns w q K r (.returned (.int .i64 r.2)) W :=
  ⟨rfl, K2, by rw [hr]; exact ⟨_, _, h2.turn T2 (fun _ _ q => q)⟩, F02, (T02.then_no T2).mono (fun k _ e => by rw [e]; exact hq)⟩
theorem app_inv {s : St} (h : Inv s) (nm : Nm) (b : List UInt8) (ha : isNm nm = true) (hfb : fitsB s nm b.length = true) : Inv { s with fs := appL s.fs nm b } := by
  simp only [fitsB, Bool.and_eq_true, Bool.or_eq_true, decide_eq_true_eq] at hfb
  refine h.put _ ha ?_ ?_ hfb.2
  · have : (fileOf s.fs nm).sy ≤ (fileOf s.fs nm).bs.length := by
      unfold fileOf
      cases hg : getF nm s.fs with
      | none => exact Nat.le_refl _
      | some f => exact h.sy f (getF_mem hg).1
    simp
    omega
  · have := fileOf_len s.fs nm
    have := h.used
    simp
    omega
/-- Behind a numbered call. -/
theorem numb_inv2 {s : St} (h : Inv s) {l : List Pf} (hl : Inv { s with fs := l }) : Inv { (numb s s.fs).1 with fs := l } := by
  have h1 := numb_inv h
  have h2 : (numb s s.fs).1.lim = s.lim := by
    unfold numb
    cases armAt ((s.n : Int) + 1) s.arms with
    | none => rfl
    | some t => simp only; split <;> rfl
  exact ⟨hl.sorted, hl.names, hl.sy, by rw [h2]; exact hl.used, h1.lim, hl.count, h1.arms, h1.out⟩

set_option maxRecDepth 100000 in
set_option maxHeartbeats 16000000 in
theorem rappend22 (hk : Rk w q K s) (hn : s.n < 4611686018427387904) (hm : s.m < 3518437208780) (nm : Nm) (hnm : nm.length ≤ maxLen) (v : Value) (b : List UInt8) (hb : Bs w v b) (hvK : b ≠ [] → ∀ g, v.ownBlock = some g → ¬ K g) :
    Calls Try.prog 22 #[ptr q, strV nm, v] w (Rns w q K (appS s nm b)) := by
  obtain ⟨va, vc, hvs⟩ := hb.slice
  have ha := asked49 hk nm hnm
  have hk0 := hk
  obtain ⟨fv, av, h⟩ := hk
  have hbl := hb.le
  have hbl' : (b.length : Int) ≤ 9223372036854775807 := by simp only [maxLen] at hbl; omega
  by_cases hA : asked s nm = 0
  · obtain ⟨a1, a2⟩ := asked_off hA
    rw [hA] at ha
    have hat := at50 h nm
    have hul := h.inv.used
    have hll := h.inv.lim
    have hcount := h.inv.count
    obtain ⟨fa, fc, hfv, _, _⟩ := h.files.slice
    subst hfv
    have hu : ∀ n, Calls Try.prog 51 #[ptr q] (w.drewN n) fun e w' => e = .returned (.int .i64 (usedF s.fs)) ∧ w' = w.drewN n := fun n => used51 (h.turn ((Turn.refl no w).drewN n) (fun _ _ q => q))
    have HU := shut hu
    clear hu
    obtain ⟨R, hR⟩ : ∃ R : Nat, R = s.lim - usedF s.fs := ⟨_, rfl⟩
    have hRi : (s.lim : Int) - (usedF s.fs : Int) = (R : Int) := by omega
    have hRw : IntKind.i64.wrap ((s.lim : Int) - (usedF s.fs : Int)) = (R : Int) := by rw [wrap_i64 (by omega) (by omega)]; exact hRi
    have hR30 : R ≤ 1073741824 := by omega
    have hRw2 : IntKind.i64.wrap (R : Int) = (R : Int) := wrap_i64 (by omega) (by omega)
    have c1 := h.c1
    have c2 := h.c2
    have hkp := h.kp
    have fin62 : ∀ n, fitsB s nm b.length = false → Rns w q K (appS s nm b) (.returned (.int .i64 62)) (w.drewN n) := fun n hf => by
      have e : appS s nm b = (s, 62) := by simp [appS, hA, hf]
      rw [e]
      exact Rns.same (r := (s, 62)) hk0 ((Turn.refl no w).drewN n)
    have F62 := shut fin62
    clear fin62
    by_cases hfit : b.length ≤ R
    · have hd : decide ((R : Int) < (b.length : Int)) = false := by simp; omega
      have hd2 : ¬ (R : Int) < (b.length : Int) := by omega
      cases hg : getF nm s.fs with
      | none =>
        have hk1 : atI nm s.fs = -1 := atI_none.2 hg
        rw [hk1] at hat
        by_cases hc : s.fs.length < 65536
        · have hc2 : decide ((65536 : Int) ≤ (s.fs.length : Int)) = false := by simp; omega
          have hc3 : ¬ (65536 : Int) ≤ (s.fs.length : Int) := by omega
          have hfb : fitsB s nm b.length = true := by simp only [fitsB, hg]; simp; omega
          have e : appS s nm b = numb s (appL s.fs nm b) := by simp [appS, hA, hfb]
          have hinv := app_inv h.inv nm b a2 hfb
          have happ : appL s.fs nm b = putF ⟨nm, b, 0⟩ s.fs := by simp [appL, fileOf, hg]
          rw [happ] at e hinv
          have hinv2 := numb_inv2 h.inv hinv
          rw [e]
          clear e happ hfb hinv hg hk1
          have HB := shut hb
          have HVK := shut hvK
          have HH := shut h
          have hbq : ∀ W W', Turn no w W → Turn (fun k => k = q) W W' → Bs W' v b := fun W W' t t' => (HB.out.turn_no t).late t' (fun hne g hg e => HVK.out hne g hg (by rw [e]; exact HH.out.kp))
          have HBQ := shut hbq
          have HI2 := shut hinv2
          subst hvs
          have hdo := numb_do s (putF ⟨nm, b, 0⟩ s.fs)
          have HDO := shut hdo
          have hbef := fun W (t : Turn no w W) => befall52 (HH.out.turn t (fun _ _ q => q)) hn hm
          have HBEF := shut hbef
          have HFS := shut (numb_fs s)
          clear hbef hdo hinv2 hbq hb hvK h hk0 hA a1 a2 hR hul hll F62
          unfold ptr strV at *
          go_enter Try.func22, Try.ntmps22
          go_wp2_with fail
          refine ha.mono ?_
          rintro e w' ⟨rfl, rfl⟩
          go_wp2_with fail
          refine hat.mono ?_
          rintro e w' ⟨rfl, rfl⟩
          go_wp2_with fail
          go_quiet ((first | (go_at_call 51; exact Calls.quiet_of_same (HU.out _))))
          have TD := shut ((Turn.refl no w').drewN nq)
          have hbe := HBEF.out _ TD.out
          generalize w'.drewN nq = wd at *
          clear hc hc2 hc3
          go_wp2_with fail
          refine hbe.mono ?_
          rintro e w2 ⟨rfl, K2, av2, h2, hF2, T2⟩
          have T02 := (TD.out.of_no).trans T2 (fun _ _ q => q)
          have F02 := (From.refl w' K).trans TD.out hF2
          have HB2 := shut (HBQ.out _ _ TD.out T2)
          have HH2 := shut h2
          have HT02 := shut T02
          have HF02 := shut F02
          clear hbe h2 hF2 T2 ha hat T02 F02 c1 c2
          cases hdb : doB s with
          | false =>
            have e : numb s (putF ⟨nm, b, 0⟩ s.fs) = ((numb s s.fs).1, (numb s s.fs).2) := by rw [HDO.out, hdb]; rfl
            have HE := shut e
            have FN := Rns.undone HH.out.kp HH2.out HT02.out HF02.out (Turn.refl no w2) ((numb s s.fs).1, (numb s s.fs).2) rfl
            have HFN := shut FN
            clear FN e
            go_wp2_with fail
            go_ret
            rw [HE.out]
            exact HFN.out
          | true =>
            have e : numb s (putF ⟨nm, b, 0⟩ s.fs) = ({ (numb s s.fs).1 with fs := putF ⟨nm, b, 0⟩ s.fs }, (numb s s.fs).2) := by rw [HDO.out, hdb]; rfl
            have HE := shut e
            clear e
            have hs2 : w2.heap.size ≤ w2.heap.size := Nat.le_refl _
            have TA : Turn no w2 (w2.alloc (.cells #[.string ⟨nm.toArray⟩, .slice none 0 0, .int .i64 0] 102)) := (Turn.refl no w2).alloc _
            have RX : Row (w2.alloc (.cells #[.string ⟨nm.toArray⟩, .slice none 0 0, .int .i64 0] 102)) w2.heap.size #[strV nm, .slice none 0 0, .int .i64 0] 102 := Row.new w2 _ 102
            obtain ⟨a4, c4, w4, hr4, r4, t4, r5, o5, b5, t5⟩ := box_app (B2 := w2.heap.size) (xs := []) (b := b) (Nat.le_refl _) TA.size RX (Own.nil _ 5) (fun g hg => by cases hg) (.slice va b.length vc) (HB2.out.turn_no TA) (by simp; omega)
            simp only [List.nil_append] at hr4 r5 o5 b5 t5
            have T25 : Turn no w2 (w4.setCell ⟨w2.heap.size, 1, none⟩ (.slice a4 b.length c4)) := TA.trans t5 (fun k hk q => by omega)
            have hput := put_end HH.out.kp HH2.out HT02.out HF02.out T25 ⟨nm, b, 0⟩ a4 c4 o5 b5 (by rw [HFS.out]; exact HI2.out) ({ (numb s s.fs).1 with fs := putF ⟨nm, b, 0⟩ s.fs }, (numb s s.fs).2) (by rw [HFS.out])
            have x0 := RX.cell 1 _ rfl
            have y1 := r4.cell 1 _ rfl
            have y1f := r4.frozen 1
            have z0 := r5.cell 0 _ rfl
            have z1 := r5.cell 1 _ rfl
            have z2 := r5.cell 2 _ rfl
            simp only [ptr, strV] at hput z0
            have HPUT := shut hput
            clear hput o5 b5 t5 t4 r4 r5 RX T25 TA
            generalize hw5 : w4.setCell ⟨w2.heap.size, 1, none⟩ (.slice a4 b.length c4) = w5 at *
            go_wp2_with (at_builtin; refine wpList_append_run rfl _ _ (t := 28) (tx := 28) rfl _ _ rfl rfl (hr4 _) ?_)
            refine HPUT.out.mono ?_
            rintro e w6 ⟨rfl, hRR⟩
            go_wp2_with fail
            go_ret
            rw [HE.out]
            exact hRR
        · have hc2 : decide ((65536 : Int) ≤ (s.fs.length : Int)) = true := by simp; omega
          have hc3 : (65536 : Int) ≤ (s.fs.length : Int) := by omega
          have HF62 : Shut (fitsB s nm b.length = false) := by show fitsB s nm b.length = false; simp [fitsB, hg]; omega
          clear h hk0 hA a1 a2 hR hul hll hb hvK hg hk1 hkp
          subst hvs
          unfold ptr strV at *
          go_enter Try.func22, Try.ntmps22
          go_wp2_with fail
          refine ha.mono ?_
          rintro e w' ⟨rfl, rfl⟩
          go_wp2_with fail
          refine hat.mono ?_
          rintro e w' ⟨rfl, rfl⟩
          go_wp2_with fail
          go_quiet ((first | (go_at_call 51; exact Calls.quiet_of_same (HU.out _))))
          have FIN := shut (F62.out nq HF62.out)
          generalize w'.drewN nq = wd at *
          go_wp2_with fail
          go_ret
          exact FIN.out
      | some f =>
        obtain ⟨kn, hkn, hfk, _⟩ := atI_some hg
        rw [hkn] at hat
        have hfn := (getF_mem hg).2
        have hkl := (List.getElem?_eq_some_iff.1 hfk).1
        have hkl' : (kn : Int) < (s.fs.length : Int) := by omega
        have hk0' : ¬ (kn : Int) < 0 := by omega
        have hk0b : decide ((kn : Int) < 0) = false := decide_eq_false (by omega)
        have hk0c : (0 : Int) ≤ (kn : Int) := by omega
        have hfbl : f.bs.length ≤ 1073741824 := by
          have h1 := lenF_le nm s.fs
          have h2 : lenF nm s.fs = f.bs.length := by simp [lenF, hg]
          omega
        have hfb : fitsB s nm b.length = true := by simp only [fitsB, hg]; simp; omega
        have e : appS s nm b = numb s (appL s.fs nm b) := by simp [appS, hA, hfb]
        have hinv := app_inv h.inv nm b a2 hfb
        have happ : appL s.fs nm b = putF ⟨nm, f.bs ++ b, f.sy⟩ s.fs := by simp [appL, fileOf, hg]
        rw [happ] at e hinv
        have hinv2 := numb_inv2 h.inv hinv
        rw [e]
        clear e happ hfb hinv hg hkn
        have HB := shut hb
        have HVK := shut hvK
        have HH := shut h
        have hbq : ∀ W W', Turn no w W → Turn (fun k => k = q) W W' → Bs W' v b := fun W W' t t' => (HB.out.turn_no t).late t' (fun hne g hg e => HVK.out hne g hg (by rw [e]; exact HH.out.kp))
        have HBQ := shut hbq
        have HI2 := shut hinv2
        subst hvs
        have hdo := numb_do s (putF ⟨nm, f.bs ++ b, f.sy⟩ s.fs)
        have HDO := shut hdo
        have hbef := fun W (t : Turn no w W) => befall52 (HH.out.turn t (fun _ _ q => q)) hn hm
        have HBEF := shut hbef
        have HFS := shut (numb_fs s)
        have HFK := shut hfk
        clear hfk
        clear hbef hdo hinv2 hbq hb hvK h hk0 hA a1 a2 hR hul hll F62
        unfold ptr strV at *
        go_enter Try.func22, Try.ntmps22
        go_wp2_with fail
        refine ha.mono ?_
        rintro e w' ⟨rfl, rfl⟩
        go_wp2_with fail
        refine hat.mono ?_
        rintro e w' ⟨rfl, rfl⟩
        go_wp2_with fail
        go_quiet ((first | (go_at_call 51; exact Calls.quiet_of_same (HU.out _))))
        have TD := shut ((Turn.refl no w').drewN nq)
        have hbe := HBEF.out _ TD.out
        generalize w'.drewN nq = wd at *
        go_wp2_with fail
        refine hbe.mono ?_
        rintro e w2 ⟨rfl, K2, av2, h2, hF2, T2⟩
        have T02 := (TD.out.of_no).trans T2 (fun _ _ q => q)
        have F02 := (From.refl w' K).trans TD.out hF2
        have HB2 := shut (HBQ.out _ _ TD.out T2)
        have HH2 := shut h2
        have HT02 := shut T02
        have HF02 := shut F02
        clear hbe h2 hF2 T2 ha hat T02 F02 c1 c2
        cases hdb : doB s with
        | false =>
          have e : numb s (putF ⟨nm, f.bs ++ b, f.sy⟩ s.fs) = ((numb s s.fs).1, (numb s s.fs).2) := by rw [HDO.out, hdb]; rfl
          have HE := shut e
          have FN := Rns.undone HH.out.kp HH2.out HT02.out HF02.out (Turn.refl no w2) ((numb s s.fs).1, (numb s s.fs).2) rfl
          have HFN := shut FN
          clear FN e
          go_wp2_with fail
          go_ret
          rw [HE.out]
          exact HFN.out
        | true =>
          have e : numb s (putF ⟨nm, f.bs ++ b, f.sy⟩ s.fs) = ({ (numb s s.fs).1 with fs := putF ⟨nm, f.bs ++ b, f.sy⟩ s.fs }, (numb s s.fs).2) := by rw [HDO.out, hdb]; rfl
          have HE := shut e
          clear e
          obtain ⟨bx, hbx⟩ : ∃ bx, bx = w2.heap.size := ⟨_, rfl⟩
          have TA : Turn no w2 (w2.alloc (.cells #[.string ⟨nm.toArray⟩, .slice none 0 0, .int .i64 0] 102)) := (Turn.refl no w2).alloc _
          have RX : Row (w2.alloc (.cells #[.string ⟨nm.toArray⟩, .slice none 0 0, .int .i64 0] 102)) bx #[strV nm, .slice none 0 0, .int .i64 0] 102 := Row.newAt w2 _ 102 _ hbx
          have RS : Row (w2.alloc (.cells #[.string ⟨nm.toArray⟩, .slice none 0 0, .int .i64 f.sy] 102)) bx #[strV nm, .slice none 0 0, .int .i64 f.sy] 102 := Row.newAt w2 _ 102 _ hbx
          have TS : Turn no w2 (w2.alloc (.cells #[.string ⟨nm.toArray⟩, .slice none 0 0, .int .i64 f.sy] 102)) := (Turn.refl no w2).alloc _
          have x2 := RX.cell 2 _ rfl
          have x2f := RX.frozen 2
          have hfl2 : Fl K2 w2 (.slice fa s.fs.length fc) s.fs := by have := HH2.out.files; rw [HFS.out] at this; exact this
          obtain ⟨gb, c, xa, xc, ee, d0, d1, d2, hO, hRb⟩ := hfl2.at kn f HFK.out
          have ee' : fa = some ⟨gb, 0, none⟩ := by simp at ee; exact ee.1
          subst ee'
          have hq2 : q < bx := by have := HH2.out.klt q HH2.out.kp; omega
          have hgb : gb < bx := by have := World.block_lt_of_cell? w2 _ d1; simp at this; omega
          generalize hwS : w2.alloc (.cells #[.string ⟨nm.toArray⟩, .slice none 0 0, .int .i64 f.sy] 102) = wS at *
          have e2 := HH2.out.c2
          have cq : ∀ W, Turn (fun k => k = bx) wS W → W.cell? ⟨q, 2, none⟩ = some (.slice (some ⟨gb, 0, none⟩) s.fs.length fc) ∧ W.cell? ⟨gb, kn * 3 + 1, none⟩ = some (.slice xa f.bs.length xc) := fun W t => ⟨t.keep (TS.keep e2 (fun q => q)) (fun e => by simp at e; omega), t.keep (TS.keep d1 (fun q => q)) (fun e => by simp at e; omega)⟩
          have e2a := TA.keep e2 (fun q => q)
          have d2a := TA.keep d2 (fun q => q)
          have CQ := shut cq
          have hsS := TS.size
          have HX1 : Shut (wS.drew.cell? ⟨bx, 1, none⟩ = some (.slice none 0 0)) := RS.drew.cell 1 _ rfl
          have RSd : Row wS.drew bx #[strV nm, .slice none 0 0, .int .i64 f.sy] 102 := RS.drew
          obtain ⟨a4, c4, w4, hr4, r4, t4, r5, o5, b5, t5⟩ := box_app (B2 := bx) (xs := []) (b := f.bs) (Nat.le_refl _) (by show bx ≤ wS.heap.size; omega) RSd (Own.nil _ 5) (fun g hg => by cases hg) (.slice xa f.bs.length xc) ((hO.bs.turn_no TS).turn_no (Turn.refl no wS).drew) (by simp; omega)
          simp only [List.nil_append] at hr4 r5 o5 b5 t5
          have S4 : Turn (fun k => k = bx) wS w4 := ((Turn.refl _ wS).drew).trans t4 (fun k _ e => by cases e)
          have S5 : Turn (fun k => k = bx) wS (w4.setCell ⟨bx, 1, none⟩ (.slice a4 f.bs.length c4)) := S4.trans (setTurn _ bx 1 _) (fun _ _ q => q)
          have T25 : Turn no w2 (w4.setCell ⟨bx, 1, none⟩ (.slice a4 f.bs.length c4)) := TS.trans S5 (fun k hk e => by omega)
          have y1f := r4.frozen 1
          have y1 := r4.cell 1 _ rfl
          generalize hw5 : w4.setCell ⟨bx, 1, none⟩ (.slice a4 f.bs.length c4) = w5 at *
          have hs5 := T25.size
          obtain ⟨a6, c6, w6, hr6, r6, t6, r7, o7, b7, t7⟩ := box_app (B2 := bx) (xs := f.bs) (b := b) (Nat.le_refl _) (by omega) r5 o5 b5 (.slice va b.length vc) (HB2.out.turn_no T25) (by omega)
          have T27 := T25.trans t7 (fun k hk q => by omega)
          have hput := put_end HH.out.kp HH2.out HT02.out HF02.out T27 ⟨nm, f.bs ++ b, f.sy⟩ a6 c6 o7 (fun g hg => by have := b7 g hg; omega) (by rw [HFS.out]; exact HI2.out) ({ (numb s s.fs).1 with fs := putF ⟨nm, f.bs ++ b, f.sy⟩ s.fs }, (numb s s.fs).2) (by rw [HFS.out])
          have u1 := r5.cell 1 _ rfl
          have v1 := r6.cell 1 _ rfl
          have v1f := r6.frozen 1
          have z0 := r7.cell 0 _ rfl
          have z1 := r7.cell 1 _ rfl
          have z2 := r7.cell 2 _ rfl
          simp only [ptr, strV] at hput z0
          generalize hn6 : (f.bs ++ b).length = n6 at *
          generalize hw7 : w6.setCell ⟨bx, 1, none⟩ (.slice a6 n6 c6) = w7 at *
          have HPUT := shut hput
          have HBX := shut hbx
          have HN6 := shut hn6
          have HS4 := shut S4
          have HS5 := shut S5
          clear hput o5 b5 t5 t4 r4 r5 RX T25 TA o7 b7 t7 t6 r6 r7 T27 hfl2 hO hRb d0 ee cq RS RSd TS hsS hs5 e2 hn6 S4 S5 hq2 hgb d1
          have HR4 := shut hr4
          have HR6 := shut hr6
          clear hr4 hr6
          go_wp2_with fail
          rw [← HBX.out]
          try rw [hwS]
          clear hbx
          have hr4 := HR4.out
          refine wp_region_noPanic ?_
          refine wp_region_held_drew (S := fun W => Turn (fun k => k = bx) wS W) (by kernel_rfl) (Turn.refl _ wS).drew (fun hHeld => ?_)
          refine' wpAnyH_take (i := 0) (v := .pointer (some ⟨bx, 1, none⟩)) rfl (by kernel_rfl) (by kernel_rfl) (by kernel_rfl) (fun _ _ _ h => h) (Or.inl ⟨by kernel_rfl, fun W hW => ?y1⟩) hHeld ?r1
          · go_simp
          refine' wpAnyH_take (i := 2) (v := .pointer (some ⟨q, 0, none⟩)) rfl (by kernel_rfl) (by kernel_rfl) (by kernel_rfl) (fun _ _ _ h => h) (Or.inl ⟨by kernel_rfl, fun W hW => ?y2⟩) hHeld ?r2
          · go_simp
          refine' wpAnyH_take (i := 3) (v := .pointer (some ⟨q, 0, none⟩)) rfl (by kernel_rfl) (by kernel_rfl) (by kernel_rfl) (fun _ _ _ h => h) (Or.inl ⟨by kernel_rfl, fun W hW => ?y3⟩) hHeld ?r3
          · go_simp
          refine' wpAnyH_take (i := 4) (v := .pointer (some ⟨q, 2, none⟩)) rfl (by kernel_rfl) (by kernel_rfl) (by kernel_rfl) (fun _ _ _ h => h) (Or.inl ⟨by kernel_rfl, fun W hW => ?y4⟩) hHeld ?r4
          · go_simp
          refine' wpAnyH_take (i := 5) (v := .slice (some ⟨gb, 0, none⟩) s.fs.length fc) rfl (by kernel_rfl) (by kernel_rfl) (by kernel_rfl) (fun _ _ _ h => h) (Or.inl ⟨by kernel_rfl, fun W hW => ?y5⟩) hHeld ?r5
          · have cc := (CQ.out W hW).1
            go_simp
          refine' wpAnyH_take (i := 6) (v := .int .i64 kn) rfl (by kernel_rfl) (by kernel_rfl) (by kernel_rfl) (fun _ _ _ h => h) (Or.inl ⟨by kernel_rfl, fun W hW => ?y6⟩) hHeld ?r6
          · go_simp
          refine' wpAnyH_take (i := 7) (v := .pointer (some ⟨gb, kn * 3, none⟩)) rfl (by kernel_rfl) (by kernel_rfl) (by kernel_rfl) (fun _ _ _ h => h) (Or.inl ⟨by kernel_rfl, fun W hW => ?y7⟩) hHeld ?r7
          · go_simp
          refine' wpAnyH_take (i := 8) (v := .pointer (some ⟨gb, kn * 3 + 1, none⟩)) rfl (by kernel_rfl) (by kernel_rfl) (by kernel_rfl) (fun _ _ _ h => h) (Or.inl ⟨by kernel_rfl, fun W hW => ?y8⟩) hHeld ?r8
          · go_simp
          refine' wpAnyH_take (i := 9) (v := .slice xa f.bs.length xc) rfl (by kernel_rfl) (by kernel_rfl) (by kernel_rfl) (fun _ _ _ h => h) (Or.inl ⟨by kernel_rfl, fun W hW => ?y9⟩) hHeld ?r9
          · have cc := (CQ.out W hW).2
            go_simp
          have xx1 : wS.drew.cell? ⟨bx, 1, none⟩ = some (.slice none 0 0) := HX1.out
          refine wpAnyH_ready (rs := [1]) (by kernel_rfl) (by simp) ?_
          refine AllReadyH.cons rfl (fun K hK => ?_) AllReadyH.nil
          go_simp
          refine hK.out _ _ hHeld (fun hHeld => ?_)
          clear hK
          refine wpAnyH_ready (rs := [10]) (by kernel_rfl) (by simp) ?_
          refine AllReadyH.cons rfl (fun K hK => ?_) AllReadyH.nil
          first | rw [if_pos (by rfl)] | skip
          refine wp_append_run _ _ rfl _ _ rfl rfl (hr4 _) ?_
          refine hK.out _ _ HS4.out (fun hHeld => ?_)
          clear hK
          refine' wpAnyH_take (i := 11) (v := .pointer (some ⟨bx, 1, none⟩)) rfl (by kernel_rfl) (by kernel_rfl) (by kernel_rfl) (fun _ _ _ h => h) (Or.inl ⟨by kernel_rfl, fun W hW => ?y10⟩) hHeld ?r10
          · go_simp
          refine wpAnyH_ready (rs := [12]) (by kernel_rfl) (by simp) ?_
          refine AllReadyH.cons rfl (fun K hK => ?_) AllReadyH.nil
          go_simp
          refine hK.out _ _ HS5.out (fun hHeld => ?_)
          clear hK
          refine wpAnyH_done (by kernel_rfl) ?_ _
          refine NoPanic.normal ?_
          have hr6 := HR6.out
          go_wp2_with (at_builtin; refine wpList_append_run rfl _ _ (t := 28) (tx := 28) rfl _ _ rfl rfl (hr6 _) ?_)
          refine HPUT.out.mono ?_
          rintro e w8 ⟨rfl, hRR⟩
          go_wp2_with fail
          go_ret
          rw [HE.out]
          exact hRR
    · have hd : decide ((R : Int) < (b.length : Int)) = true := by simp; omega
      have hd2 : (R : Int) < (b.length : Int) := by omega
      have HF62 : Shut (fitsB s nm b.length = false) := by show fitsB s nm b.length = false; simp only [fitsB, Bool.and_eq_false_iff, decide_eq_false_iff_not]; left; omega
      clear h hk0 hA a1 a2 hR hul hll hb hvK hkp
      subst hvs
      unfold ptr strV at *
      go_enter Try.func22, Try.ntmps22
      go_wp2_with fail
      refine ha.mono ?_
      rintro e w' ⟨rfl, rfl⟩
      go_wp2_with fail
      refine hat.mono ?_
      rintro e w' ⟨rfl, rfl⟩
      go_wp2_with fail
      go_quiet ((first | (go_at_call 51; exact Calls.quiet_of_same (HU.out _))))
      have FIN := shut (F62.out nq HF62.out)
      generalize w'.drewN nq = wd at *
      go_wp2_with fail
      go_ret
      exact FIN.out
  · have e : appS s nm b = (s, asked s nm) := by simp [appS, hA]
    rw [e]
    have ha' : (asked s nm != 0) = true := by simpa using hA
    have fin : Rns w q K (s, asked s nm) (.returned (.int .i64 (asked s nm))) w := Rns.same (r := (s, asked s nm)) hk0 (Turn.refl no w)
    have FIN := shut fin
    generalize asked s nm = E at *
    clear hk0 h e hA hb fin
    subst hvs
    unfold ptr strV at *
    go_enter Try.func22, Try.ntmps22
    go_wp2_with fail
    refine ha.mono ?_
    rintro e w' ⟨rfl, rfl⟩
    go_wp2_with fail
    go_ret
    exact FIN.out
end
end Go.Proofs.Ytcdogciacchigab
