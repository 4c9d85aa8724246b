/- Of the document's disk: Arm. -/
import Derived.Test.YtcdogciacchigabR5
import Derived.Test.YtcdogciacchigabM10
namespace Go.Proofs.Ytcdogciacchigab
open Go.RowKit Go.Maps
set_option linter.unusedVariables false

section
variable {w : World} {q : Nat} {K : Nat → Prop} {fv av : Value} {s : St}
theorem Rp.pushArm {W w6 : World} (h : Rp W q K fv av s) {v6 : Value} {a : Int × Tr} (hA : Al (fun k => K k ∨ (W.heap.size ≤ k ∧ k < w6.heap.size)) w6 v6 (s.arms ++ [a])) (hG : Grew W w6 av v6) (hok : okTr a.2 = true) :
    Rp (w6.setCell ⟨q, 6, none⟩ v6) q (fun k => K k ∨ (W.heap.size ≤ k ∧ k < w6.heap.size)) fv v6 { s with arms := s.arms ++ [a], m := s.m + 1 } := by
  have T := hG.turn
  have ne : ∀ {b : Nat} {c : Array Value} {t : TypeId} {fr : Nat × Nat}, W.heap[b]? = some (.cells c t fr) → t ≠ 121 → ¬ av.ownBlock = some b := fun hb ht e => by
    obtain ⟨c', ec⟩ := h.arms.1.obj e
    exact ht (tag_ne hb ec)
  have r6 := h.row.turn T (ne h.row (by decide))
  have T1 := setTurn w6 q 6 v6
  have ne2 : ∀ {b : Nat} {c : Array Value} {t : TypeId} {fr : Nat × Nat}, w6.heap[b]? = some (.cells c t fr) → t ≠ 93 → b ≠ q := fun hb ht e => by
    subst e
    exact ht (tag_ne hb r6)
  have hs := T.size
  have hs1 := T1.size
  refine ⟨⟨h.inv.sorted, h.inv.names, h.inv.sy, h.inv.used, h.inv.lim, h.inv.count, fun x hx => ?_, h.inv.out⟩, by simp; have := h.am; omega, r6.set 6 _, Or.inl h.kp, fun k hk => ?_, ?_, hA.1.turn T1 (fun g hg e => ?_), hA.2⟩
  · rcases List.mem_append.1 hx with y | y
    · exact h.inv.arms x y
    · simp at y; subst y; exact hok
  · rcases hk with y | y
    · have := h.klt k y; omega
    · omega
  · obtain ⟨vs, h1, h2, h3, h4⟩ := h.files
    have h2' := h2.turn T (fun g hg => by obtain ⟨c, ec⟩ := h2.obj hg; exact ne ec (by decide))
    refine ⟨vs, h1, h2'.turn T1 (fun g hg => by obtain ⟨c, ec⟩ := h2'.obj hg; exact ne2 ec (by decide)), fun g hg => Or.inl (h3 g hg), fun j f u hf hu => ?_⟩
    obtain ⟨a, b⟩ := h4 j f u hf hu
    have a' := a.turn T (fun g hg => by obtain ⟨c, ec⟩ := a.obj hg; exact ne ec (by decide))
    exact ⟨a'.turn T1 (fun g hg => by obtain ⟨c, ec⟩ := a'.obj hg; exact ne2 ec (by decide)), fun g hg => Or.inl (b g hg)⟩
  · obtain ⟨c, ec⟩ := hA.1.obj hg
    exact ne2 ec (by decide) e

set_option maxRecDepth 100000 in
set_option maxHeartbeats 16000000 in
theorem rarm62 (hk : Rk w q K s) (hn : s.n < 4611686018427387904) (hm : s.m < 3518437208780) (t : Tr) :
    Calls Try.prog 62 #[ptr q, trV t] w (Rns w q K (armS s t)) := by
  have hk0 := hk
  obtain ⟨fv, av, h⟩ := hk
  obtain ⟨tw, tk, td⟩ := t
  have T1 : Turn no w (w.alloc (.cells #[.int .i64 tw, .int .i64 tk, .bool td] 30)) := (Turn.refl no w).alloc _
  have r0 : Row (w.alloc (.cells #[.int .i64 tw, .int .i64 tk, .bool td] 30)) w.heap.size #[.int .i64 tw, .int .i64 tk, .bool td] 30 := Row.new w _ 30
  have h1 := h.turn T1 (fun _ _ q => q)
  have hgd := h1.good
  have c4 := h1.c4
  have q0 := r0.cell 0 _ rfl
  have q1 := r0.cell 1 _ rfl
  have q2 := r0.cell 2 _ rfl
  obtain ⟨bt, hbt⟩ : ∃ bt, bt = w.heap.size := ⟨_, rfl⟩
  have q0w := q0
  have q1w := q1
  have q2w := q2
  rw [← hbt] at q0 q1 q2 r0
  generalize hw1 : w.alloc (.cells #[.int .i64 tw, .int .i64 tk, .bool td] 30) = w1 at *
  cases hoff : s.off with
  | true =>
    have e : armS s ⟨tw, tk, td⟩ = (s, 63) := by simp [armS, hoff]
    rw [e]
    rw [hoff] at c4
    have FIN := shut (Rns.same (r := (s, 63)) hk0 T1)
    clear h h1 e hk0 T1 r0
    unfold ptr trV at *
    go_enter Try.func62, Try.ntmps62
    go_wp2_with fail
    refine hgd.mono ?_
    rintro e w' ⟨rfl, rfl⟩
    go_wp2_with fail
    go_ret
    exact FIN.out
  | false =>
    rw [hoff] at c4
    cases hok : okTr ⟨tw, tk, td⟩ with
    | false =>
      have e : armS s ⟨tw, tk, td⟩ = (s, 2) := by simp [armS, hoff, hok]
      rw [e]
      have FIN := shut (Rns.same (r := (s, 2)) hk0 T1)
      clear h h1 e hk0 T1 r0
      unfold ptr trV at *
      by_cases h1 : tw < 1 <;> by_cases h2 : 4294967296 < tw <;> by_cases h3 : tk = 1 <;> by_cases h4 : tk = 2 <;> cases td <;> (try omega)
      all_goals
        try subst h3
        try subst h4
        try have g3 : (tk != 1) = true := by simp [h3]
        try have g4 : (tk != 2) = true := by simp [h4]
        try have g5 : (tk == 1) = false := by simp [h3]
        first
        | (exfalso; simp [okTr] at hok; omega)
        | (exfalso; simp [okTr, *] at hok; done)
        | (clear hok
           go_enter Try.func62, Try.ntmps62
           go_wp2_with fail
           refine hgd.mono ?_
           rintro e w' ⟨rfl, rfl⟩
           go_wp2_with fail
           go_ret
           exact FIN.out)
    | true =>
      have hok' := hok
      simp only [okTr, Bool.and_eq_true, Bool.or_eq_true, decide_eq_true_eq, Bool.not_eq_true'] at hok'
      obtain ⟨k, hkk⟩ : ∃ k : Int, k = (s.n : Int) + tw := ⟨_, rfl⟩
      have hw : IntKind.i64.wrap ((s.n : Int) + tw) = k := by rw [wrap_i64 (by omega) (by omega)]; exact hkk.symm
      have hw' : (s.n : Int) + tw = k := hkk.symm
      have hw2 : IntKind.i64.wrap k = k := by rw [wrap_i64 (by omega) (by omega)]
      have e : armS s ⟨tw, tk, td⟩ = ({ s with arms := s.arms ++ [(k, ⟨tw, tk, td⟩)], m := s.m + 1 }, 0) := by simp [armS, hoff, hok, hkk]
      rw [e]
      obtain ⟨aa, ac, hav⟩ := h.arms.slice
      subst hav
      have hd := h1.turn ((Turn.refl no w1).drew) (fun _ _ q => q)
      have TA : Turn no w1.drew (w1.drew.alloc (.cells #[.int .i64 k, .int .i64 tw, .int .i64 tk, .bool td] 121)) := (Turn.refl no _).alloc _
      have hd2 := hd.turn TA (fun _ _ q => q)
      have ham := h.am
      obtain ⟨v6, w6, hap, hA6, hG6⟩ := hd2.arms.push (by omega) (k, ⟨tw, tk, td⟩) _ (src_am w1.drew (k, ⟨tw, tk, td⟩))
      obtain ⟨ya, yn, yc, hyv⟩ : ∃ a n c, v6 = .slice a n c := by obtain ⟨a, c, e⟩ := hA6.slice; exact ⟨_, _, _, e⟩
      subst hyv
      have hR7 := hd2.pushArm hA6 hG6 hok
      have hneA : ¬ (Value.slice aa s.arms.length ac).ownBlock = some q := fun e' => by
        obtain ⟨c', ec⟩ := h1.arms.1.obj e'
        exact absurd (tag_ne h1.row ec) (by decide)
      have hneB : ¬ (Value.slice aa s.arms.length ac).ownBlock = some bt := fun e' => by
        obtain ⟨c', ec⟩ := h1.arms.1.obj e'
        exact absurd (tag_ne r0 ec) (by decide)
      have hqb : q ≠ bt := by have := h.klt q h.kp; omega
      have S2 : Turn (fun j => j = q ∨ (Value.slice aa s.arms.length ac).ownBlock = some j) w1 (w1.drew.alloc (.cells #[.int .i64 k, .int .i64 tw, .int .i64 tk, .bool td] 121)) := ((Turn.refl _ w1).drew).then_no TA
      have S6 : Turn (fun j => j = q ∨ (Value.slice aa s.arms.length ac).ownBlock = some j) w1 w6 := S2.trans hG6.turn (fun j _ e' => Or.inr e')
      have r6 : Row w6 q (rdC s.lim s.n fv (.slice aa s.arms.length ac) s.off s.out) 93 := (hd2.row.turn hG6.turn hneA)
      have S7 : Turn (fun j => j = q ∨ (Value.slice aa s.arms.length ac).ownBlock = some j) w1 (w6.setCell ⟨q, 6, none⟩ (.slice ya yn yc)) := S6.trans (setTurn w6 q 6 _) (fun j _ e' => Or.inl e')
      have hcq : ∀ W, Turn (fun j => j = q ∨ (Value.slice aa s.arms.length ac).ownBlock = some j) w1 W → W.cell? ⟨bt, 0, none⟩ = some (.int .i64 tw) ∧ W.cell? ⟨bt, 1, none⟩ = some (.int .i64 tk) ∧ W.cell? ⟨bt, 2, none⟩ = some (.bool td) := fun W t => by
        have r := r0.turn t (fun e' => by rcases e' with e' | e'; exact hqb e'.symm; exact hneB e')
        exact ⟨r.cell 0 _ rfl, r.cell 1 _ rfl, r.cell 2 _ rfl⟩
      have CQ := shut hcq
      have HD3 : Shut (w1.drew.cell? ⟨q, 3, none⟩ = some (.int .i64 s.n)) := hd.c3
      have HS2 : Shut (Turn (fun j => j = q ∨ (Value.slice aa s.arms.length ac).ownBlock = some j) w1 (w1.drew.alloc (.cells #[.int .i64 k, .int .i64 tw, .int .i64 tk, .bool td] 121)) ∧ (w1.drew.alloc (.cells #[.int .i64 k, .int .i64 tw, .int .i64 tk, .bool td] 121)).cell? ⟨q, 3, none⟩ = some (.int .i64 s.n)) := ⟨S2, hd2.c3⟩
      have HS6 : Shut (Turn (fun j => j = q ∨ (Value.slice aa s.arms.length ac).ownBlock = some j) w1 w6 ∧ w6.cell? ⟨q, 3, none⟩ = some (.int .i64 s.n)) := ⟨S6, r6.cell 3 _ rfl⟩
      have HS7 : Shut (Turn (fun j => j = q ∨ (Value.slice aa s.arms.length ac).ownBlock = some j) w1 (w6.setCell ⟨q, 6, none⟩ (.slice ya yn yc)) ∧ (w6.setCell ⟨q, 6, none⟩ (.slice ya yn yc)).cell? ⟨q, 3, none⟩ = some (.int .i64 s.n)) := ⟨S7, (r6.set 6 _).cell 3 _ rfl⟩
      have HC66 : Shut (w6.cell? ⟨q, 6, none⟩ = some (.slice aa s.arms.length ac)) := r6.cell 6 _ rfl
      have HF66 : Shut (w6.frozen? ⟨q, 6, none⟩ = false) := r6.frozen 6
      have HC6a : Shut (w1.drew.cell? ⟨q, 6, none⟩ = some (.slice aa s.arms.length ac)) := hd.c6
      have HC6b : Shut ((w1.drew.alloc (.cells #[.int .i64 k, .int .i64 tw, .int .i64 tk, .bool td] 121)).cell? ⟨q, 6, none⟩ = some (.slice aa s.arms.length ac)) := hd2.c6
      have FNL : Rns w q K ({ s with arms := s.arms ++ [(k, ⟨tw, tk, td⟩)], m := s.m + 1 }, 0) (.returned (.int .i64 0)) (w6.setCell ⟨q, 6, none⟩ (.slice ya yn yc)) := by
        refine ⟨rfl, _, ⟨_, _, hR7⟩, fun j hj => ?_, (T1.of_no).trans S7 (fun j _ e' => ?_)⟩
        · rcases hj with y | y
          · exact Or.inl y
          · have a1 := T1.size
            have a2 := TA.size
            have a3 : w1.drew.heap.size = w1.heap.size := rfl
            exact Or.inr (by omega)
        · rcases e' with e' | e'
          · rw [e']; exact h.kp
          · exact h.arms.2 j e'
      have HFNL := shut FNL
      have HAP := shut hap
      have HKK := shut hkk
      have HBT := shut hbt
      have b1 : ¬ tw < 1 := by omega
      have b2 : ¬ 4294967296 < tw := by omega
      clear FNL hap S2 S6 S7 r6 hcq hR7 hG6 hA6 hd hd2 TA h h1 hk0 r0 T1 hneA hneB e hkk hok hbt
      unfold ptr trV at *
      have hcases : (tk = 1 ∧ td = false) ∨ tk = 2 := by
        rcases hok'.2 with y | y
        · exact Or.inr y
        · exact Or.inl y
      clear hok'
      rcases hcases with ⟨rfl, rfl⟩ | rfl
      · go_enter Try.func62, Try.ntmps62
        go_wp2_with fail
        refine hgd.mono ?_
        rintro e w' ⟨rfl, rfl⟩
        go_wp2_with fail
        rw [← HBT.out]
        refine wp_region_noPanic ?_
        refine wp_region_held_drew (S := fun W => Turn (fun j => j = q ∨ (Value.slice aa s.arms.length ac).ownBlock = some j) w' W ∧ W.cell? ⟨q, 3, none⟩ = some (.int .i64 s.n)) (by kernel_rfl) ⟨(Turn.refl _ w').drew, HD3.out⟩ (fun hHeld => ?_)
        refine' wpAnyH_take (i := 0) (v := .pointer (some ⟨q, 0, none⟩)) rfl (by kernel_rfl) (by kernel_rfl) (by kernel_rfl) (fun _ _ _ h => h) (Or.inl ⟨by kernel_rfl, fun W hW => ?y1⟩) hHeld ?r1
        · go_simp
        refine' wpAnyH_take (i := 1) (v := .pointer (some ⟨q, 0, none⟩)) rfl (by kernel_rfl) (by kernel_rfl) (by kernel_rfl) (fun _ _ _ h => h) (Or.inl ⟨by kernel_rfl, fun W hW => ?y2⟩) hHeld ?r2
        · go_simp
        refine' wpAnyH_take (i := 2) (v := .pointer (some ⟨q, 0, none⟩)) rfl (by kernel_rfl) (by kernel_rfl) (by kernel_rfl) (fun _ _ _ h => h) (Or.inl ⟨by kernel_rfl, fun W hW => ?y3⟩) hHeld ?r3
        · go_simp
        refine' wpAnyH_take (i := 3) (v := .pointer (some ⟨q, 6, none⟩)) rfl (by kernel_rfl) (by kernel_rfl) (by kernel_rfl) (fun _ _ _ h => h) (Or.inl ⟨by kernel_rfl, fun W hW => ?y4⟩) hHeld ?r4
        · go_simp
        refine' wpAnyH_take (i := 5) (v := .pointer (some ⟨q, 0, none⟩)) rfl (by kernel_rfl) (by kernel_rfl) (by kernel_rfl) (fun _ _ _ h => h) (Or.inl ⟨by kernel_rfl, fun W hW => ?y5⟩) hHeld ?r5
        · go_simp
        refine' wpAnyH_take (i := 6) (v := .pointer (some ⟨q, 0, none⟩)) rfl (by kernel_rfl) (by kernel_rfl) (by kernel_rfl) (fun _ _ _ h => h) (Or.inl ⟨by kernel_rfl, fun W hW => ?y6⟩) hHeld ?r6
        · go_simp
        refine' wpAnyH_take (i := 7) (v := .pointer (some ⟨q, 3, none⟩)) rfl (by kernel_rfl) (by kernel_rfl) (by kernel_rfl) (fun _ _ _ h => h) (Or.inl ⟨by kernel_rfl, fun W hW => ?y7⟩) hHeld ?r7
        · go_simp
        refine' wpAnyH_take (i := 8) (v := .int .i64 s.n) rfl (by kernel_rfl) (by kernel_rfl) (by kernel_rfl) (fun _ _ _ h => h) (Or.inl ⟨by kernel_rfl, fun W hW => ?y8⟩) hHeld ?r8
        · have cc := hW.2
          go_simp
        refine' wpAnyH_take (i := 9) (v := .pointer (some ⟨bt, 0, none⟩)) rfl (by kernel_rfl) (by kernel_rfl) (by kernel_rfl) (fun _ _ _ h => h) (Or.inl ⟨by kernel_rfl, fun W hW => ?y9⟩) hHeld ?r9
        · go_simp
        refine' wpAnyH_take (i := 10) (v := .int .i64 tw) rfl (by kernel_rfl) (by kernel_rfl) (by kernel_rfl) (fun _ _ _ h => h) (Or.inl ⟨by kernel_rfl, fun W hW => ?y10⟩) hHeld ?r10
        · have cc := (CQ.out W hW.1).1
          go_simp
        refine' wpAnyH_take (i := 11) (v := .int .i64 k) rfl (by kernel_rfl) (by kernel_rfl) (by kernel_rfl) (fun _ _ _ h => h) (Or.inl ⟨by kernel_rfl, fun W hW => ?y11⟩) hHeld ?r11
        · go_simp
        refine' wpAnyH_take (i := 12) (v := .agg #[.int .i64 tw, .int .i64 1, .bool false]) rfl (by kernel_rfl) (by kernel_rfl) (by kernel_rfl) (fun _ _ _ h => h) (Or.inl ⟨by kernel_rfl, fun W hW => ?y12⟩) hHeld ?r12
        · have cc := (CQ.out W hW.1).1
          have cc1 := (CQ.out W hW.1).2.1
          have cc2 := (CQ.out W hW.1).2.2
          go_simp
        refine' wpAnyH_take (i := 13) (v := .agg #[.int .i64 k, .int .i64 tw, .int .i64 1, .bool false]) rfl (by kernel_rfl) (by kernel_rfl) (by kernel_rfl) (fun _ _ _ h => h) (Or.inl ⟨by kernel_rfl, fun W hW => ?y13⟩) hHeld ?r13
        · go_simp
        have xa := HC6a.out
        have xb : ((w'.alloc (.cells #[.int .i64 k, .int .i64 tw, .int .i64 1, .bool false] 121)).drew).cell? ⟨q, 6, none⟩ = some (.slice aa s.arms.length ac) := HC6b.out
        refine wpAnyH_ready (rs := [4, 14]) (by kernel_rfl) (by simp) ?_
        refine AllReadyH.cons rfl (fun K hK => ?_) (AllReadyH.cons rfl (fun K hK => ?_) AllReadyH.nil)
        · go_simp
          refine hK.out _ _ hHeld (fun hHeld => ?_)
          clear hK
          refine wpAnyH_ready (rs := [14]) (by kernel_rfl) (by simp) ?_
          refine AllReadyH.cons rfl (fun K hK => ?_) AllReadyH.nil
          go_simp
          refine hK.out _ _ HS2.out (fun hHeld => ?_)
          clear hK
          refine wpAnyH_ready (rs := [15]) (by kernel_rfl) (by simp) ?_
          refine AllReadyH.cons rfl (fun K hK => ?_) AllReadyH.nil
          first | rw [if_pos (by rfl)] | skip
          refine wp_append_run _ _ rfl _ _ rfl rfl (HAP.out _) ?_
          refine hK.out _ _ HS6.out (fun hHeld => ?_)
          clear hK
          refine' wpAnyH_take (i := 16) (v := .pointer (some ⟨q, 0, none⟩)) rfl (by kernel_rfl) (by kernel_rfl) (by kernel_rfl) (fun _ _ _ h => h) (Or.inl ⟨by kernel_rfl, fun W hW => ?y14⟩) hHeld ?r14
          · go_simp
          refine' wpAnyH_take (i := 17) (v := .pointer (some ⟨q, 6, none⟩)) rfl (by kernel_rfl) (by kernel_rfl) (by kernel_rfl) (fun _ _ _ h => h) (Or.inl ⟨by kernel_rfl, fun W hW => ?y15⟩) hHeld ?r15
          · go_simp
          have xc := HC66.out
          have xf := HF66.out
          refine wpAnyH_ready (rs := [18]) (by kernel_rfl) (by simp) ?_
          refine AllReadyH.cons rfl (fun K hK => ?_) AllReadyH.nil
          go_simp
          refine hK.out _ _ HS7.out (fun hHeld => ?_)
          clear hK
          refine wpAnyH_done (by kernel_rfl) ?_ _
          refine NoPanic.normal ?_
          go_wp2_with fail
          go_ret
          exact HFNL.out
        · go_simp
          refine hK.out _ _ HS2.out (fun hHeld => ?_)
          clear hK
          refine wpAnyH_ready (rs := [4]) (by kernel_rfl) (by simp) ?_
          refine AllReadyH.cons rfl (fun K hK => ?_) AllReadyH.nil
          go_simp
          refine hK.out _ _ hHeld (fun hHeld => ?_)
          clear hK
          refine wpAnyH_ready (rs := [15]) (by kernel_rfl) (by simp) ?_
          refine AllReadyH.cons rfl (fun K hK => ?_) AllReadyH.nil
          first | rw [if_pos (by rfl)] | skip
          refine wp_append_run _ _ rfl _ _ rfl rfl (HAP.out _) ?_
          refine hK.out _ _ HS6.out (fun hHeld => ?_)
          clear hK
          refine' wpAnyH_take (i := 16) (v := .pointer (some ⟨q, 0, none⟩)) rfl (by kernel_rfl) (by kernel_rfl) (by kernel_rfl) (fun _ _ _ h => h) (Or.inl ⟨by kernel_rfl, fun W hW => ?y16⟩) hHeld ?r16
          · go_simp
          refine' wpAnyH_take (i := 17) (v := .pointer (some ⟨q, 6, none⟩)) rfl (by kernel_rfl) (by kernel_rfl) (by kernel_rfl) (fun _ _ _ h => h) (Or.inl ⟨by kernel_rfl, fun W hW => ?y17⟩) hHeld ?r17
          · go_simp
          have xc := HC66.out
          have xf := HF66.out
          refine wpAnyH_ready (rs := [18]) (by kernel_rfl) (by simp) ?_
          refine AllReadyH.cons rfl (fun K hK => ?_) AllReadyH.nil
          go_simp
          refine hK.out _ _ HS7.out (fun hHeld => ?_)
          clear hK
          refine wpAnyH_done (by kernel_rfl) ?_ _
          refine NoPanic.normal ?_
          go_wp2_with fail
          go_ret
          exact HFNL.out
      · cases td
        · go_enter Try.func62, Try.ntmps62
          go_wp2_with fail
          refine hgd.mono ?_
          rintro e w' ⟨rfl, rfl⟩
          go_wp2_with fail
          rw [← HBT.out]
          refine wp_region_noPanic ?_
          refine wp_region_held_drew (S := fun W => Turn (fun j => j = q ∨ (Value.slice aa s.arms.length ac).ownBlock = some j) w' W ∧ W.cell? ⟨q, 3, none⟩ = some (.int .i64 s.n)) (by kernel_rfl) ⟨(Turn.refl _ w').drew, HD3.out⟩ (fun hHeld => ?_)
          refine' wpAnyH_take (i := 0) (v := .pointer (some ⟨q, 0, none⟩)) rfl (by kernel_rfl) (by kernel_rfl) (by kernel_rfl) (fun _ _ _ h => h) (Or.inl ⟨by kernel_rfl, fun W hW => ?y18⟩) hHeld ?r18
          · go_simp
          refine' wpAnyH_take (i := 1) (v := .pointer (some ⟨q, 0, none⟩)) rfl (by kernel_rfl) (by kernel_rfl) (by kernel_rfl) (fun _ _ _ h => h) (Or.inl ⟨by kernel_rfl, fun W hW => ?y19⟩) hHeld ?r19
          · go_simp
          refine' wpAnyH_take (i := 2) (v := .pointer (some ⟨q, 0, none⟩)) rfl (by kernel_rfl) (by kernel_rfl) (by kernel_rfl) (fun _ _ _ h => h) (Or.inl ⟨by kernel_rfl, fun W hW => ?y20⟩) hHeld ?r20
          · go_simp
          refine' wpAnyH_take (i := 3) (v := .pointer (some ⟨q, 6, none⟩)) rfl (by kernel_rfl) (by kernel_rfl) (by kernel_rfl) (fun _ _ _ h => h) (Or.inl ⟨by kernel_rfl, fun W hW => ?y21⟩) hHeld ?r21
          · go_simp
          refine' wpAnyH_take (i := 5) (v := .pointer (some ⟨q, 0, none⟩)) rfl (by kernel_rfl) (by kernel_rfl) (by kernel_rfl) (fun _ _ _ h => h) (Or.inl ⟨by kernel_rfl, fun W hW => ?y22⟩) hHeld ?r22
          · go_simp
          refine' wpAnyH_take (i := 6) (v := .pointer (some ⟨q, 0, none⟩)) rfl (by kernel_rfl) (by kernel_rfl) (by kernel_rfl) (fun _ _ _ h => h) (Or.inl ⟨by kernel_rfl, fun W hW => ?y23⟩) hHeld ?r23
          · go_simp
          refine' wpAnyH_take (i := 7) (v := .pointer (some ⟨q, 3, none⟩)) rfl (by kernel_rfl) (by kernel_rfl) (by kernel_rfl) (fun _ _ _ h => h) (Or.inl ⟨by kernel_rfl, fun W hW => ?y24⟩) hHeld ?r24
          · go_simp
          refine' wpAnyH_take (i := 8) (v := .int .i64 s.n) rfl (by kernel_rfl) (by kernel_rfl) (by kernel_rfl) (fun _ _ _ h => h) (Or.inl ⟨by kernel_rfl, fun W hW => ?y25⟩) hHeld ?r25
          · have cc := hW.2
            go_simp
          refine' wpAnyH_take (i := 9) (v := .pointer (some ⟨bt, 0, none⟩)) rfl (by kernel_rfl) (by kernel_rfl) (by kernel_rfl) (fun _ _ _ h => h) (Or.inl ⟨by kernel_rfl, fun W hW => ?y26⟩) hHeld ?r26
          · go_simp
          refine' wpAnyH_take (i := 10) (v := .int .i64 tw) rfl (by kernel_rfl) (by kernel_rfl) (by kernel_rfl) (fun _ _ _ h => h) (Or.inl ⟨by kernel_rfl, fun W hW => ?y27⟩) hHeld ?r27
          · have cc := (CQ.out W hW.1).1
            go_simp
          refine' wpAnyH_take (i := 11) (v := .int .i64 k) rfl (by kernel_rfl) (by kernel_rfl) (by kernel_rfl) (fun _ _ _ h => h) (Or.inl ⟨by kernel_rfl, fun W hW => ?y28⟩) hHeld ?r28
          · go_simp
          refine' wpAnyH_take (i := 12) (v := .agg #[.int .i64 tw, .int .i64 2, .bool false]) rfl (by kernel_rfl) (by kernel_rfl) (by kernel_rfl) (fun _ _ _ h => h) (Or.inl ⟨by kernel_rfl, fun W hW => ?y29⟩) hHeld ?r29
          · have cc := (CQ.out W hW.1).1
            have cc1 := (CQ.out W hW.1).2.1
            have cc2 := (CQ.out W hW.1).2.2
            go_simp
          refine' wpAnyH_take (i := 13) (v := .agg #[.int .i64 k, .int .i64 tw, .int .i64 2, .bool false]) rfl (by kernel_rfl) (by kernel_rfl) (by kernel_rfl) (fun _ _ _ h => h) (Or.inl ⟨by kernel_rfl, fun W hW => ?y30⟩) hHeld ?r30
          · go_simp
          have xa := HC6a.out
          have xb : ((w'.alloc (.cells #[.int .i64 k, .int .i64 tw, .int .i64 2, .bool false] 121)).drew).cell? ⟨q, 6, none⟩ = some (.slice aa s.arms.length ac) := HC6b.out
          refine wpAnyH_ready (rs := [4, 14]) (by kernel_rfl) (by simp) ?_
          refine AllReadyH.cons rfl (fun K hK => ?_) (AllReadyH.cons rfl (fun K hK => ?_) AllReadyH.nil)
          · go_simp
            refine hK.out _ _ hHeld (fun hHeld => ?_)
            clear hK
            refine wpAnyH_ready (rs := [14]) (by kernel_rfl) (by simp) ?_
            refine AllReadyH.cons rfl (fun K hK => ?_) AllReadyH.nil
            go_simp
            refine hK.out _ _ HS2.out (fun hHeld => ?_)
            clear hK
            refine wpAnyH_ready (rs := [15]) (by kernel_rfl) (by simp) ?_
            refine AllReadyH.cons rfl (fun K hK => ?_) AllReadyH.nil
            first | rw [if_pos (by rfl)] | skip
            refine wp_append_run _ _ rfl _ _ rfl rfl (HAP.out _) ?_
            refine hK.out _ _ HS6.out (fun hHeld => ?_)
            clear hK
            refine' wpAnyH_take (i := 16) (v := .pointer (some ⟨q, 0, none⟩)) rfl (by kernel_rfl) (by kernel_rfl) (by kernel_rfl) (fun _ _ _ h => h) (Or.inl ⟨by kernel_rfl, fun W hW => ?y31⟩) hHeld ?r31
            · go_simp
            refine' wpAnyH_take (i := 17) (v := .pointer (some ⟨q, 6, none⟩)) rfl (by kernel_rfl) (by kernel_rfl) (by kernel_rfl) (fun _ _ _ h => h) (Or.inl ⟨by kernel_rfl, fun W hW => ?y32⟩) hHeld ?r32
            · go_simp
            have xc := HC66.out
            have xf := HF66.out
            refine wpAnyH_ready (rs := [18]) (by kernel_rfl) (by simp) ?_
            refine AllReadyH.cons rfl (fun K hK => ?_) AllReadyH.nil
            go_simp
            refine hK.out _ _ HS7.out (fun hHeld => ?_)
            clear hK
            refine wpAnyH_done (by kernel_rfl) ?_ _
            refine NoPanic.normal ?_
            go_wp2_with fail
            go_ret
            exact HFNL.out
          · go_simp
            refine hK.out _ _ HS2.out (fun hHeld => ?_)
            clear hK
            refine wpAnyH_ready (rs := [4]) (by kernel_rfl) (by simp) ?_
            refine AllReadyH.cons rfl (fun K hK => ?_) AllReadyH.nil
            go_simp
            refine hK.out _ _ hHeld (fun hHeld => ?_)
            clear hK
            refine wpAnyH_ready (rs := [15]) (by kernel_rfl) (by simp) ?_
            refine AllReadyH.cons rfl (fun K hK => ?_) AllReadyH.nil
            first | rw [if_pos (by rfl)] | skip
            refine wp_append_run _ _ rfl _ _ rfl rfl (HAP.out _) ?_
            refine hK.out _ _ HS6.out (fun hHeld => ?_)
            clear hK
            refine' wpAnyH_take (i := 16) (v := .pointer (some ⟨q, 0, none⟩)) rfl (by kernel_rfl) (by kernel_rfl) (by kernel_rfl) (fun _ _ _ h => h) (Or.inl ⟨by kernel_rfl, fun W hW => ?y33⟩) hHeld ?r33
            · go_simp
            refine' wpAnyH_take (i := 17) (v := .pointer (some ⟨q, 6, none⟩)) rfl (by kernel_rfl) (by kernel_rfl) (by kernel_rfl) (fun _ _ _ h => h) (Or.inl ⟨by kernel_rfl, fun W hW => ?y34⟩) hHeld ?r34
            · go_simp
            have xc := HC66.out
            have xf := HF66.out
            refine wpAnyH_ready (rs := [18]) (by kernel_rfl) (by simp) ?_
            refine AllReadyH.cons rfl (fun K hK => ?_) AllReadyH.nil
            go_simp
            refine hK.out _ _ HS7.out (fun hHeld => ?_)
            clear hK
            refine wpAnyH_done (by kernel_rfl) ?_ _
            refine NoPanic.normal ?_
            go_wp2_with fail
            go_ret
            exact HFNL.out
        · go_enter Try.func62, Try.ntmps62
          go_wp2_with fail
          refine hgd.mono ?_
          rintro e w' ⟨rfl, rfl⟩
          go_wp2_with fail
          rw [← HBT.out]
          refine wp_region_noPanic ?_
          refine wp_region_held_drew (S := fun W => Turn (fun j => j = q ∨ (Value.slice aa s.arms.length ac).ownBlock = some j) w' W ∧ W.cell? ⟨q, 3, none⟩ = some (.int .i64 s.n)) (by kernel_rfl) ⟨(Turn.refl _ w').drew, HD3.out⟩ (fun hHeld => ?_)
          refine' wpAnyH_take (i := 0) (v := .pointer (some ⟨q, 0, none⟩)) rfl (by kernel_rfl) (by kernel_rfl) (by kernel_rfl) (fun _ _ _ h => h) (Or.inl ⟨by kernel_rfl, fun W hW => ?y35⟩) hHeld ?r35
          · go_simp
          refine' wpAnyH_take (i := 1) (v := .pointer (some ⟨q, 0, none⟩)) rfl (by kernel_rfl) (by kernel_rfl) (by kernel_rfl) (fun _ _ _ h => h) (Or.inl ⟨by kernel_rfl, fun W hW => ?y36⟩) hHeld ?r36
          · go_simp
          refine' wpAnyH_take (i := 2) (v := .pointer (some ⟨q, 0, none⟩)) rfl (by kernel_rfl) (by kernel_rfl) (by kernel_rfl) (fun _ _ _ h => h) (Or.inl ⟨by kernel_rfl, fun W hW => ?y37⟩) hHeld ?r37
          · go_simp
          refine' wpAnyH_take (i := 3) (v := .pointer (some ⟨q, 6, none⟩)) rfl (by kernel_rfl) (by kernel_rfl) (by kernel_rfl) (fun _ _ _ h => h) (Or.inl ⟨by kernel_rfl, fun W hW => ?y38⟩) hHeld ?r38
          · go_simp
          refine' wpAnyH_take (i := 5) (v := .pointer (some ⟨q, 0, none⟩)) rfl (by kernel_rfl) (by kernel_rfl) (by kernel_rfl) (fun _ _ _ h => h) (Or.inl ⟨by kernel_rfl, fun W hW => ?y39⟩) hHeld ?r39
          · go_simp
          refine' wpAnyH_take (i := 6) (v := .pointer (some ⟨q, 0, none⟩)) rfl (by kernel_rfl) (by kernel_rfl) (by kernel_rfl) (fun _ _ _ h => h) (Or.inl ⟨by kernel_rfl, fun W hW => ?y40⟩) hHeld ?r40
          · go_simp
          refine' wpAnyH_take (i := 7) (v := .pointer (some ⟨q, 3, none⟩)) rfl (by kernel_rfl) (by kernel_rfl) (by kernel_rfl) (fun _ _ _ h => h) (Or.inl ⟨by kernel_rfl, fun W hW => ?y41⟩) hHeld ?r41
          · go_simp
          refine' wpAnyH_take (i := 8) (v := .int .i64 s.n) rfl (by kernel_rfl) (by kernel_rfl) (by kernel_rfl) (fun _ _ _ h => h) (Or.inl ⟨by kernel_rfl, fun W hW => ?y42⟩) hHeld ?r42
          · have cc := hW.2
            go_simp
          refine' wpAnyH_take (i := 9) (v := .pointer (some ⟨bt, 0, none⟩)) rfl (by kernel_rfl) (by kernel_rfl) (by kernel_rfl) (fun _ _ _ h => h) (Or.inl ⟨by kernel_rfl, fun W hW => ?y43⟩) hHeld ?r43
          · go_simp
          refine' wpAnyH_take (i := 10) (v := .int .i64 tw) rfl (by kernel_rfl) (by kernel_rfl) (by kernel_rfl) (fun _ _ _ h => h) (Or.inl ⟨by kernel_rfl, fun W hW => ?y44⟩) hHeld ?r44
          · have cc := (CQ.out W hW.1).1
            go_simp
          refine' wpAnyH_take (i := 11) (v := .int .i64 k) rfl (by kernel_rfl) (by kernel_rfl) (by kernel_rfl) (fun _ _ _ h => h) (Or.inl ⟨by kernel_rfl, fun W hW => ?y45⟩) hHeld ?r45
          · go_simp
          refine' wpAnyH_take (i := 12) (v := .agg #[.int .i64 tw, .int .i64 2, .bool true]) rfl (by kernel_rfl) (by kernel_rfl) (by kernel_rfl) (fun _ _ _ h => h) (Or.inl ⟨by kernel_rfl, fun W hW => ?y46⟩) hHeld ?r46
          · have cc := (CQ.out W hW.1).1
            have cc1 := (CQ.out W hW.1).2.1
            have cc2 := (CQ.out W hW.1).2.2
            go_simp
          refine' wpAnyH_take (i := 13) (v := .agg #[.int .i64 k, .int .i64 tw, .int .i64 2, .bool true]) rfl (by kernel_rfl) (by kernel_rfl) (by kernel_rfl) (fun _ _ _ h => h) (Or.inl ⟨by kernel_rfl, fun W hW => ?y47⟩) hHeld ?r47
          · go_simp
          have xa := HC6a.out
          have xb : ((w'.alloc (.cells #[.int .i64 k, .int .i64 tw, .int .i64 2, .bool true] 121)).drew).cell? ⟨q, 6, none⟩ = some (.slice aa s.arms.length ac) := HC6b.out
          refine wpAnyH_ready (rs := [4, 14]) (by kernel_rfl) (by simp) ?_
          refine AllReadyH.cons rfl (fun K hK => ?_) (AllReadyH.cons rfl (fun K hK => ?_) AllReadyH.nil)
          · go_simp
            refine hK.out _ _ hHeld (fun hHeld => ?_)
            clear hK
            refine wpAnyH_ready (rs := [14]) (by kernel_rfl) (by simp) ?_
            refine AllReadyH.cons rfl (fun K hK => ?_) AllReadyH.nil
            go_simp
            refine hK.out _ _ HS2.out (fun hHeld => ?_)
            clear hK
            refine wpAnyH_ready (rs := [15]) (by kernel_rfl) (by simp) ?_
            refine AllReadyH.cons rfl (fun K hK => ?_) AllReadyH.nil
            first | rw [if_pos (by rfl)] | skip
            refine wp_append_run _ _ rfl _ _ rfl rfl (HAP.out _) ?_
            refine hK.out _ _ HS6.out (fun hHeld => ?_)
            clear hK
            refine' wpAnyH_take (i := 16) (v := .pointer (some ⟨q, 0, none⟩)) rfl (by kernel_rfl) (by kernel_rfl) (by kernel_rfl) (fun _ _ _ h => h) (Or.inl ⟨by kernel_rfl, fun W hW => ?y48⟩) hHeld ?r48
            · go_simp
            refine' wpAnyH_take (i := 17) (v := .pointer (some ⟨q, 6, none⟩)) rfl (by kernel_rfl) (by kernel_rfl) (by kernel_rfl) (fun _ _ _ h => h) (Or.inl ⟨by kernel_rfl, fun W hW => ?y49⟩) hHeld ?r49
            · go_simp
            have xc := HC66.out
            have xf := HF66.out
            refine wpAnyH_ready (rs := [18]) (by kernel_rfl) (by simp) ?_
            refine AllReadyH.cons rfl (fun K hK => ?_) AllReadyH.nil
            go_simp
            refine hK.out _ _ HS7.out (fun hHeld => ?_)
            clear hK
            refine wpAnyH_done (by kernel_rfl) ?_ _
            refine NoPanic.normal ?_
            go_wp2_with fail
            go_ret
            exact HFNL.out
          · go_simp
            refine hK.out _ _ HS2.out (fun hHeld => ?_)
            clear hK
            refine wpAnyH_ready (rs := [4]) (by kernel_rfl) (by simp) ?_
            refine AllReadyH.cons rfl (fun K hK => ?_) AllReadyH.nil
            go_simp
            refine hK.out _ _ hHeld (fun hHeld => ?_)
            clear hK
            refine wpAnyH_ready (rs := [15]) (by kernel_rfl) (by simp) ?_
            refine AllReadyH.cons rfl (fun K hK => ?_) AllReadyH.nil
            first | rw [if_pos (by rfl)] | skip
            refine wp_append_run _ _ rfl _ _ rfl rfl (HAP.out _) ?_
            refine hK.out _ _ HS6.out (fun hHeld => ?_)
            clear hK
            refine' wpAnyH_take (i := 16) (v := .pointer (some ⟨q, 0, none⟩)) rfl (by kernel_rfl) (by kernel_rfl) (by kernel_rfl) (fun _ _ _ h => h) (Or.inl ⟨by kernel_rfl, fun W hW => ?y50⟩) hHeld ?r50
            · go_simp
            refine' wpAnyH_take (i := 17) (v := .pointer (some ⟨q, 6, none⟩)) rfl (by kernel_rfl) (by kernel_rfl) (by kernel_rfl) (fun _ _ _ h => h) (Or.inl ⟨by kernel_rfl, fun W hW => ?y51⟩) hHeld ?r51
            · go_simp
            have xc := HC66.out
            have xf := HF66.out
            refine wpAnyH_ready (rs := [18]) (by kernel_rfl) (by simp) ?_
            refine AllReadyH.cons rfl (fun K hK => ?_) AllReadyH.nil
            go_simp
            refine hK.out _ _ HS7.out (fun hHeld => ?_)
            clear hK
            refine wpAnyH_done (by kernel_rfl) ?_ _
            refine NoPanic.normal ?_
            go_wp2_with fail
            go_ret
            exact HFNL.out
end
end Go.Proofs.Ytcdogciacchigab
