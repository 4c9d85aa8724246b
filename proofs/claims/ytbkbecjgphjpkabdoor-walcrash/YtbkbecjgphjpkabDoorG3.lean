/- A log's Append and Sync, whole. -/
import Derived.Test.YtbkbecjgphjpkabDoorG2
namespace Go.Proofs.YtbkbecjgphjpkabDoor
open Go.RowKit Go.Maps
set_option linter.unusedVariables false

section
variable {w : World} {q p : Nat} {M : Nat → Prop} {s : St} {nm : Nm} {c y : Nat}

/-- What a call of a log leaves. -/
def La (w : World) (q p : Nat) (M : Nat → Prop) (nm : Nm) (s' : St) (c' y' : Nat) (d' : Bool) (w' : World) : Prop :=
  ∃ M', Dk w' p M' s' ∧ From w M M' ∧ Lg w' q p nm c' y' d' ∧ ¬ M' q ∧ Turn (fun k => M k ∨ k = q) w w'

theorem La.of_lf {w0 w1 : World} {E : Int} {c0 y0 c' y' : Nat} {s' : St} (hq : ¬ M q) (hql : q < w.heap.size) (hKlt : ∀ k, M k → k < w.heap.size) (t0 : Turn no w w0) (h : Lf w0 q p M nm s' c0 y0 w1 c' y') (hg : Lg w1 q p nm c' y' false) (b : Bool) :
    La w q p M nm s' c0 y0 b (w1.setCell ⟨q, 5, none⟩ (.bool b)) := by
  obtain ⟨rfl, rfl, M', hk, hf, t⟩ := h
  have hs := t0.size
  have hq' : ¬ M' q := fun z => by
    rcases hf q z with z | z
    · exact hq z
    · omega
  refine ⟨M', hk.turn (S := fun k => k = q) ((Turn.refl (fun k => k = q) w1).setCell (p := ⟨q, 5, none⟩) (fun _ => rfl) _) (fun k hk' e => by subst e; exact hq' hk'), fun k z => ?_, hg.setDead b, hq', ?_⟩
  · rcases hf k z with z | z
    · exact Or.inl z
    · exact Or.inr (by omega)
  · exact ((Turn.of_no t0).trans t (fun _ _ z => z)).setCell (fun _ => Or.inr rfl) _

set_option maxRecDepth 100000 in
set_option maxHeartbeats 2000000 in
theorem append24 (hk : Dk w p M s) (hn : s.n < 4611686018427387904) (hg : Lg w q p nm c y false) (hq : ¬ M q) (hnm : nm.length ≤ maxLen) (hc : c < 4611686018427387904) (v : Value) (rec : List UInt8) (hb : Bs w v rec) (hL : LaidT w) :
    Calls Tryd.prog 24 #[ptr q, v] w fun e w' => e = .returned (.int .i64 (apdS s nm rec).2) ∧ La w q p M nm (apdS s nm rec).1 (if (apdS s nm rec).2 = 0 then c + 1 else c) y ((apdS s nm rec).2 != 0 && (apdS s nm rec).2 != 4) w' := by
  have hKlt := hk.klt
  have hql := hg.lt
  have T : Turn no w ((w.alloc (.cells #[ptr q] 29)).alloc (.cells #[v] 55)) := ((Turn.refl no w).alloc _).alloc _
  have r1 : Row ((w.alloc (.cells #[ptr q] 29)).alloc (.cells #[v] 55)) w.heap.size #[ptr q] 29 := (Row.new w _ 29).alloc _
  have r0 : Row ((w.alloc (.cells #[ptr q] 29)).alloc (.cells #[v] 55)) (w.heap.size + 1) #[v] 55 := Row.newAt _ _ 55 _ (by simp)
  have cl := r1.cell 0 _ rfl
  have c43 := app43 (hk.turn_no T) hn (hg.turn_no T) hq hnm hc (w.heap.size + 1) w.heap.size v rec (r0.cell 0 _ rfl) (r1.cell 0 _ rfl) (fun z => by have := hKlt _ z; omega) (fun z => by have := hKlt _ z; omega) (by omega) (hb.turn_no T) (hL.turn_no T)
  have c42 := change_43 (hg.turn_no T) #[ptr (w.heap.size + 1), ptr w.heap.size] _ _ c43
  obtain ⟨va, vc, rfl⟩ := hb.slice
  obtain ⟨E, hE⟩ : ∃ E, (apdS s nm rec).2 = E := ⟨_, rfl⟩
  obtain ⟨s', hs'⟩ : ∃ s', (apdS s nm rec).1 = s' := ⟨_, rfl⟩
  obtain ⟨C1, hC1⟩ : ∃ C1, (if (apdS s nm rec).2 = 0 then c + 1 else c) = C1 := ⟨_, rfl⟩
  rw [hC1] at c42 ⊢
  rw [hE, hs'] at c42 ⊢
  have fin : Hid (∀ w1 c' y', Lf ((w.alloc (.cells #[ptr q] 29)).alloc (.cells #[.slice va rec.length vc] 55)) q p M nm s' C1 y w1 c' y' → Lg w1 q p nm c' y' false → La w q p M nm s' C1 y (E != 0 && E != 4) (w1.setCell ⟨q, 5, none⟩ (.bool (E != 0 && E != 4)))) := fun w1 c' y' h1 h2 => La.of_lf (E := E) hq hql hKlt T h1 h2 _
  have c42 := Hid.mk' c42
  unfold ptr at *
  clear c43 r0 r1 hk hg hb hL hE hs' hC1 T
  go_enter Tryd.func24, Tryd.ntmps24
  go_wp2_with fail
  refine c42.out.mono ?_
  rintro e w2 ⟨rfl, w1, c', y', l1, l2, rfl⟩
  have r := fin.out w1 c' y' l1 l2
  clear fin c42 l1 l2
  go_wp2_with fail
  go_ret
  exact ⟨rfl, r⟩
set_option maxRecDepth 100000 in
set_option maxHeartbeats 2000000 in
theorem append24_dead (hg : Lg w q p nm c y true) (a : Option Addr) (n m : Nat) :
    Calls Tryd.prog 24 #[ptr q, .slice a n m] w fun e w' => e = .returned (.int .i64 70) ∧ Turn no w w' := by
  have T : Turn no w ((w.alloc (.cells #[ptr q] 29)).alloc (.cells #[.slice a n m] 55)) := ((Turn.refl no w).alloc _).alloc _
  have r1 : Row ((w.alloc (.cells #[ptr q] 29)).alloc (.cells #[.slice a n m] 55)) w.heap.size #[ptr q] 29 := (Row.new w _ 29).alloc _
  have cl := r1.cell 0 _ rfl
  have c42 := Hid.mk' (change_dead_43 (hg.turn_no T) #[ptr (w.heap.size + 1), ptr w.heap.size])
  unfold ptr at *
  clear hg r1
  go_enter Tryd.func24, Tryd.ntmps24
  go_wp2_with fail
  refine c42.out.mono ?_
  rintro e w2 ⟨rfl, rfl⟩
  go_wp2_with fail
  go_ret
  exact ⟨rfl, T⟩

/-- What a Sync does. -/
def lsyS (s : St) (nm : Nm) (c y : Nat) : St × Int := if y = c then (s, 0) else syncS s nm

set_option maxRecDepth 100000 in
set_option maxHeartbeats 4000000 in
theorem syn46 (hk : Dk w p M s) (hn : s.n < 4611686018427387904) (hg : Lg w q p nm c y false) (hq : ¬ M q) (hnm : nm.length ≤ maxLen) (a1 : Nat)
    (b1 : w.cell? ⟨a1, 0, none⟩ = some (ptr q)) (k1 : ¬ M a1) (n1 : a1 ≠ q) :
    Calls Tryd.prog 46 #[ptr a1] w fun e w' => e = .returned (.int .i64 (lsyS s nm c y).2) ∧ ∃ c' y', Lg w' q p nm c' y' false ∧ Lf w q p M nm (lsyS s nm c y).1 c (if (lsyS s nm c y).2 = 0 then c else y) w' c' y' := by
  have hKlt := hk.klt
  obtain ⟨R, hR⟩ : ∃ R, lsyS s nm c y = R := ⟨_, rfl⟩
  obtain ⟨Y1, hY1⟩ : ∃ Y1, (if (lsyS s nm c y).2 = 0 then c else y) = Y1 := ⟨_, rfl⟩
  rw [hY1]
  rw [hR] at hY1 ⊢
  have g3 := hg.c3
  have g4 := hg.c4
  have hgc1 := hg.c1
  have hgc2 := hg.c2
  have hqlt := hg.lt
  by_cases hyc : y = c
  · have e : lsyS s nm c y = (s, 0) := by unfold lsyS; rw [if_pos hyc]
    obtain rfl : R = (s, 0) := hR.symm.trans e
    obtain rfl : c = Y1 := hY1
    subst hyc
    have hq0 : ((y : Int) == (y : Int)) = true := by simp
    have hfin : Hid (∀ n, ∃ c' y', Lg (w.drewN n) q p nm c' y' false ∧ Lf w q p M nm s y y (w.drewN n) c' y') := fun n => ⟨y, y, hg.turn_no ((Turn.refl no w).drewN n), rfl, rfl, M, hk.turn_no ((Turn.refl no w).drewN n), From.refl w M, (Turn.refl _ w).drewN n⟩
    unfold ptr at *
    clear hk hg hR e
    go_enter Tryd.func46, Tryd.ntmps46
    go_wp2
    go_quiet (fail)
    go_wp2
    go_ret
    exact ⟨rfl, hfin.out _⟩
  · have e : lsyS s nm c y = syncS s nm := by unfold lsyS; rw [if_neg hyc]
    have hq0 : ((y : Int) == (c : Int)) = false := by simp; omega
    unfold ptr strV at *
    go_enter Tryd.func46, Tryd.ntmps46
    go_wp2
    go_quiet (fail)
    have t1 := (Turn.refl no w).drewN nq
    generalize w.drewN nq = w1 at *
    have D1 : ∀ W, Turn M w1 W → W.cell? ⟨a1, 0, none⟩ = some (.pointer (some ⟨q, 0, none⟩)) := fun W t => t.keep (t1.keep b1 (fun z => z)) k1
    have D2 : ∀ W, Turn M w1 W → W.cell? ⟨q, 1, none⟩ = some (.pointer (some ⟨p, 0, none⟩)) := fun W t => t.keep (t1.keep hgc1 (fun z => z)) hq
    have D3 : ∀ W, Turn M w1 W → W.cell? ⟨q, 2, none⟩ = some (.string ⟨nm.toArray⟩) := fun W t => t.keep (t1.keep hgc2 (fun z => z)) hq
    have hk1 := hk.turn_no t1
    have hg1 := hg.turn_no t1
    have s1 := t1.size
    have cA : ∀ W, Turn no w1 W → Calls Tryd.prog 47 #[.pointer (some ⟨p, 0, none⟩), .string ⟨nm.toArray⟩] W (Ans W p M (syncS s nm)) := fun W t => sync42 (hk1.turn_no t) hn nm hnm
    rw [← e, hR] at cA
    have cA := Hid.mk' cA
    clear hR e hk hg b1 hgc1 hgc2 g3 g4
    go_wp2_with fail
    refine wp_region_held_drew (S := fun W => Turn M w1 W) (by kernel_rfl) (Turn.refl _ w1).drew (fun hHeld => ?_)
    refine' wpAnyH_take (i := 0) (v := .pointer (some ⟨q, 0, none⟩)) rfl (by kernel_rfl) (by kernel_rfl) (by kernel_rfl) (fun _ _ _ h => h) (Or.inl ⟨by kernel_rfl, fun W hW => ?y1⟩) hHeld ?r1
    · have z := D1 W hW
      go_simp
    refine' wpAnyH_take (i := 1) (v := .pointer (some ⟨q, 0, none⟩)) rfl (by kernel_rfl) (by kernel_rfl) (by kernel_rfl) (fun _ _ _ h => h) (Or.inl ⟨by kernel_rfl, fun W hW => ?y2⟩) hHeld ?r2
    · go_simp
    refine' wpAnyH_take (i := 2) (v := .pointer (some ⟨q, 1, none⟩)) rfl (by kernel_rfl) (by kernel_rfl) (by kernel_rfl) (fun _ _ _ h => h) (Or.inl ⟨by kernel_rfl, fun W hW => ?y3⟩) hHeld ?r3
    · go_simp
    refine' wpAnyH_take (i := 3) (v := .pointer (some ⟨p, 0, none⟩)) rfl (by kernel_rfl) (by kernel_rfl) (by kernel_rfl) (fun _ _ _ h => h) (Or.inl ⟨by kernel_rfl, fun W hW => ?y4⟩) hHeld ?r4
    · have z := D2 W hW
      go_simp
    refine' wpAnyH_take (i := 4) (v := .pointer (some ⟨q, 0, none⟩)) rfl (by kernel_rfl) (by kernel_rfl) (by kernel_rfl) (fun _ _ _ h => h) (Or.inl ⟨by kernel_rfl, fun W hW => ?y5⟩) hHeld ?r5
    · have z := D1 W hW
      go_simp
    refine' wpAnyH_take (i := 5) (v := .pointer (some ⟨q, 0, none⟩)) rfl (by kernel_rfl) (by kernel_rfl) (by kernel_rfl) (fun _ _ _ h => h) (Or.inl ⟨by kernel_rfl, fun W hW => ?y6⟩) hHeld ?r6
    · go_simp
    refine' wpAnyH_take (i := 6) (v := .pointer (some ⟨q, 2, none⟩)) rfl (by kernel_rfl) (by kernel_rfl) (by kernel_rfl) (fun _ _ _ h => h) (Or.inl ⟨by kernel_rfl, fun W hW => ?y7⟩) hHeld ?r7
    · go_simp
    refine' wpAnyH_take (i := 7) (v := .string ⟨nm.toArray⟩) rfl (by kernel_rfl) (by kernel_rfl) (by kernel_rfl) (fun _ _ _ h => h) (Or.inl ⟨by kernel_rfl, fun W hW => ?y8⟩) hHeld ?r8
    · have z := D3 W hW
      go_simp
    refine wpAnyH_ready (rs := [8]) (by kernel_rfl) (by simp) ?_
    refine AllReadyH.cons rfl (fun K hK => ?_) AllReadyH.nil
    go_simp
    refine (cA.out _ (Turn.refl no w1).drew).mono ?_
    rintro e' w2 ⟨rfl, M', hk2, hfr, t2⟩
    have t12 : Turn M w1 w2 := (Turn.of_no (Turn.refl no w1).drew).trans t2 (fun _ _ z => z)
    have hg2 := hg1.turn t12 hq
    have hfr2 : From w M M' := fun k z => by
      rcases hfr k z with z | z
      · exact Or.inl z
      · refine Or.inr ?_
        have : w1.drew.heap.size = w1.heap.size := rfl
        omega
    have T2 : Turn (fun k => M k ∨ k = q) w w2 := (Turn.of_no t1).trans t12 (fun _ _ z => Or.inl z)
    refine hK.out _ _ t12 (fun hHeld => ?_)
    clear hK
    refine wpAnyH_ready (rs := [9]) (by kernel_rfl) (by simp) ?_
    refine AllReadyH.cons rfl (fun K hK => ?_) AllReadyH.nil
    go_simp
    refine hK.out _ _ t12 (fun hHeld => ?_)
    clear hK
    refine wpAnyH_done (by kernel_rfl) ?_ _
    have b1' := D1 w2 t12
    clear hHeld D1 D2 D3 cA t2 t12 hfr hk1 hg1
    obtain ⟨r1, r2⟩ := R
    simp only at hk2 hY1 ⊢
    replace hY1 := Hid.mk' hY1
    by_cases h0 : r2 = 0
    · subst h0
      have hCc : Hid (Y1 = c) := by show Y1 = c; rw [← hY1.out]; rfl
      have g3 := hg2.c3
      have g4 := hg2.c4
      have f4 := hg2.f 4
      go_wp2_with fail
      have g4' : w2.drew.cell? ⟨q, 4, none⟩ = some (.int .i64 y) := g4
      have f4' : w2.drew.frozen? ⟨q, 4, none⟩ = false := f4
      refine wp_region_held_drew (S := fun W => Turn (fun k => k = q) w2 W ∧ W.cell? ⟨q, 3, none⟩ = some (.int .i64 c)) (by kernel_rfl) ⟨(Turn.refl _ w2).drew, g3⟩ (fun hHeld => ?_)
      refine' wpAnyH_take (i := 0) (v := .pointer (some ⟨q, 0, none⟩)) rfl (by kernel_rfl) (by kernel_rfl) (by kernel_rfl) (fun _ _ _ h => h) (Or.inl ⟨by kernel_rfl, fun W hW => ?y9⟩) hHeld ?r9
      · have z := hW.1.keep b1' n1
        go_simp
      refine' wpAnyH_take (i := 1) (v := .pointer (some ⟨q, 0, none⟩)) rfl (by kernel_rfl) (by kernel_rfl) (by kernel_rfl) (fun _ _ _ h => h) (Or.inl ⟨by kernel_rfl, fun W hW => ?y10⟩) hHeld ?r10
      · have z := hW.1.keep b1' n1
        go_simp
      refine' wpAnyH_take (i := 2) (v := .pointer (some ⟨q, 0, none⟩)) rfl (by kernel_rfl) (by kernel_rfl) (by kernel_rfl) (fun _ _ _ h => h) (Or.inl ⟨by kernel_rfl, fun W hW => ?y11⟩) hHeld ?r11
      · go_simp
      refine' wpAnyH_take (i := 3) (v := .pointer (some ⟨q, 3, none⟩)) rfl (by kernel_rfl) (by kernel_rfl) (by kernel_rfl) (fun _ _ _ h => h) (Or.inl ⟨by kernel_rfl, fun W hW => ?y12⟩) hHeld ?r12
      · go_simp
      refine' wpAnyH_take (i := 4) (v := .int .i64 c) rfl (by kernel_rfl) (by kernel_rfl) (by kernel_rfl) (fun _ _ _ h => h) (Or.inl ⟨by kernel_rfl, fun W hW => ?y13⟩) hHeld ?r13
      · have z := hW.2
        go_simp
      refine' wpAnyH_take (i := 5) (v := .pointer (some ⟨q, 0, none⟩)) rfl (by kernel_rfl) (by kernel_rfl) (by kernel_rfl) (fun _ _ _ h => h) (Or.inl ⟨by kernel_rfl, fun W hW => ?y14⟩) hHeld ?r14
      · go_simp
      refine' wpAnyH_take (i := 6) (v := .pointer (some ⟨q, 4, none⟩)) rfl (by kernel_rfl) (by kernel_rfl) (by kernel_rfl) (fun _ _ _ h => h) (Or.inl ⟨by kernel_rfl, fun W hW => ?y15⟩) hHeld ?r15
      · go_simp
      refine wpAnyH_ready (rs := [7]) (by kernel_rfl) (by simp) ?_
      refine AllReadyH.cons rfl (fun K hK => ?_) AllReadyH.nil
      go_simp
      have hgd : Lg w2.drew q p nm c y false := hg2.turn_no (Turn.refl no w2).drew
      have hgs := hgd.setSync c
      have td : Turn (fun k => k = q) w2 (w2.drew.setCell ⟨q, 4, none⟩ (.int .i64 c)) := ((Turn.refl (fun k => k = q) w2).drew).setCell (p := ⟨q, 4, none⟩) (fun _ => rfl) _
      refine hK.out _ _ ⟨td, hgs.c3⟩ (fun hHeld => ?_)
      clear hK
      refine wpAnyH_done (by kernel_rfl) ?_ _
      clear hHeld g4' f4' g3 g4 f4 hgd
      have hfin : Hid (∃ c' y', Lg (w2.drew.setCell ⟨q, 4, none⟩ (.int .i64 c)) q p nm c' y' false ∧ Lf w q p M nm r1 c Y1 (w2.drew.setCell ⟨q, 4, none⟩ (.int .i64 c)) c' y') := by
        refine ⟨c, c, hgs, rfl, hCc.out.symm, M', hk2.turn td (fun k hk' hq' => ?_), hfr2, T2.trans td (fun _ _ z => Or.inr z)⟩
        subst hq'
        rcases hfr2 k hk' with z | z
        · exact hq z
        · omega
      clear hgs td hk2 hg2
      go_wp2_with fail
      go_ret
      exact ⟨rfl, hfin.out⟩
    · have h0' : (r2 != 0) = true := by simpa using h0
      have hif : Hid (Y1 = y) := by show Y1 = y; rw [← hY1.out, if_neg h0]
      go_wp2_with fail
      go_ret
      exact ⟨rfl, c, y, hg2, rfl, hif.out.symm, M', hk2, hfr2, T2⟩

set_option maxRecDepth 100000 in
set_option maxHeartbeats 2000000 in
theorem sync26 (hk : Dk w p M s) (hn : s.n < 4611686018427387904) (hg : Lg w q p nm c y false) (hq : ¬ M q) (hnm : nm.length ≤ maxLen) :
    Calls Tryd.prog 26 #[ptr q] w fun e w' => e = .returned (.int .i64 (lsyS s nm c y).2) ∧ La w q p M nm (lsyS s nm c y).1 c (if (lsyS s nm c y).2 = 0 then c else y) ((lsyS s nm c y).2 != 0 && (lsyS s nm c y).2 != 4) w' := by
  have hKlt := hk.klt
  have hql := hg.lt
  have T : Turn no w (w.alloc (.cells #[ptr q] 29)) := (Turn.refl no w).alloc _
  have r1 : Row (w.alloc (.cells #[ptr q] 29)) w.heap.size #[ptr q] 29 := Row.new w _ 29
  have cl := r1.cell 0 _ rfl
  have c46 := syn46 (hk.turn_no T) hn (hg.turn_no T) hq hnm w.heap.size (r1.cell 0 _ rfl) (fun z => by have := hKlt _ z; omega) (by omega)
  have c42 := change_46 (hg.turn_no T) #[ptr w.heap.size] _ _ c46
  obtain ⟨E, hE⟩ : ∃ E, (lsyS s nm c y).2 = E := ⟨_, rfl⟩
  obtain ⟨s', hs'⟩ : ∃ s', (lsyS s nm c y).1 = s' := ⟨_, rfl⟩
  obtain ⟨Y1, hY1⟩ : ∃ Y1, (if (lsyS s nm c y).2 = 0 then c else y) = Y1 := ⟨_, rfl⟩
  rw [hY1] at c42 ⊢
  rw [hE, hs'] at c42 ⊢
  have fin : Hid (∀ w1 c' y', Lf (w.alloc (.cells #[ptr q] 29)) q p M nm s' c Y1 w1 c' y' → Lg w1 q p nm c' y' false → La w q p M nm s' c Y1 (E != 0 && E != 4) (w1.setCell ⟨q, 5, none⟩ (.bool (E != 0 && E != 4)))) := fun w1 c' y' h1 h2 => La.of_lf (E := E) hq hql hKlt T h1 h2 _
  have c42 := Hid.mk' c42
  unfold ptr at *
  clear c46 r1 hk hg hE hs' hY1 T
  go_enter Tryd.func26, Tryd.ntmps26
  go_wp2_with fail
  refine c42.out.mono ?_
  rintro e w2 ⟨rfl, w1, c', y', l1, l2, rfl⟩
  have r := fin.out w1 c' y' l1 l2
  clear fin c42 l1 l2
  go_wp2_with fail
  go_ret
  exact ⟨rfl, r⟩
set_option maxRecDepth 100000 in
set_option maxHeartbeats 2000000 in
theorem sync26_dead (hg : Lg w q p nm c y true) :
    Calls Tryd.prog 26 #[ptr q] w fun e w' => e = .returned (.int .i64 70) ∧ Turn no w w' := by
  have T : Turn no w (w.alloc (.cells #[ptr q] 29)) := (Turn.refl no w).alloc _
  have r1 : Row (w.alloc (.cells #[ptr q] 29)) w.heap.size #[ptr q] 29 := Row.new w _ 29
  have cl := r1.cell 0 _ rfl
  have c42 := Hid.mk' (change_dead_46 (hg.turn_no T) #[ptr w.heap.size])
  unfold ptr at *
  clear hg r1
  go_enter Tryd.func26, Tryd.ntmps26
  go_wp2_with fail
  refine c42.out.mono ?_
  rintro e w2 ⟨rfl, rfl⟩
  go_wp2_with fail
  go_ret
  exact ⟨rfl, T⟩
end
end Go.Proofs.YtbkbecjgphjpkabDoor
