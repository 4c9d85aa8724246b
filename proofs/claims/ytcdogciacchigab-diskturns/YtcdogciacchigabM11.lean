/- New, Arm. -/
import Derived.Test.YtcdogciacchigabM4
namespace Go.Proofs.Ytcdogciacchigab
open Go.RowKit Go.Maps
set_option linter.unusedVariables false
section
variable {w : World} {p : Nat} {K : Nat → Prop} {bf bt : Option Nat} {V : Nm → Value} {s : St}

def newSt (lim : Nat) : St := ⟨lim, [], 0, [], 0, false, false⟩
set_option maxRecDepth 100000 in
set_option maxHeartbeats 2000000 in
theorem new9 (w : World) (lim : Nat) (h1 : 1 ≤ lim) (h2 : lim ≤ 1073741824) : Calls Try.prog 18 #[.int .i64 lim] w fun e w' => ∃ q K, e = .returned (.tuple #[ptr q, .int .i64 0]) ∧ w.heap.size ≤ q ∧ Dk w' q K (newSt lim) ∧ From w no K ∧ Turn no w w' := by
  have m1 := fun W => run_makeMap (P := Try.prog) 79 W
  have m2 := fun W => run_makeMap (P := Try.prog) 80 W
  have i1 : ¬ (lim : Int) < 1 := by omega
  have i2 : ¬ (1073741824 : Int) < (lim : Int) := by omega
  unfold ptr
  go_enter Try.func18, Try.ntmps18
  go_wp2_with fail
  go_ret2
  refine ⟨w.heap.size + 1 + 1, rfl, by omega, fun k => w.heap.size ≤ k ∧ k < w.heap.size + 3, ⟨some w.heap.size, some (w.heap.size + 1), fun _ => .slice none 0 0, ?_⟩, (fun k q => Or.inr q.1), ((((Turn.refl no w).alloc _).alloc _).alloc _)⟩
  refine ⟨⟨List.Pairwise.nil, (fun f hf => by cases hf), (fun f hf => by cases hf), Nat.zero_le _, ⟨h1, h2⟩, by simp [newSt], (fun a ha => by cases ha), fun _ => rfl⟩, Row.newAt _ _ 82 _ (by simp), ⟨by omega, by omega⟩, (fun k q => by simp; omega), Or.inr ⟨rfl, _, .map [], rfl, ⟨by omega, by omega⟩, ?_, Fm.new _⟩, Or.inr ⟨rfl, _, .map [], rfl, ⟨by omega, by omega⟩, by simp, ?_, Tm.new⟩, fun f hf => (by cases hf), fun f hf => (by cases hf), fun f hf => (by cases hf)⟩
  · exact ((World.ownsMap_made w Try.prog 9 heldElem).alloc _).alloc _
  · have := (World.ownsMap_made (w.alloc (.map #[] 0)) Try.prog 3 heldElem).alloc (.cells #[.pointer (some ⟨w.heap.size + 1 + 1, 0, none⟩), .int .i64 lim, .map (some w.heap.size), .int .i64 0, .int .i64 0, .map (some (w.heap.size + 1)), .bool true, .bool false] 82)
    rw [World.size_alloc] at this
    exact this
set_option maxRecDepth 100000 in
set_option maxHeartbeats 2000000 in
theorem new9_no (w : World) (lim : Int) (h : lim < 1 ∨ 1073741824 < lim) : Calls Try.prog 18 #[.int .i64 lim] w fun e w' => e = .returned (.tuple #[.pointer none, .int .i64 2]) ∧ w' = w := by
  by_cases h1 : lim < 1
  · go_enter Try.func18, Try.ntmps18
    go_wp2_with fail
    go_ret2
    exact ⟨rfl, rfl⟩
  · have h2 : (1073741824 : Int) < lim := by omega
    clear h
    go_enter Try.func18, Try.ntmps18
    go_wp2_with fail
    go_ret2
    exact ⟨rfl, rfl⟩

set_option maxRecDepth 100000 in
set_option maxHeartbeats 2000000 in
theorem isTrouble31 (w : World) (t : Tr) : Calls Try.prog 42 #[trV t] w fun e w' => e = .returned (.bool (okTr t)) ∧ Turn no w w' := by
  obtain ⟨tw, tk, td⟩ := t
  have hT : Turn no w (w.alloc (.cells #[.int .i64 tw, .int .i64 tk, .bool td] 30)) := (Turn.refl no w).alloc _
  unfold trV okTr
  obtain ⟨A, hA⟩ : ∃ A, decide (tw < 1) = A := ⟨_, rfl⟩
  obtain ⟨B, hB⟩ : ∃ B, decide (4294967296 < tw) = B := ⟨_, rfl⟩
  have e1 : decide (1 ≤ tw) = !A := by rw [← hA]; rw [Bool.eq_iff_iff]; simp
  have e2 : decide (tw ≤ 4294967296) = !B := by rw [← hB]; rw [Bool.eq_iff_iff]; simp
  simp only [e1, e2]
  clear e1 e2
  by_cases k1 : tk = 1
  · subst k1
    cases A <;> cases B <;> cases td
    all_goals
      go_enter Try.func42, Try.ntmps42
      go_wp2_with fail
      go_ret
      exact ⟨rfl, hT⟩
  · have k1' : (tk == 1) = false := by simpa using k1
    by_cases k2 : tk = 2
    · subst k2
      cases A <;> cases B
      all_goals
        go_enter Try.func42, Try.ntmps42
        go_wp2_with fail
        go_ret
        exact ⟨by simp, hT⟩
    · have k2' : (tk == 2) = false := by simpa using k2
      have e : (decide (tk = 2) || (decide (tk = 1) && !td)) = false := by simp [k1, k2]
      rw [e]
      clear k1 k2 e
      cases A <;> cases B
      all_goals
        go_enter Try.func42, Try.ntmps42
        go_wp2_with fail
        go_ret
        exact ⟨by simp, hT⟩

def armS (s : St) (t : Tr) : St × Int :=
  if s.off then (s, 63) else if okTr t then ({ s with arms := s.arms ++ [((s.n : Int) + t.when, t)], m := s.m + 1 }, 0) else (s, 2)
set_option maxRecDepth 100000 in
set_option maxHeartbeats 4000000 in
theorem arm11 (hk : Dk w p K s) (hn : s.n < 4611686018427387904) (hm : s.m < 4611686018427387904) (t : Tr) :
    Calls Try.prog 13 #[ptr p, trV t] w fun e w' => e = .returned (.int .i64 (armS s t).2) ∧ Dk w' p K (armS s t).1 ∧ Turn K w w' := by
  obtain ⟨bf, bt, V, h⟩ := hk
  obtain ⟨tw, tk, td⟩ := t
  have T1 : Turn no w (w.alloc (.cells #[.int .i64 tw, .int .i64 tk, .bool td] 30)) := (Turn.refl no w).alloc _
  have r0 : Row (w.alloc (.cells #[.int .i64 tw, .int .i64 tk, .bool td] 30)) w.heap.size #[.int .i64 tw, .int .i64 tk, .bool td] 30 := Row.new w _ 30
  have h1 := h.turn T1 (fun _ _ q => q)
  have hmd := h1.made
  have c6 := h1.c6
  generalize hw1 : w.alloc (.cells #[.int .i64 tw, .int .i64 tk, .bool td] 30) = w1 at *
  have q0 := r0.cell 0 _ rfl
  have q1 := r0.cell 1 _ rfl
  have q2 := r0.cell 2 _ rfl
  have hit := isTrouble31 w1 ⟨tw, tk, td⟩
  cases hoff : s.off with
  | true =>
    have e : armS s ⟨tw, tk, td⟩ = (s, 63) := by simp [armS, hoff]
    rw [e]
    rw [hoff] at c6
    have fin : Dk w1 p K s ∧ Turn K w w1 := ⟨⟨_, _, _, h1⟩, T1.of_no⟩
    clear h h1 hit e
    unfold ptr trV at *
    go_enter Try.func13, Try.ntmps13
    go_wp2_with fail
    refine hmd.mono ?_
    rintro e w' ⟨rfl, rfl⟩
    go_wp2_with fail
    go_ret
    exact ⟨rfl, fin⟩
  | false =>
    rw [hoff] at c6
    cases hok : okTr ⟨tw, tk, td⟩ with
    | false =>
      have e : armS s ⟨tw, tk, td⟩ = (s, 2) := by simp [armS, hoff, hok]
      rw [e]
      rw [hok] at hit
      have fin : ∀ w2, Turn no w1 w2 → Dk w2 p K s ∧ Turn K w w2 := fun w2 t => ⟨⟨_, _, _, h1.turn t (fun _ _ q => q)⟩, (T1.then_no t).of_no⟩
      clear h h1 e
      unfold ptr trV at *
      go_enter Try.func13, Try.ntmps13
      go_wp2_with fail
      refine hmd.mono ?_
      rintro e w' ⟨rfl, rfl⟩
      go_wp2_with fail
      refine hit.mono ?_
      rintro e w2 ⟨rfl, t2⟩
      go_wp2_with fail
      go_ret
      exact ⟨rfl, fin _ t2⟩
    | true =>
      have hok' := hok
      simp only [okTr, Bool.and_eq_true, decide_eq_true_eq] at hok'
      obtain ⟨b, D, rfl, kb, hbf, o, tm⟩ := h1.on_troubles hoff
      have hbp : b ≠ p := row_not_map h1.row o
      obtain ⟨k, hkk⟩ : ∃ k : Int, k = (s.n : Int) + tw := ⟨_, rfl⟩
      have hw : IntKind.i64.wrap ((s.n : Int) + tw) = k := by rw [wrap_i64 (by omega) (by omega)]; exact hkk.symm
      rw [hok] at hit
      have hl := fun W (t : Turn no w1 W) => (arms_look (ownsMap_turn o t (fun q => q)) tm k (by omega) (by omega)).1
      obtain ⟨sw, sk, sd, hst⟩ : ∃ sw sk sd, stoodT s.arms k = Tr.mk sw sk sd := ⟨_, _, _, rfl⟩
      rw [hst] at hl
      simp only [trV] at hl
      have cc : ∀ W, Turn no w1 W → W.cell? ⟨p, 4, none⟩ = some (.int .i64 s.n) ∧ W.cell? ⟨p, 5, none⟩ = some (.map (some b)) ∧ W.cell? ⟨w.heap.size, 0, none⟩ = some (.int .i64 tw) ∧ W.cell? ⟨w.heap.size, 1, none⟩ = some (.int .i64 tk) ∧ W.cell? ⟨w.heap.size, 2, none⟩ = some (.bool td) := fun W t => ⟨(h1.row.turn t (fun q => q)).cell 4 _ rfl, (h1.row.turn t (fun q => q)).cell 5 _ rfl, (r0.turn t (fun q => q)).cell 0 _ rfl, (r0.turn t (fun q => q)).cell 1 _ rfl, (r0.turn t (fun q => q)).cell 2 _ rfl⟩
      have hgb : w.heap.size ≠ b := fun q => row_not_map r0 o q.symm
      have cc2 : ∀ W W', Turn no w1 W → Turn (fun q => q = b) W W' → W'.cell? ⟨p, 5, none⟩ = some (.map (some b)) ∧ W'.cell? ⟨w.heap.size, 0, none⟩ = some (.int .i64 tw) ∧ W'.cell? ⟨w.heap.size, 1, none⟩ = some (.int .i64 tk) ∧ W'.cell? ⟨w.heap.size, 2, none⟩ = some (.bool td) := fun W W' t t' => ⟨t'.keep (cc W t).2.1 (fun q => hbp q.symm), t'.keep (cc W t).2.2.1 hgb, t'.keep (cc W t).2.2.2.1 hgb, t'.keep (cc W t).2.2.2.2 hgb⟩
      have e : armS s ⟨tw, tk, td⟩ = ({ s with arms := s.arms ++ [(k, ⟨tw, tk, td⟩)], m := s.m + 1 }, 0) := by simp [armS, hoff, hok, hkk]
      rw [e]
      have hinv : Inv { s with arms := s.arms ++ [(k, Tr.mk tw tk td)], m := s.m + 1 } := by
        have q := h.inv
        refine ⟨q.sorted, q.names, q.sy, q.used, q.lim, q.count, fun a ha => ?_, q.out⟩
        rcases List.mem_append.1 ha with x | x
        · exact q.arms a x
        · simp at x; subst x; exact hok
      have HK : Hid (k = (s.n : Int) + tw) := hkk
      clear hkk e
      cases hat : (armAt k s.arms).isSome with
      | true =>
        rw [hat] at hl
        have fin : ∀ w2, Turn no w1 w2 → Dk w2 p K { s with arms := s.arms ++ [(k, Tr.mk tw tk td)], m := s.m + 1 } ∧ Turn K w w2 := fun w2 t => by
          have h2 := h1.turn t (fun _ _ q => q)
          refine ⟨⟨bf, some b, V, hinv, h2.row, h2.kp, h2.klt, h2.files, Or.inr ⟨hoff, b, D, rfl, kb, hbf, (ownsMap_turn o t (fun q => q)).mono (Nat.le_succ _), tm.same k _ (fun q => by rw [q] at hat; cases hat)⟩, h2.bytes, h2.owned, h2.apart⟩, (T1.then_no t).of_no⟩
        clear h h1 o tm hinv r0 hst
        unfold ptr trV at *
        go_enter Try.func13, Try.ntmps13
        go_wp2_with fail
        refine hmd.mono ?_
        rintro e w' ⟨rfl, rfl⟩
        go_wp2_with fail
        refine hit.mono ?_
        rintro e w2 ⟨rfl, t2⟩
        obtain ⟨d4, d5, d0, d1, d2⟩ := cc _ t2
        have cc' := fun n => cc _ (t2.drewN n)
        go_wp2_with fail
        go_quiet (fail)
        have t3 := t2.drewN nq
        clear cc'
        generalize w2.drewN nq = wd at *
        obtain ⟨d4', d5', d0', d1', d2'⟩ := cc _ t3
        have hl3 := hl _ t3
        have fin3 := fin _ (t3.alloc (.cells #[.int .i64 sw, .int .i64 sk, .bool sd] 30))
        go_wp2_with fail
        go_ret
        exact ⟨rfl, fin3⟩
      | false =>
        rw [hat] at hl
        have hnone : armAt k s.arms = none := by
          cases q : armAt k s.arms with
          | none => rfl
          | some x => rw [q] at hat; cases hat
        have hstore : ∀ w2, Turn no w1 w2 → ∃ w3, (Instr.mapUpdate 80 (.map (some b)) (.int .i64 k) (.agg #[.int .i64 tw, .int .i64 tk, .bool td])).run Try.prog w2 = .ok () w3 ∧ Turn (fun q => q = b) w2 w3 ∧ Dk w3 p K { s with arms := s.arms ++ [(k, Tr.mk tw tk td)], m := s.m + 1 } ∧ Turn K w w3 := fun w2 t => by
          have h2 := h1.turn t (fun _ _ q => q)
          have o2 := ownsMap_turn o t (fun q => q)
          obtain ⟨w3, hst3, o3, mt⟩ := o2.store law3 Try.underlying80 (by simp only [maxLen]; omega) (iKey_of k (by have := HK.out; omega) (by have := HK.out; omega)) (val := trV ⟨tw, tk, td⟩) (d := .held (trV ⟨tw, tk, td⟩)) (ps := []) rfl
          have t3 : Turn (fun q => q = b) w2 w3 := mapTurn mt
          refine ⟨w3, hst3, t3, ?_, ((T1.then_no t).of_no).trans t3 (fun _ _ q => by rw [q]; exact kb)⟩
          have tm' := tm.put k ⟨tw, tk, td⟩ hnone (by have := HK.out; omega) (by have := HK.out; omega)
          refine ⟨bf, some b, V, hinv, h2.row.turn t3 (fun q => hbp q.symm), h2.kp, fun k hk => Nat.lt_of_lt_of_le (h2.klt k hk) t3.size, ?_, Or.inr ⟨hoff, b, _, rfl, kb, hbf, o3, tm'⟩, fun f hf => (h2.bytes f hf).turn t3 (fun g hg q => ?_), h2.owned, h2.apart⟩
          · rcases h2.files with q | ⟨q, b', D', e, kb', o', fm⟩
            · exact Or.inl q
            · exact Or.inr ⟨q, b', D', e, kb', ownsMap_turn o' t3 (fun q => hbf (by rw [e, q])), fm⟩
          · subst q
            rcases (h2.bytes f hf).shape with ⟨e, _⟩ | ⟨g', cap, cur, e, ho', _⟩
            · rw [e] at hg; cases hg
            · rw [e] at hg; cases hg
              exact row_not_map ho' o2 rfl
        clear h h1 o tm hinv r0 hst
        unfold ptr trV at *
        go_enter Try.func13, Try.ntmps13
        go_wp2_with fail
        refine hmd.mono ?_
        rintro e w' ⟨rfl, rfl⟩
        go_wp2_with fail
        refine hit.mono ?_
        rintro e w2 ⟨rfl, t2⟩
        obtain ⟨d4, d5, d0, d1, d2⟩ := cc _ t2
        have cc' := fun n => cc _ (t2.drewN n)
        go_wp2_with fail
        go_quiet (fail)
        have t3 := t2.drewN nq
        clear cc'
        generalize w2.drewN nq = wd at *
        obtain ⟨d4', d5', d0', d1', d2'⟩ := cc _ t3
        have hl3 := hl _ t3
        have t4 := t3.alloc (.cells #[.int .i64 sw, .int .i64 sk, .bool sd] 30)
        obtain ⟨w5, hst5, t5, hD5, hT5⟩ := hstore _ t4.drew
        have HW5 : Hid (Turn (fun q => q = b) (wd.alloc (.cells #[.int .i64 sw, .int .i64 sk, .bool sd] 30)).drew w5) := t5
        clear t5
        go_wp2_with fail
        refine wp_region_noPanic ?_
        refine wp_region_held_drew (S := fun W => Turn (fun q => q = b) (wd.alloc (.cells #[.int .i64 sw, .int .i64 sk, .bool sd] 30)) W) (by kernel_rfl) (Turn.refl _ _).drew (fun hHeld => ?_)
        refine' wpAnyH_take (i := 0) (v := .pointer (some ⟨p, 0, none⟩)) rfl (by kernel_rfl) (by kernel_rfl) (by kernel_rfl) (fun _ _ _ h => h) (Or.inl ⟨by kernel_rfl, fun W hW => ?y1⟩) hHeld ?r1
        · go_simp
        refine' wpAnyH_take (i := 1) (v := .pointer (some ⟨p, 0, none⟩)) rfl (by kernel_rfl) (by kernel_rfl) (by kernel_rfl) (fun _ _ _ h => h) (Or.inl ⟨by kernel_rfl, fun W hW => ?y2⟩) hHeld ?r2
        · go_simp
        refine' wpAnyH_take (i := 2) (v := .pointer (some ⟨p, 5, none⟩)) rfl (by kernel_rfl) (by kernel_rfl) (by kernel_rfl) (fun _ _ _ h => h) (Or.inl ⟨by kernel_rfl, fun W hW => ?y3⟩) hHeld ?r3
        · go_simp
        refine' wpAnyH_take (i := 3) (v := .map (some b)) rfl (by kernel_rfl) (by kernel_rfl) (by kernel_rfl) (fun _ _ _ h => h) (Or.inl ⟨by kernel_rfl, fun W hW => ?y4⟩) hHeld ?r4
        · have c := (cc2 _ _ t4 hW).1
          go_simp
        refine' wpAnyH_take (i := 4) (v := .int .i64 k) rfl (by kernel_rfl) (by kernel_rfl) (by kernel_rfl) (fun _ _ _ h => h) (Or.inl ⟨by kernel_rfl, fun W hW => ?y5⟩) hHeld ?r5
        · go_simp
        refine' wpAnyH_take (i := 5) (v := .agg #[.int .i64 tw, .int .i64 tk, .bool td]) rfl (by kernel_rfl) (by kernel_rfl) (by kernel_rfl) (fun _ _ _ h => h) (Or.inl ⟨by kernel_rfl, fun W hW => ?y6⟩) hHeld ?r6
        · have c := (cc2 _ _ t4 hW).2.1
          have c1 := (cc2 _ _ t4 hW).2.2.1
          have c2 := (cc2 _ _ t4 hW).2.2.2
          go_simp
        refine wpAnyH_ready (rs := [6]) (by kernel_rfl) (by simp) ?_
        refine AllReadyH.cons rfl (fun K hK => ?_) AllReadyH.nil
        go_simp
        refine hK.out _ _ (((Turn.refl no _).drew.of_no).trans HW5.out (fun _ _ q => q)) (fun hHeld => ?_)
        clear hK
        refine wpAnyH_done (by kernel_rfl) ?_ _
        refine NoPanic.normal ?_
        go_wp2_with fail
        go_ret
        exact ⟨rfl, hD5, hT5⟩
end
end Go.Proofs.Ytcdogciacchigab
