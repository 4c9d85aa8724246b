/- New of both, with the memory that its list lies in. -/
import Derived.Test.YtaoigopjfelgpaaGreatDoorC1
import Derived.Test.YtaoigopjfelgpaaGreatDoorKN
namespace Go.Proofs.YtaoigopjfelgpaaGreatDoor
open Go.RowKit
set_option linter.unusedVariables false

set_option maxRecDepth 100000 in
set_option maxHeartbeats 4000000 in
theorem new5f (w : World) (va : Value) (l : List Ac) (ha : As w va l) (hl : l.length * 40 ≤ 140737488355328) : Calls Tryz.prog 5 #[va] w fun e w' =>
    (newE l = 0 ∧ ∃ v', e = .returned (.tuple #[.agg #[v', .slice none 0 0, .int .u64 0, .int .u64 (sumN 0 l [])], .int .i64 0]) ∧ OwnN w' 50 5 v' l.length (acC l) ∧ (∀ g, v'.ownBlock = some g → w.heap.size ≤ g) ∧ Turn no w w') ∨
    (newE l ≠ 0 ∧ e = .returned (.tuple #[.agg #[.slice none 0 0, .slice none 0 0, .int .u64 0, .int .u64 0], .int .i64 (newE l)]) ∧ Turn no w w') := by
  have hok : ∀ m ∈ l, m.ok := by
    obtain ⟨_, _, _, h⟩ := ha
    exact h.ok
  obtain ⟨w1, hw1⟩ : ∃ w1, w1 = w.alloc (.cells #[.slice none 0 0, .slice none 0 0, .int .u64 0, .int .u64 0] 30) := ⟨_, rfl⟩
  have t1 : Turn no w w1 := by rw [hw1]; exact (Turn.refl no w).alloc _
  have s1 : w.heap.size < w1.heap.size := by rw [hw1]; simp
  have R1 : w1.heap[w.heap.size]? = some (.cells #[.slice none 0 0, .slice none 0 0, .int .u64 0, .int .u64 0] 30 (0, 0)) := by rw [hw1]; exact heap_alloc_new w _
  have c1 := accounts22 w1 va l (ha.turn_no t1)
  have HA := shut ha
  have HNE : Shut (newE l = if accE l ≠ 0 then accE l else if 1152921504606846975 < sumN 0 l [] then 87 else 0) := rfl
  obtain ⟨a, cap, rfl, _⟩ := ha
  generalize newE l = NE at *
  generalize accE l = E at *
  go_enter Tryz.func5, Tryz.ntmps5
  go_wp2_with fail
  try rw [← hw1]
  refine c1.mono ?_
  rintro e w2 ⟨rfl, t2⟩
  have R2 := t2.obj R1 (fun q => q)
  clear c1
  by_cases hE : E = 0
  · subst hE
    have HN2 : Shut (NE = if 1152921504606846975 < sumN 0 l [] then 87 else 0) := by
      have := HNE.out
      rw [if_neg (by simp)] at this
      exact this
    clear HNE
    obtain ⟨w3, hw3⟩ : ∃ w3, w2.alloc (.cells #[.slice none 0 0, .slice none 0 0, .int .u64 0, .int .u64 0] 30) = w3 := ⟨_, rfl⟩
    have t3 : Turn no w2 w3 := by rw [← hw3]; exact (Turn.refl no w2).alloc _
    have t13 := (t1.then_no t2).then_no t3
    have R3 : w3.heap[w2.heap.size]? = some (.cells #[.slice none 0 0, .slice none 0 0, .int .u64 0, .int .u64 0] 30 (0, 0)) := by rw [← hw3]; exact heap_alloc_new w2 _
    have hsrc : Src Tryz.prog 5 22 (.slice a l.length cap) l.length (acC l) w3 := by
      obtain ⟨x, y, e, h⟩ := HA.out.turn_no t13
      cases e
      cases a with
      | some q => exact h.src
      | none =>
        have h0 : l = [] := by
          cases l with
          | nil => rfl
          | cons m r =>
            obtain ⟨_, _, e, _⟩ := h.cells 0 m rfl
            cases e
        subst h0
        exact Src.ofNil _ Tryz.underlying22 cap
    have y0 : w3.cell? ⟨w2.heap.size, 0, none⟩ = some (.slice none 0 0) := cell_of_row _ _ 0 _ 30 (0, 0) R3
    have hle : l.length ≤ maxLen := by unfold maxLen; omega
    have hs2 : w.heap.size < w2.heap.size := by have := t2.size; omega
    have HR1 := shut (t3.obj R2 (fun q => q))
    have HR3 := shut R3
    have HOK := shut hok
    have HT13 := shut t13
    have HW3 : Shut (w2.heap.size < w3.heap.size) := by show _ < _; rw [← hw3]; simp
    clear R1 R2 R3 hok t13 t3 t2 t1 s1
    obtain ⟨n, hn⟩ : ∃ n, Hid (l.length = n) := ⟨_, rfl⟩
    have hn' : l.length = n := hn.out
    rw [hn'] at hle hsrc hl
    have hb : (0 + n) * 40 ≤ 140737488355328 := by omega
    have hm : 0 + n ≤ maxLen := by omega
    rw [hn']
    clear hn' hw1
    go_upto_region 6 with (at_builtin; refine wpList_append_srcN rfl _ _ rfl Tryz.underlying22 info39 rfl (by omega) (.slice none 0 0) 0 [] rfl (OwnN.nil _ 50 5) _ n (acC l) rfl hsrc hb hm ?_; intro v2 w4 O2 G2; obtain ⟨a2, cap2, e2, _⟩ := id O2.form; (subst e2); (have T4 : Turn no w3 w4 := G2.turn.mono (fun k _ e => by cases e)); have R4 := T4.obj HR3.out (fun q => q); (have z0 := cell_of_row _ _ 0 _ 30 (0, 0) R4); (have zf := frozen_of_row _ _ 0 _ 30 R4); (rw [Nat.zero_add] at *); clear hsrc hb hm y0)
    obtain ⟨w5, hw5⟩ : ∃ w5, w4.setCell ⟨w2.heap.size, 0, none⟩ (.slice a2 n cap2) = w5 := ⟨_, rfl⟩
    rw [hw5]
    have R5 : w5.heap[w2.heap.size]? = some (.cells #[.slice a2 n cap2, .slice none 0 0, .int .u64 0, .int .u64 0] 30 (0, 0)) := by rw [← hw5]; exact heap_setCell_same w4 w2.heap.size 0 _ 30 _ R4
    have t5 : Turn (fun k => k = w2.heap.size) w4 w5 := by rw [← hw5]; exact (Turn.refl (fun k => k = w2.heap.size) w4).setCell (p := ⟨w2.heap.size, 0, none⟩) (fun _ => rfl) _
    have A4 : As w4 (.slice a2 n cap2) l := by
      have h : OwnN w4 50 5 (.slice a2 n cap2) l.length (acC l) := by rw [hn.out]; exact O2
      exact h.as HOK.out
    have A5 : As w5 (.slice a2 n cap2) l := by
      obtain ⟨x, y, e, h⟩ := A4
      refine ⟨x, y, e, h.turn t5 (fun q hq z => ?_)⟩
      have ea : a2 = x := by simp at e; exact e.1
      have := G2.fresh (B := w3.heap.size) (fun g hg => by cases hg) (Nat.le_refl _) q.block (by rw [ea, hq]; rfl)
      have := HW3.out
      have : q.block = w2.heap.size := z
      omega
    have HF : Shut (∀ g, (Value.slice a2 n cap2).ownBlock = some g → w3.heap.size ≤ g) := shut (G2.fresh (B := w3.heap.size) (fun g hg => by cases hg) (Nat.le_refl _))
    have HO5 : Shut (OwnN w5 50 5 (.slice a2 n cap2) n (acC l)) := shut (O2.turn t5 (fun g hg e => by
      have e' : g = w2.heap.size := e
      have := HF.out g hg
      have := HW3.out
      omega))
    have c2 := sum23_nil w5 _ l A5 0 0
    have c2 : Calls Tryz.prog 21 #[.agg #[.slice a2 n cap2, .slice none 0 0, .int .u64 0, .int .u64 0]] w5 fun e w' => e = .returned (.int .u64 (sumN 0 l [])) ∧ Turn no w5 w' := c2
    have HA5 := shut A5
    have HFR : Shut (∀ q, a2 = some q → w3.heap.size ≤ q.block) := fun q hq => G2.fresh (B := w3.heap.size) (fun g hg => by cases hg) (Nat.le_refl _) q.block (by rw [hq]; rfl)
    generalize hS : sumN 0 l [] = S at *
    have HS := shut hS
    clear hS
    have x0 : w5.cell? ⟨w2.heap.size, 0, none⟩ = some (.slice a2 n cap2) := cell_of_row _ _ 0 _ 30 (0, 0) R5
    have x1 : w5.cell? ⟨w2.heap.size, 1, none⟩ = some (.slice none 0 0) := cell_of_row _ _ 1 _ 30 (0, 0) R5
    have x2 : w5.cell? ⟨w2.heap.size, 2, none⟩ = some (.int .u64 0) := cell_of_row _ _ 2 _ 30 (0, 0) R5
    have x3 : w5.cell? ⟨w2.heap.size, 3, none⟩ = some (.int .u64 0) := cell_of_row _ _ 3 _ 30 (0, 0) R5
    have HR5 := shut R5
    have HT5 : Shut (Turn (fun k => k = w2.heap.size) w3 w5) := T4.of_no.trans t5 (fun _ _ q => q)
    clear R5 t5 A4 A5 R4 z0 zf O2 G2 T4 hw5 hw3
    go_wp2_with fail
    refine c2.mono ?_
    rintro e w6 ⟨rfl, t6⟩
    have R6 := t6.obj HR5.out (fun q => q)
    have y3 := cell_of_row _ _ 3 _ 30 (0, 0) R6
    have f3 := frozen_of_row _ _ 3 _ 30 R6
    obtain ⟨w7, hw7⟩ : ∃ w7, w6.setCell ⟨w2.heap.size, 3, none⟩ (.int .u64 S) = w7 := ⟨_, rfl⟩
    have R7 : w7.heap[w2.heap.size]? = some (.cells #[.slice a2 n cap2, .slice none 0 0, .int .u64 0, .int .u64 S] 30 (0, 0)) := by rw [← hw7]; exact heap_setCell_same w6 w2.heap.size 3 _ 30 _ R6
    have t7 : Turn (fun k => k = w2.heap.size) w6 w7 := by rw [← hw7]; exact (Turn.refl (fun k => k = w2.heap.size) w6).setCell (p := ⟨w2.heap.size, 3, none⟩) (fun _ => rfl) _
    have T7 : Turn (fun k => k = w2.heap.size) w3 w7 := (HT5.out.then_no t6).trans t7 (fun _ _ q => q)
    have q0 := cell_of_row _ _ 0 _ 30 (0, 0) R7
    have q1 := cell_of_row _ _ 1 _ 30 (0, 0) R7
    have q2 := cell_of_row _ _ 2 _ 30 (0, 0) R7
    have q3 := cell_of_row _ _ 3 _ 30 (0, 0) R7
    have RZ := T7.obj HR1.out (fun q => by omega)
    have TZ : Turn no w w7 := HT13.out.trans T7 (fun k hk q => by omega)
    have HA7 : Shut (As w7 (.slice a2 n cap2) l) := by
      obtain ⟨x, y, e, h⟩ := HA5.out
      refine ⟨x, y, e, (h.turn_no t6).turn t7 (fun q hq z => ?_)⟩
      have ea : a2 = x := by simp at e; exact e.1
      have := HFR.out q (by rw [ea, hq])
      have := HW3.out
      have : q.block = w2.heap.size := z
      omega
    have HO7 : Shut (OwnN w7 50 5 (.slice a2 n cap2) n (acC l)) := shut ((HO5.out.turn_no t6).turn t7 (fun g hg e => by
      have e' : g = w2.heap.size := e
      have := HF.out g hg
      have := HW3.out
      omega))
    have HS2 := shut hs2
    clear x0 x1 x2 x3 R6 R7 t7 T7 t6 c2
    by_cases hq : 1152921504606846975 < S
    · have hq' : (1152921504606846975 : Int) < (S : Int) := by omega
      have HX : Shut (NE = 87) := by have := HN2.out; rw [if_pos hq] at this; exact this
      obtain ⟨⟨p0, p1⟩, ⟨p2, p3⟩, ⟨p4, p5⟩, ⟨p6, p7⟩, RF, TS⟩ := store4 RZ (.slice none 0 0) (.slice none 0 0) (.int .u64 0) (.int .u64 0)
      have HRF := shut RF
      have HTF := shut (TZ.trans TS (fun k hk q => by omega))
      clear RF TS RZ TZ hq HN2
      go_wp2_with fail
      refine ⟨rfl, _, results_cell_row_tmp (g := w.heap.size) (cs := #[.slice none 0 0, .slice none 0 0, .int .u64 0, .int .u64 0]) (t := 30) rfl _ _ _ _ rfl HRF.out Tryz.underlying30 rfl (by kernel_rfl), Or.inr ⟨by rw [HX.out]; decide, by rw [HX.out]; rfl, HTF.out⟩⟩
    · have hq' : ¬ (1152921504606846975 : Int) < (S : Int) := by omega
      have HX : Shut (NE = 0) := by have := HN2.out; rw [if_neg hq] at this; exact this
      obtain ⟨⟨p0, p1⟩, ⟨p2, p3⟩, ⟨p4, p5⟩, ⟨p6, p7⟩, RF, TS⟩ := store4 RZ (.slice a2 n cap2) (.slice none 0 0) (.int .u64 0) (.int .u64 S)
      have HRF := shut RF
      have HTF := shut (TZ.trans TS (fun k hk q => by omega))
      have HO8 := shut (HO7.out.turn TS (fun g hg e => by
        have e' : g = w.heap.size := e
        have h1 := HF.out g hg
        have h2 := HW3.out
        have h3 := HS2.out
        omega))
      have HF8 : Shut (∀ g, (Value.slice a2 n cap2).ownBlock = some g → w.heap.size ≤ g) := shut (fun g hg => by
        have h1 := HF.out g hg
        have h2 := HW3.out
        have h3 := HS2.out
        omega)
      clear RF TS RZ TZ hq HN2
      go_wp2_with fail
      refine ⟨rfl, _, results_cell_row_tmp (g := w.heap.size) (cs := #[.slice a2 n cap2, .slice none 0 0, .int .u64 0, .int .u64 S]) (t := 30) rfl _ _ _ _ rfl HRF.out Tryz.underlying30 rfl (by kernel_rfl), Or.inl ⟨HX.out, _, by rw [HS.out]; rfl, (by rw [hn.out]; exact HO8.out), HF8.out, HTF.out⟩⟩
  · have hE' : (E != 0) = true := by simpa using hE
    have HN2 : Shut (NE = E) := by
      have := HNE.out
      rw [if_pos hE] at this
      exact this
    obtain ⟨⟨p0, p1⟩, ⟨p2, p3⟩, ⟨p4, p5⟩, ⟨p6, p7⟩, RF, TS⟩ := store4 R2 (.slice none 0 0) (.slice none 0 0) (.int .u64 0) (.int .u64 0)
    have HRF := shut RF
    have HTF := shut ((t1.then_no t2).trans TS (fun k hk q => by omega))
    clear RF TS R1 R2 HNE
    go_wp2_with fail
    refine ⟨rfl, _, results_cell_row_tmp (g := w.heap.size) (cs := #[.slice none 0 0, .slice none 0 0, .int .u64 0, .int .u64 0]) (t := 30) rfl _ _ _ _ rfl HRF.out Tryz.underlying30 rfl (by kernel_rfl), Or.inr ⟨by rw [HN2.out]; exact hE, by rw [HN2.out]; rfl, HTF.out⟩⟩
/-- What New made of a list, of both sides, in memory of its own, new since B. -/
def NewO (w : World) (B : Nat) (l : List Ac) (v : Value) (q : Nat) (e : Int) : Prop := e = newE l ∧ ((newE l = 0 ∧ OwnN w 50 5 v l.length (acC l) ∧ (∀ g, v.ownBlock = some g → B ≤ g) ∧ q = sumN 0 l []) ∨ (newE l ≠ 0 ∧ v = .slice none 0 0 ∧ q = 0))
theorem new5o (w : World) (va : Value) (l : List Ac) (ha : As w va l) (hl : l.length * 40 ≤ 140737488355328) : Calls Tryz.prog 5 #[va] w fun e w' => ∃ v q k, e = .returned (.tuple #[.agg #[v, .slice none 0 0, .int .u64 0, .int .u64 (q : Nat)], .int .i64 k]) ∧ NewO w' w.heap.size l v q k ∧ Turn no w w' := by
  refine (new5f w va l ha hl).mono ?_
  rintro e w' (⟨h1, v, rfl, O, f, t⟩ | ⟨h1, rfl, t⟩)
  · exact ⟨v, _, 0, rfl, ⟨h1.symm, Or.inl ⟨h1, O, f, rfl⟩⟩, t⟩
  · exact ⟨_, 0, _, rfl, ⟨rfl, Or.inr ⟨h1, rfl, rfl⟩⟩, t⟩
theorem new6o (w : World) (va : Value) (l : List Ac) (ha : As w va l) (hl : l.length * 40 ≤ 140737488355328) : Calls Tryz.prog 6 #[va] w fun e w' => ∃ v q k, e = .returned (.tuple #[.agg #[v, .slice none 0 0, .int .u64 0, .int .u64 (q : Nat)], .int .i64 k]) ∧ NewO w' w.heap.size l v q k ∧ Turn no w w' := by
  refine (new6 w va l ha hl).mono ?_
  rintro e w' (⟨h1, v, rfl, O, f, t⟩ | ⟨h1, rfl, t⟩)
  · have hE : newE l = 0 := by rw [← new_same]; exact h1
    exact ⟨v, _, 0, rfl, ⟨hE.symm, Or.inl ⟨hE, O, f, (new_sum hE).1.symm⟩⟩, t⟩
  · have hE : newE l ≠ 0 := by rw [← new_same]; exact h1
    exact ⟨_, 0, _, rfl, ⟨new_same l, Or.inr ⟨hE, rfl, rfl⟩⟩, t⟩
end Go.Proofs.YtaoigopjfelgpaaGreatDoor

