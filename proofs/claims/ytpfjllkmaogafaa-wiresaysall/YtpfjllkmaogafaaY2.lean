/- The document's Read: take, where there is enough; number. -/
import Derived.Test.YtpfjllkmaogafaaY1
import Derived.Deep.RegionHeld
namespace Go.Proofs.Ytpfjllkmaogafaa
open Go.RowKit
set_option linter.unusedVariables false

theorem Own.cut {w : World} {v : Value} {bs : List UInt8} (h : Own w 5 v (bs.map bv)) (g N cap : Nat) (hv : v = .slice (some ⟨g, 0, none⟩) N cap) (i n o : Nat) (hn : i + n ≤ bs.length) (ho : o = i ∨ n = 0) :
    Src Try.prog 1 36 (.slice (some ⟨g, o, none⟩) n (cap - i)) n (((bs.take (i + n)).drop i).map bv) w := by
  subst hv
  refine Src.ofSlice w Try.underlying36 ⟨g, o, none⟩ n (cap - i) _ (by simp; omega) (fun j u hu => ?_) (bv_one _)
  rw [List.getElem?_map, List.getElem?_drop, List.getElem?_take] at hu
  split at hu
  · rcases ho with rfl | rfl
    · rw [Addr.add_lit]
      exact h.cell (o + j) u (by rw [List.getElem?_map]; exact hu)
    · omega
  · cases hu
set_option maxRecDepth 100000 in
set_option maxHeartbeats 4000000 in
theorem take100_some (w : World) (q : Nat) (bs : List UInt8) (i g cap : Nat) (h : Rq w q (.slice (some ⟨g, 0, none⟩) bs.length cap) bs i 0) (n : Nat) (hn : i + n ≤ bs.length) (hle : bs.length ≤ 140737488355328) :
    Calls Try.prog 125 #[.pointer (some ⟨q, 0, none⟩), .int .i64 n] w fun e w' => ∃ v', e = .returned (.tuple #[v', .bool true]) ∧ Own w' 5 v' (((bs.take (i + n)).drop i).map bv) ∧ (∀ g, v'.ownBlock = some g → w.heap.size ≤ g) ∧ Rq w' q (.slice (some ⟨g, 0, none⟩) bs.length cap) bs (i + n) 0 ∧ Turn (fun k => k = q) w w' := by
  have c0 := h.c0
  have c1 := h.c1
  have c2 := h.c2
  have hile := h.le
  have hcap : bs.length ≤ cap := by
    rcases h.own.shape with ⟨e, _⟩ | ⟨_, _, _, e, _, h1, _⟩
    · cases e
    · simp at e; rw [e.2]; simpa using h1
  obtain ⟨N, hN⟩ : ∃ N, bs.length = N := ⟨_, rfl⟩
  obtain ⟨o, ho⟩ : ∃ o, o = if cap = i then 0 else i := ⟨_, rfl⟩
  have ho2 : o = i ∨ n = 0 := by
    rw [ho]
    split
    · right; omega
    · left; rfl
  have hsr := fun W (t : Turn no w W) => Own.cut (h.own.turn_no t) g bs.length cap rfl i n o hn ho2
  have HO := shutX ho
  clear ho ho2
  have Hc := shutX (fun W (t : Turn no w W) => And.intro (h.turn_no t).c0 (And.intro (h.turn_no t).c1 ((h.turn_no t).f 1)))
  have HR := shutX (fun W (t : Turn no w W) => And.intro ((h.turn_no t).at1 (i + n) hn) ((t.of_no (S := fun k => k = q)).trans (set_turn W q 1 (.int .i64 ((i + n : Nat) : Int))) (fun _ _ q => q)))
  have hq : q < w.heap.size := h.lt
  have hl : ((bs.take (i + n)).drop i).length = n := by simp; omega
  clear h
  generalize hX : (bs.take (i + n)).drop i = X at *
  clear hX
  rw [hN] at Hc HR c0 hn hle hile hcap ⊢
  have Hsr := shutX hsr
  clear hsr hN
  have hgt : ¬ ((N : Int) - (i : Int) < (n : Int)) := by omega
  have hd : decide ((N : Int) - (i : Int) < (n : Int)) = false := by simpa using hgt
  have hin : (i : Int) + (n : Int) ≤ (N : Int) := by omega
  have hin2 : (i : Int) + (n : Int) ≤ (cap : Int) := by omega
  have hin3 : (i : Int) ≤ (i : Int) + (n : Int) := by omega
  have hsub : (i : Int) + (n : Int) - (i : Int) = (n : Int) := by omega
  go_enter Try.func125, Try.ntmps125
  go_upto_region 3 with fail
  go_quiet (fail)
  go_upto_region 6 with fail
  refine wp_region_held_drew (S := fun W => Turn no w W) (by kernel_rfl) ((Turn.refl _ w).drewN _).drew (fun hHeld => ?_)
  refine' wpAnyH_take (i := 1) (v := .pointer (some ⟨q, 0, none⟩)) rfl (by kernel_rfl) (by kernel_rfl) (by kernel_rfl) (fun _ _ _ h => h) (Or.inl ⟨by kernel_rfl, fun W hW => ?y1⟩) hHeld ?r1
  · go_simp
  refine' wpAnyH_take (i := 2) (v := .pointer (some ⟨q, 0, none⟩)) rfl (by kernel_rfl) (by kernel_rfl) (by kernel_rfl) (fun _ _ _ h => h) (Or.inl ⟨by kernel_rfl, fun W hW => ?y2⟩) hHeld ?r2
  · go_simp
  refine' wpAnyH_take (i := 3) (v := .pointer (some ⟨q, 0, none⟩)) rfl (by kernel_rfl) (by kernel_rfl) (by kernel_rfl) (fun _ _ _ h => h) (Or.inl ⟨by kernel_rfl, fun W hW => ?y3⟩) hHeld ?r3
  · go_simp
  refine' wpAnyH_take (i := 4) (v := .slice (some ⟨g, 0, none⟩) N cap) rfl (by kernel_rfl) (by kernel_rfl) (by kernel_rfl) (fun _ _ _ h => h) (Or.inl ⟨by kernel_rfl, fun W hW => ?y4⟩) hHeld ?r4
  · obtain ⟨x0, x1, xf⟩ := Hc.out W hW
    go_simp
  refine' wpAnyH_take (i := 5) (v := .pointer (some ⟨q, 0, none⟩)) rfl (by kernel_rfl) (by kernel_rfl) (by kernel_rfl) (fun _ _ _ h => h) (Or.inl ⟨by kernel_rfl, fun W hW => ?y5⟩) hHeld ?r5
  · go_simp
  refine' wpAnyH_take (i := 6) (v := .pointer (some ⟨q, 0, none⟩)) rfl (by kernel_rfl) (by kernel_rfl) (by kernel_rfl) (fun _ _ _ h => h) (Or.inl ⟨by kernel_rfl, fun W hW => ?y6⟩) hHeld ?r6
  · go_simp
  refine' wpAnyH_take (i := 7) (v := .pointer (some ⟨q, 1, none⟩)) rfl (by kernel_rfl) (by kernel_rfl) (by kernel_rfl) (fun _ _ _ h => h) (Or.inl ⟨by kernel_rfl, fun W hW => ?y7⟩) hHeld ?r7
  · go_simp
  refine' wpAnyH_take (i := 8) (v := .int .i64 i) rfl (by kernel_rfl) (by kernel_rfl) (by kernel_rfl) (fun _ _ _ h => h) (Or.inl ⟨by kernel_rfl, fun W hW => ?y8⟩) hHeld ?r8
  · obtain ⟨x0, x1, xf⟩ := Hc.out W hW
    go_simp
  refine' wpAnyH_take (i := 9) (v := .pointer (some ⟨q, 0, none⟩)) rfl (by kernel_rfl) (by kernel_rfl) (by kernel_rfl) (fun _ _ _ h => h) (Or.inl ⟨by kernel_rfl, fun W hW => ?y9⟩) hHeld ?r9
  · go_simp
  refine' wpAnyH_take (i := 10) (v := .pointer (some ⟨q, 0, none⟩)) rfl (by kernel_rfl) (by kernel_rfl) (by kernel_rfl) (fun _ _ _ h => h) (Or.inl ⟨by kernel_rfl, fun W hW => ?y10⟩) hHeld ?r10
  · go_simp
  refine' wpAnyH_take (i := 11) (v := .pointer (some ⟨q, 1, none⟩)) rfl (by kernel_rfl) (by kernel_rfl) (by kernel_rfl) (fun _ _ _ h => h) (Or.inl ⟨by kernel_rfl, fun W hW => ?y11⟩) hHeld ?r11
  · go_simp
  refine' wpAnyH_take (i := 12) (v := .int .i64 i) rfl (by kernel_rfl) (by kernel_rfl) (by kernel_rfl) (fun _ _ _ h => h) (Or.inl ⟨by kernel_rfl, fun W hW => ?y12⟩) hHeld ?r12
  · obtain ⟨x0, x1, xf⟩ := Hc.out W hW
    go_simp
  refine' wpAnyH_take (i := 13) (v := .int .i64 n) rfl (by kernel_rfl) (by kernel_rfl) (by kernel_rfl) (fun _ _ _ h => h) (Or.inl ⟨by kernel_rfl, fun W hW => ?y13⟩) hHeld ?r13
  · go_simp
  refine' wpAnyH_take (i := 14) (v := .int .i64 ((i : Int) + (n : Int))) rfl (by kernel_rfl) (by kernel_rfl) (by kernel_rfl) (fun _ _ _ h => h) (Or.inl ⟨by kernel_rfl, fun W hW => ?y14⟩) hHeld ?r14
  · go_simp
    rw [IntKind.wrap_i64]
    omega
  refine' wpAnyH_take (i := 15) (v := .slice (some ⟨g, o, none⟩) n (cap - i)) rfl (by kernel_rfl) (by kernel_rfl) (by kernel_rfl) (fun _ _ _ h => h) (Or.inl ⟨by kernel_rfl, fun W hW => ?y15⟩) hHeld ?r15
  · go_simp
    (refine ⟨by rw [HO.out]; split <;> rfl, by omega⟩)
  refine wpAnyH_ready (rs := [0]) (by kernel_rfl) (by simp) ?_
  refine AllReadyH.cons rfl (fun K hK => ?_) AllReadyH.nil
  go_simp
  refine hK.out _ _ (hHeld.alloc _) (fun hHeld2 => ?_)
  clear hK
  refine wpAnyH_ready (rs := [16]) (by kernel_rfl) (by simp) ?_
  refine AllReadyH.cons rfl (fun K hK => ?_) AllReadyH.nil
  refine step_append_src rfl (.tmp 27) (.tmp 42) rfl Try.underlying36 Try.info5 rfl (.slice (some ⟨(w.drewN nq).drew.heap.size, 0, none⟩) 0 0) [] (by simp [Act.eval]) (own_empty _ 5) _ n (X.map bv) (by simp [Act.eval]) (Hsr.out _ hHeld2) (by simp; omega) (by simp [maxLen]; omega) ?_
  intro v1 w1 o1 g1
  have F1 := ((fr_empty _).append (ys := X) (Turn.refl _ _) o1 g1).pre hHeld
  obtain ⟨ad, ln, cp, rfl⟩ := o1.form
  refine hK.out _ _ F1.turn (fun hHeld3 => ?_)
  clear hK
  refine wpAnyH_ready (rs := [17]) (by kernel_rfl) (by simp) ?_
  refine AllReadyH.cons rfl (fun K hK => ?_) AllReadyH.nil
  go_simp
  refine hK.out _ _ hHeld3 (fun hHeld4 => ?_)
  clear hK
  refine wpAnyH_done (by kernel_rfl) ?_ _
  obtain ⟨x0, x1, xf⟩ := Hc.out w1 F1.turn
  go_wp2_with fail
  go_ret2
  obtain ⟨r1, r2⟩ := HR.out w1 F1.turn
  simp only [Int.natCast_add] at r1 r2
  exact ⟨_, rfl, by simpa using F1.own.turn (set_turn w1 q 1 _) (fun g hg r => by have := F1.new g hg; omega), F1.new, r1, r2⟩
theorem take100_ok (w : World) (q : Nat) (v : Value) (bs : List UInt8) (i : Nat) (h : Rq w q v bs i 0) (n : Nat) (hn : i + n ≤ bs.length) (hle : bs.length ≤ 140737488355328) :
    Calls Try.prog 125 #[.pointer (some ⟨q, 0, none⟩), .int .i64 n] w fun e w' => ∃ v', e = .returned (.tuple #[v', .bool true]) ∧ Own w' 5 v' (((bs.take (i + n)).drop i).map bv) ∧ (∀ g, v'.ownBlock = some g → w.heap.size ≤ g) ∧ Rq w' q v bs (i + n) 0 ∧ Turn (fun k => k = q) w w' := by
  obtain ⟨g, cap, rfl⟩ := h.nn
  exact take100_some w q bs i g cap h n hn hle
end Go.Proofs.Ytpfjllkmaogafaa

