/- Of the law: told; two pairs. -/
import Derived.Test.YtcdogciacchigacZz0
namespace Go.Proofs.Ytcdogciacchigac
open Go.RowKit Go.Maps
set_option linter.unusedVariables false

section
variable {w : World} {p q : Nat} {K L : Nat → Prop} {s : St}
set_option maxRecDepth 100000 in
set_option maxHeartbeats 8000000 in
theorem told9 (hD : Dk w p K s) (hR : Rk w q L s) : Calls Try.prog 9 #[.agg #[ptr p, ptr q]] w fun e w' => e = .returned (.bool true) ∧ Turn no w w' := by
  obtain ⟨w3, hw3⟩ : ∃ w3, w.alloc (.cells #[ptr p, ptr q] 33) = w3 := ⟨_, rfl⟩
  have T3 : Turn no w w3 := by rw [← hw3]; exact (Turn.refl no w).alloc _
  have r3 : Row w3 w.heap.size #[ptr p, ptr q] 33 := by rw [← hw3]; exact Row.new w _ 33
  have hon := fun W (t : Turn no w3 W) => on13 ((hD.turn_no T3).turn_no t)
  have hca := fun W (t : Turn no w3 W) => calls14 ((hD.turn_no T3).turn_no t)
  have hon2 := fun W (t : Turn no w3 W) => on61 ((hR.turn_no T3).turn_no t)
  have hca2 := fun W (t : Turn no w3 W) => calls60 ((hR.turn_no T3).turn_no t)
  have hnA := fun W (t : Turn no w3 W) => names29 ((hD.turn_no T3).turn_no t)
  have hnB := fun W (t : Turn no w3 W) => rnames35 ((hR.turn_no T3).turn_no t)
  have hlen : (if s.off then [] else s.fs.map Pf.nm).length ≤ 65536 := by
    obtain ⟨_, _, _, hd⟩ := hD
    have := hd.inv.count
    split <;> simp <;> omega
  generalize (if s.off then [] else s.fs.map Pf.nm) = NM at *
  generalize (!s.off) = ON at *
  generalize s.n = CN at *
  have HON := shut hon
  have HCA := shut hca
  have HON2 := shut hon2
  have HCA2 := shut hca2
  have HNA := shut hnA
  have HNB := shut hnB
  have HLEN := shut hlen
  have hcell : ∀ W, Turn no w3 W → W.cell? ⟨w.heap.size, 0, none⟩ = some (.pointer (some ⟨p, 0, none⟩)) ∧ W.cell? ⟨w.heap.size, 1, none⟩ = some (.pointer (some ⟨q, 0, none⟩)) := fun W t => ⟨(r3.turn t (fun e => e)).cell 0 _ rfl, (r3.turn t (fun e => e)).cell 1 _ rfl⟩
  have HC := shut hcell
  have HT3 := shut T3
  clear hD hR hon hca hon2 hca2 hnA hnB hlen T3 r3 hcell
  unfold ptr at *
  go_enter Try.func9, Try.ntmps9
  go_wp2_with fail
  try rw [hw3]
  refine wp_region_noPanic ?_
  refine wp_region_held_drew (S := fun W => Turn no w3 W) (by kernel_rfl) (Turn.refl _ w3).drew (fun hHeld => ?_)
  refine' wpAnyH_take (i := 0) (v := .pointer (some ⟨w.heap.size, 0, none⟩)) rfl (by kernel_rfl) (by kernel_rfl) (by kernel_rfl) (fun _ _ _ h => h) (Or.inl ⟨by kernel_rfl, fun W hW => ?y1⟩) hHeld ?r1
  · go_simp
  refine' wpAnyH_take (i := 1) (v := .pointer (some ⟨p, 0, none⟩)) rfl (by kernel_rfl) (by kernel_rfl) (by kernel_rfl) (fun _ _ _ h => h) (Or.inl ⟨by kernel_rfl, fun W hW => ?y2⟩) hHeld ?r2
  · have z := (HC.out W hW).1
    go_simp
  refine' wpAnyH_take (i := 3) (v := .pointer (some ⟨w.heap.size, 1, none⟩)) rfl (by kernel_rfl) (by kernel_rfl) (by kernel_rfl) (fun _ _ _ h => h) (Or.inl ⟨by kernel_rfl, fun W hW => ?y3⟩) hHeld ?r3
  · go_simp
  refine' wpAnyH_take (i := 4) (v := .pointer (some ⟨q, 0, none⟩)) rfl (by kernel_rfl) (by kernel_rfl) (by kernel_rfl) (fun _ _ _ h => h) (Or.inl ⟨by kernel_rfl, fun W hW => ?y4⟩) hHeld ?r4
  · have z := (HC.out W hW).2
    go_simp
  refine wpAnyH_ready (rs := [2]) (by kernel_rfl) (by simp) ?_
  refine AllReadyH.cons rfl (fun K hK => ?_) AllReadyH.nil
  go_simp
  refine (HCA.out _ hHeld).mono ?_
  rintro e w4 ⟨rfl, rfl⟩
  go_wp2_with fail
  refine hK.out _ _ hHeld (fun hHeld => ?_)
  clear hK
  refine wpAnyH_ready (rs := [5]) (by kernel_rfl) (by simp) ?_
  refine AllReadyH.cons rfl (fun K hK => ?_) AllReadyH.nil
  go_simp
  refine (HCA2.out _ hHeld).mono ?_
  rintro e w4 ⟨rfl, rfl⟩
  go_wp2_with fail
  refine hK.out _ _ hHeld (fun hHeld => ?_)
  clear hK
  refine' wpAnyH_take (i := 6) (v := .bool true) rfl (by kernel_rfl) (by kernel_rfl) (by kernel_rfl) (fun _ _ _ h => h) (Or.inl ⟨by kernel_rfl, fun W hW => ?y5⟩) hHeld ?r5
  · go_simp
  refine' wpAnyH_take (i := 7) (v := .bool true) rfl (by kernel_rfl) (by kernel_rfl) (by kernel_rfl) (fun _ _ _ h => h) (Or.inl ⟨by kernel_rfl, fun W hW => ?y6⟩) hHeld ?r6
  · go_simp
  refine' wpAnyH_take (i := 8) (v := .pointer (some ⟨w.heap.size, 0, none⟩)) rfl (by kernel_rfl) (by kernel_rfl) (by kernel_rfl) (fun _ _ _ h => h) (Or.inl ⟨by kernel_rfl, fun W hW => ?y7⟩) hHeld ?r7
  · go_simp
  refine' wpAnyH_take (i := 9) (v := .pointer (some ⟨p, 0, none⟩)) rfl (by kernel_rfl) (by kernel_rfl) (by kernel_rfl) (fun _ _ _ h => h) (Or.inl ⟨by kernel_rfl, fun W hW => ?y8⟩) hHeld ?r8
  · have z := (HC.out W hW).1
    go_simp
  refine' wpAnyH_take (i := 11) (v := .pointer (some ⟨w.heap.size, 1, none⟩)) rfl (by kernel_rfl) (by kernel_rfl) (by kernel_rfl) (fun _ _ _ h => h) (Or.inl ⟨by kernel_rfl, fun W hW => ?y9⟩) hHeld ?r9
  · go_simp
  refine' wpAnyH_take (i := 12) (v := .pointer (some ⟨q, 0, none⟩)) rfl (by kernel_rfl) (by kernel_rfl) (by kernel_rfl) (fun _ _ _ h => h) (Or.inl ⟨by kernel_rfl, fun W hW => ?y10⟩) hHeld ?r10
  · have z := (HC.out W hW).2
    go_simp
  refine wpAnyH_ready (rs := [10]) (by kernel_rfl) (by simp) ?_
  refine AllReadyH.cons rfl (fun K hK => ?_) AllReadyH.nil
  go_simp
  refine (HON.out _ hHeld).mono ?_
  rintro e w4 ⟨rfl, rfl⟩
  go_wp2_with fail
  refine hK.out _ _ hHeld (fun hHeld => ?_)
  clear hK
  refine wpAnyH_ready (rs := [13]) (by kernel_rfl) (by simp) ?_
  refine AllReadyH.cons rfl (fun K hK => ?_) AllReadyH.nil
  go_simp
  refine (HON2.out _ hHeld).mono ?_
  rintro e w4 ⟨rfl, rfl⟩
  go_wp2_with fail
  refine hK.out _ _ hHeld (fun hHeld => ?_)
  clear hK
  refine' wpAnyH_take (i := 14) (v := .bool true) rfl (by kernel_rfl) (by kernel_rfl) (by kernel_rfl) (fun _ _ _ h => h) (Or.inl ⟨by kernel_rfl, fun W hW => ?y11⟩) hHeld ?r11
  · go_simp
  refine' wpAnyH_take (i := 15) (v := .bool true) rfl (by kernel_rfl) (by kernel_rfl) (by kernel_rfl) (fun _ _ _ h => h) (Or.inl ⟨by kernel_rfl, fun W hW => ?y12⟩) hHeld ?r12
  · go_simp
  refine' wpAnyH_take (i := 16) (v := .bool true) rfl (by kernel_rfl) (by kernel_rfl) (by kernel_rfl) (fun _ _ _ h => h) (Or.inl ⟨by kernel_rfl, fun W hW => ?y13⟩) hHeld ?r13
  · go_simp
  refine' wpAnyH_take (i := 17) (v := .pointer (some ⟨w.heap.size, 0, none⟩)) rfl (by kernel_rfl) (by kernel_rfl) (by kernel_rfl) (fun _ _ _ h => h) (Or.inl ⟨by kernel_rfl, fun W hW => ?y14⟩) hHeld ?r14
  · go_simp
  refine' wpAnyH_take (i := 18) (v := .pointer (some ⟨p, 0, none⟩)) rfl (by kernel_rfl) (by kernel_rfl) (by kernel_rfl) (fun _ _ _ h => h) (Or.inl ⟨by kernel_rfl, fun W hW => ?y15⟩) hHeld ?r15
  · have z := (HC.out W hW).1
    go_simp
  refine' wpAnyH_take (i := 20) (v := .pointer (some ⟨w.heap.size, 1, none⟩)) rfl (by kernel_rfl) (by kernel_rfl) (by kernel_rfl) (fun _ _ _ h => h) (Or.inl ⟨by kernel_rfl, fun W hW => ?y16⟩) hHeld ?r16
  · go_simp
  refine' wpAnyH_take (i := 21) (v := .pointer (some ⟨q, 0, none⟩)) rfl (by kernel_rfl) (by kernel_rfl) (by kernel_rfl) (fun _ _ _ h => h) (Or.inl ⟨by kernel_rfl, fun W hW => ?y17⟩) hHeld ?r17
  · have z := (HC.out W hW).2
    go_simp
  refine wpAnyH_ready (rs := [19]) (by kernel_rfl) (by simp) ?_
  refine AllReadyH.cons rfl (fun K hK => ?_) AllReadyH.nil
  go_simp
  refine (HNA.out _ hHeld).mono ?_
  rintro e w5 ⟨v5, rfl, hO5, _, t5⟩
  obtain ⟨a5, n5, c5, rfl⟩ : ∃ a n c, v5 = .slice a n c := by
    rcases hO5.shape with ⟨e, _⟩ | ⟨_, _, _, e, _⟩
    · exact ⟨_, _, _, e⟩
    · exact ⟨_, _, _, e⟩
  have S5 : Turn no w3 w5 := (Turn.refl no w3).drew.then_no t5
  have HO5 := shut hO5
  clear hO5 t5
  go_wp2_with fail
  refine hK.out _ _ S5 (fun hHeld => ?_)
  clear hK
  refine wpAnyH_ready (rs := [22]) (by kernel_rfl) (by simp) ?_
  refine AllReadyH.cons rfl (fun K hK => ?_) AllReadyH.nil
  go_simp
  refine (HNB.out _ hHeld).mono ?_
  rintro e w6 ⟨v6, rfl, hO6, _, t6⟩
  obtain ⟨a6, n6, c6, rfl⟩ : ∃ a n c, v6 = .slice a n c := by
    rcases hO6.shape with ⟨e, _⟩ | ⟨_, _, _, e, _⟩
    · exact ⟨_, _, _, e⟩
    · exact ⟨_, _, _, e⟩
  have S6 := S5.then_no t6
  have hsm := sameNames33 w6 _ _ NM HLEN.out (HO5.out.turn_no t6) hO6
  clear hO6 t6
  go_wp2_with fail
  refine hK.out _ _ S6 (fun hHeld => ?_)
  clear hK
  refine wpAnyH_ready (rs := [23]) (by kernel_rfl) (by simp) ?_
  refine AllReadyH.cons rfl (fun K hK => ?_) AllReadyH.nil
  go_simp
  refine hsm.mono ?_
  clear hsm
  rintro e w7 ⟨rfl, t7⟩
  have S7 := S6.then_no t7
  go_wp2_with fail
  refine hK.out _ _ S7 (fun hHeld => ?_)
  clear hK
  refine' wpAnyH_take (i := 24) (v := .bool true) rfl (by kernel_rfl) (by kernel_rfl) (by kernel_rfl) (fun _ _ _ h => h) (Or.inl ⟨by kernel_rfl, fun W hW => ?y18⟩) hHeld ?r18
  · go_simp
  refine' wpAnyH_take (i := 25) (v := .bool true) rfl (by kernel_rfl) (by kernel_rfl) (by kernel_rfl) (fun _ _ _ h => h) (Or.inl ⟨by kernel_rfl, fun W hW => ?y19⟩) hHeld ?r19
  · go_simp
  refine wpAnyH_done (by kernel_rfl) ?_ _
  refine NoPanic.normal ?_
  go_wp2_with fail
  go_ret
  exact ⟨rfl, HT3.out.then_no S7⟩
end
/-- Two pairs of disks, each in memory of its own. -/
def Qd (B : Nat) (Y : Nat → Prop) (w : World) (p q : Nat) (s : St) (p' q' : Nat) (s' : St) : Prop :=
  ∃ K L K' L' : Nat → Prop, Dk w p K s ∧ Rk w q L s ∧ Dk w p' K' s' ∧ Rk w q' L' s' ∧ (∀ k, K k → ¬ L k) ∧ (∀ k, K' k → ¬ L' k) ∧ (∀ k, K k ∨ L k → ¬ (K' k ∨ L' k)) ∧ (∀ k, K k ∨ L k → out B Y k) ∧ (∀ k, K' k ∨ L' k → out B Y k)
section
variable {B : Nat} {Y : Nat → Prop} {w w' : World} {p q p' q' : Nat} {s s' : St}
theorem Qd.swap (h : Qd B Y w p q s p' q' s') : Qd B Y w p' q' s' p q s := by
  obtain ⟨K, L, K', L', h1, h2, h3, h4, h5, h6, h7, h8, h9⟩ := h
  exact ⟨K', L', K, L, h3, h4, h1, h2, h6, h5, fun k a b => h7 k b a, h9, h8⟩
theorem Qd.turn_no (h : Qd B Y w p q s p' q' s') (t : Turn no w w') : Qd B Y w' p q s p' q' s' := by
  obtain ⟨K, L, K', L', h1, h2, h3, h4, h5⟩ := h
  exact ⟨K, L, K', L', h1.turn_no t, h2.turn_no t, h3.turn_no t, h4.turn_no t, h5⟩
theorem Qd.told (h : Qd B Y w p q s p' q' s') : Calls Try.prog 9 #[.agg #[ptr p, ptr q]] w fun e w' => e = .returned (.bool true) ∧ Turn no w w' := by
  obtain ⟨K, L, K', L', h1, h2, _⟩ := h
  exact told9 h1 h2
/-- A step of the first. -/
theorem Qd.step (h : Qd B Y w p q s p' q' s') (hB : B ≤ w.heap.size) (hY : ∀ k, Y k → k < w.heap.size) (hn : s.n < 4611686018427387904) (hm : s.m < 3518437208780) (o : Opx) (ho : Ox B w o) (hdl : o.data.length ≤ 140737488351232) (hkl : o.keep.length ≤ 17592186043904) :
    Calls Try.prog 8 #[.agg #[ptr p, ptr q], .agg (opC o)] w fun e w' => e = .returned (.bool true) ∧ Qd B Y w' p q (stS s o) p' q' s' ∧ Turn (out B Y) w w' := by
  obtain ⟨K, L, K', L', h1, h2, h3, h4, h5, h6, h7, h8, h9⟩ := h
  have hk3 := h3.klt
  have hk4 := h4.klt
  have hP : Pr B (fun k => Y k ∨ K' k ∨ L' k) w p q s s := ⟨K, L, h1, h2, h5, fun k hk => ⟨(h8 k (Or.inl hk)).1, fun e => e.elim (h8 k (Or.inl hk)).2 (fun e => h7 k (Or.inl hk) e)⟩, fun k hk => ⟨(h8 k (Or.inr hk)).1, fun e => e.elim (h8 k (Or.inr hk)).2 (fun e => h7 k (Or.inr hk) e)⟩⟩
  refine (step_any hP hB (fun k e => ?_) hn hm o ho hdl hkl).mono ?_
  · rcases e with e | e | e
    · exact hY k e
    · exact hk3 k e
    · exact hk4 k e
  rintro e w' ⟨rfl, ⟨K2, L2, a1, a2, a3, a4, a5⟩, t⟩
  refine ⟨rfl, ⟨K2, L2, K', L', a1, a2, h3.turn t (fun k hk e => e.2 (Or.inr (Or.inl hk))), h4.turn t (fun k hk e => e.2 (Or.inr (Or.inr hk))), a3, h6, fun k hk e => ?_, fun k hk => ?_, h9⟩, t.mono (fun k _ e => ⟨e.1, fun y => e.2 (Or.inl y)⟩)⟩
  · rcases hk with hk | hk
    · exact (a4 k hk).2 (Or.inr e)
    · exact (a5 k hk).2 (Or.inr e)
  · rcases hk with hk | hk
    · exact ⟨(a4 k hk).1, fun y => (a4 k hk).2 (Or.inl y)⟩
    · exact ⟨(a5 k hk).1, fun y => (a5 k hk).2 (Or.inl y)⟩
end
end Go.Proofs.Ytcdogciacchigac
