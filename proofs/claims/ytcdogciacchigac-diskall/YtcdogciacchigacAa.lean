/- Texts in one. -/
import Derived.Test.YtcdogciacchigacZz0
/- Of the law: told; two pairs. -/
namespace Go.Proofs.Ytcdogciacchigac
open Go.RowKit Go.Maps
set_option linter.unusedVariables false

section
variable {w : World} {p q : Nat} {K L : Nat → Prop} {s : St}
set_option maxRecDepth 100000 in
set_option maxHeartbeats 8000000 in
theorem told9 (hD : Dk w p K s) (hR : Rk w q L s) : Calls Try.prog 9 #[.agg #[ptr p, ptr q]] w fun e w' => e = .returned (.bool true) ∧ Turn no w w' := by
  obtain ⟨w3, hw3⟩ : ∃ w3, w.alloc (.cells #[ptr p, ptr q] 33) = w3 := ⟨_, rfl⟩
  have T3 : Turn no w w3 := by rw [← hw3]; exact (Turn.refl no w).alloc _
  have r3 : Row w3 w.heap.size #[ptr p, ptr q] 33 := by rw [← hw3]; exact Row.new w _ 33
  have hon := fun W (t : Turn no w3 W) => on13 ((hD.turn_no T3).turn_no t)
  have hca := fun W (t : Turn no w3 W) => calls14 ((hD.turn_no T3).turn_no t)
  have hon2 := fun W (t : Turn no w3 W) => on61 ((hR.turn_no T3).turn_no t)
  have hca2 := fun W (t : Turn no w3 W) => calls60 ((hR.turn_no T3).turn_no t)
  have hnA := fun W (t : Turn no w3 W) => names29 ((hD.turn_no T3).turn_no t)
  have hnB := fun W (t : Turn no w3 W) => rnames35 ((hR.turn_no T3).turn_no t)
  have hlen : (if s.off then [] else s.fs.map Pf.nm).length ≤ 65536 := by
    obtain ⟨_, _, _, hd⟩ := hD
    have := hd.inv.count
    split <;> simp <;> omega
  generalize (if s.off then [] else s.fs.map Pf.nm) = NM at *
  generalize (!s.off) = ON at *
  generalize s.n = CN at *
  have HON := shut hon
  have HCA := shut hca
  have HON2 := shut hon2
  have HCA2 := shut hca2
  have HNA := shut hnA
  have HNB := shut hnB
  have HLEN := shut hlen
  have hcell : ∀ W, Turn no w3 W → W.cell? ⟨w.heap.size, 0, none⟩ = some (.pointer (some ⟨p, 0, none⟩)) ∧ W.cell? ⟨w.heap.size, 1, none⟩ = some (.pointer (some ⟨q, 0, none⟩)) := fun W t => ⟨(r3.turn t (fun e => e)).cell 0 _ rfl, (r3.turn t (fun e => e)).cell 1 _ rfl⟩
  have HC := shut hcell
  have HT3 := shut T3
  clear hD hR hon hca hon2 hca2 hnA hnB hlen T3 r3 hcell
  unfold ptr at *
  go_enter Try.func9, Try.ntmps9
  go_wp2_with fail
  try rw [hw3]
  refine wp_region_noPanic ?_
  refine wp_region_held_drew (S := fun W => Turn no w3 W) (by kernel_rfl) (Turn.refl _ w3).drew (fun hHeld => ?_)
  refine' wpAnyH_take (i := 0) (v := .pointer (some ⟨w.heap.size, 0, none⟩)) rfl (by kernel_rfl) (by kernel_rfl) (by kernel_rfl) (fun _ _ _ h => h) (Or.inl ⟨by kernel_rfl, fun W hW => ?y1⟩) hHeld ?r1
  · go_simp
  refine' wpAnyH_take (i := 1) (v := .pointer (some ⟨p, 0, none⟩)) rfl (by kernel_rfl) (by kernel_rfl) (by kernel_rfl) (fun _ _ _ h => h) (Or.inl ⟨by kernel_rfl, fun W hW => ?y2⟩) hHeld ?r2
  · have z := (HC.out W hW).1
    go_simp
  refine' wpAnyH_take (i := 3) (v := .pointer (some ⟨w.heap.size, 1, none⟩)) rfl (by kernel_rfl) (by kernel_rfl) (by kernel_rfl) (fun _ _ _ h => h) (Or.inl ⟨by kernel_rfl, fun W hW => ?y3⟩) hHeld ?r3
  · go_simp
  refine' wpAnyH_take (i := 4) (v := .pointer (some ⟨q, 0, none⟩)) rfl (by kernel_rfl) (by kernel_rfl) (by kernel_rfl) (fun _ _ _ h => h) (Or.inl ⟨by kernel_rfl, fun W hW => ?y4⟩) hHeld ?r4
  · have z := (HC.out W hW).2
    go_simp
  refine wpAnyH_ready (rs := [2]) (by kernel_rfl) (by simp) ?_
  refine AllReadyH.cons rfl (fun K hK => ?_) AllReadyH.nil
  go_simp
  refine (HCA.out _ hHeld).mono ?_
  rintro e w4 ⟨rfl, rfl⟩
  go_wp2_with fail
  refine hK.out _ _ hHeld (fun hHeld => ?_)
  clear hK
  refine wpAnyH_ready (rs := [5]) (by kernel_rfl) (by simp) ?_
  refine AllReadyH.cons rfl (fun K hK => ?_) AllReadyH.nil
  go_simp
  refine (HCA2.out _ hHeld).mono ?_
  rintro e w4 ⟨rfl, rfl⟩
  go_wp2_with fail
  refine hK.out _ _ hHeld (fun hHeld => ?_)
  clear hK
  refine' wpAnyH_take (i := 6) (v := .bool true) rfl (by kernel_rfl) (by kernel_rfl) (by kernel_rfl) (fun _ _ _ h => h) (Or.inl ⟨by kernel_rfl, fun W hW => ?y5⟩) hHeld ?r5
  · go_simp
  refine' wpAnyH_take (i := 7) (v := .bool true) rfl (by kernel_rfl) (by kernel_rfl) (by kernel_rfl) (fun _ _ _ h => h) (Or.inl ⟨by kernel_rfl, fun W hW => ?y6⟩) hHeld ?r6
  · go_simp
  refine' wpAnyH_take (i := 8) (v := .pointer (some ⟨w.heap.size, 0, none⟩)) rfl (by kernel_rfl) (by kernel_rfl) (by kernel_rfl) (fun _ _ _ h => h) (Or.inl ⟨by kernel_rfl, fun W hW => ?y7⟩) hHeld ?r7
  · go_simp
  refine' wpAnyH_take (i := 9) (v := .pointer (some ⟨p, 0, none⟩)) rfl (by kernel_rfl) (by kernel_rfl) (by kernel_rfl) (fun _ _ _ h => h) (Or.inl ⟨by kernel_rfl, fun W hW => ?y8⟩) hHeld ?r8
  · have z := (HC.out W hW).1
    go_simp
  refine' wpAnyH_take (i := 11) (v := .pointer (some ⟨w.heap.size, 1, none⟩)) rfl (by kernel_rfl) (by kernel_rfl) (by kernel_rfl) (fun _ _ _ h => h) (Or.inl ⟨by kernel_rfl, fun W hW => ?y9⟩) hHeld ?r9
  · go_simp
  refine' wpAnyH_take (i := 12) (v := .pointer (some ⟨q, 0, none⟩)) rfl (by kernel_rfl) (by kernel_rfl) (by kernel_rfl) (fun _ _ _ h => h) (Or.inl ⟨by kernel_rfl, fun W hW => ?y10⟩) hHeld ?r10
  · have z := (HC.out W hW).2
    go_simp
  refine wpAnyH_ready (rs := [10]) (by kernel_rfl) (by simp) ?_
  refine AllReadyH.cons rfl (fun K hK => ?_) AllReadyH.nil
  go_simp
  refine (HON.out _ hHeld).mono ?_
  rintro e w4 ⟨rfl, rfl⟩
  go_wp2_with fail
  refine hK.out _ _ hHeld (fun hHeld => ?_)
  clear hK
  refine wpAnyH_ready (rs := [13]) (by kernel_rfl) (by simp) ?_
  refine AllReadyH.cons rfl (fun K hK => ?_) AllReadyH.nil
  go_simp
  refine (HON2.out _ hHeld).mono ?_
  rintro e w4 ⟨rfl, rfl⟩
  go_wp2_with fail
  refine hK.out _ _ hHeld (fun hHeld => ?_)
  clear hK
  refine' wpAnyH_take (i := 14) (v := .bool true) rfl (by kernel_rfl) (by kernel_rfl) (by kernel_rfl) (fun _ _ _ h => h) (Or.inl ⟨by kernel_rfl, fun W hW => ?y11⟩) hHeld ?r11
  · go_simp
  refine' wpAnyH_take (i := 15) (v := .bool true) rfl (by kernel_rfl) (by kernel_rfl) (by kernel_rfl) (fun _ _ _ h => h) (Or.inl ⟨by kernel_rfl, fun W hW => ?y12⟩) hHeld ?r12
  · go_simp
  refine' wpAnyH_take (i := 16) (v := .bool true) rfl (by kernel_rfl) (by kernel_rfl) (by kernel_rfl) (fun _ _ _ h => h) (Or.inl ⟨by kernel_rfl, fun W hW => ?y13⟩) hHeld ?r13
  · go_simp
  refine' wpAnyH_take (i := 17) (v := .pointer (some ⟨w.heap.size, 0, none⟩)) rfl (by kernel_rfl) (by kernel_rfl) (by kernel_rfl) (fun _ _ _ h => h) (Or.inl ⟨by kernel_rfl, fun W hW => ?y14⟩) hHeld ?r14
  · go_simp
  refine' wpAnyH_take (i := 18) (v := .pointer (some ⟨p, 0, none⟩)) rfl (by kernel_rfl) (by kernel_rfl) (by kernel_rfl) (fun _ _ _ h => h) (Or.inl ⟨by kernel_rfl, fun W hW => ?y15⟩) hHeld ?r15
  · have z := (HC.out W hW).1
    go_simp
  refine' wpAnyH_take (i := 20) (v := .pointer (some ⟨w.heap.size, 1, none⟩)) rfl (by kernel_rfl) (by kernel_rfl) (by kernel_rfl) (fun _ _ _ h => h) (Or.inl ⟨by kernel_rfl, fun W hW => ?y16⟩) hHeld ?r16
  · go_simp
  refine' wpAnyH_take (i := 21) (v := .pointer (some ⟨q, 0, none⟩)) rfl (by kernel_rfl) (by kernel_rfl) (by kernel_rfl) (fun _ _ _ h => h) (Or.inl ⟨by kernel_rfl, fun W hW => ?y17⟩) hHeld ?r17
  · have z := (HC.out W hW).2
    go_simp
  refine wpAnyH_ready (rs := [19]) (by kernel_rfl) (by simp) ?_
  refine AllReadyH.cons rfl (fun K hK => ?_) AllReadyH.nil
  go_simp
  refine (HNA.out _ hHeld).mono ?_
  rintro e w5 ⟨v5, rfl, hO5, _, t5⟩
  obtain ⟨a5, n5, c5, rfl⟩ : ∃ a n c, v5 = .slice a n c := by
    rcases hO5.shape with ⟨e, _⟩ | ⟨_, _, _, e, _⟩
    · exact ⟨_, _, _, e⟩
    · exact ⟨_, _, _, e⟩
  have S5 : Turn no w3 w5 := (Turn.refl no w3).drew.then_no t5
  have HO5 := shut hO5
  clear hO5 t5
  go_wp2_with fail
  refine hK.out _ _ S5 (fun hHeld => ?_)
  clear hK
  refine wpAnyH_ready (rs := [22]) (by kernel_rfl) (by simp) ?_
  refine AllReadyH.cons rfl (fun K hK => ?_) AllReadyH.nil
  go_simp
  refine (HNB.out _ hHeld).mono ?_
  rintro e w6 ⟨v6, rfl, hO6, _, t6⟩
  obtain ⟨a6, n6, c6, rfl⟩ : ∃ a n c, v6 = .slice a n c := by
    rcases hO6.shape with ⟨e, _⟩ | ⟨_, _, _, e, _⟩
    · exact ⟨_, _, _, e⟩
    · exact ⟨_, _, _, e⟩
  have S6 := S5.then_no t6
  have hsm := sameNames33 w6 _ _ NM HLEN.out (HO5.out.turn_no t6) hO6
  clear hO6 t6
  go_wp2_with fail
  refine hK.out _ _ S6 (fun hHeld => ?_)
  clear hK
  refine wpAnyH_ready (rs := [23]) (by kernel_rfl) (by simp) ?_
  refine AllReadyH.cons rfl (fun K hK => ?_) AllReadyH.nil
  go_simp
  refine hsm.mono ?_
  clear hsm
  rintro e w7 ⟨rfl, t7⟩
  have S7 := S6.then_no t7
  go_wp2_with fail
  refine hK.out _ _ S7 (fun hHeld => ?_)
  clear hK
  refine' wpAnyH_take (i := 24) (v := .bool true) rfl (by kernel_rfl) (by kernel_rfl) (by kernel_rfl) (fun _ _ _ h => h) (Or.inl ⟨by kernel_rfl, fun W hW => ?y18⟩) hHeld ?r18
  · go_simp
  refine' wpAnyH_take (i := 25) (v := .bool true) rfl (by kernel_rfl) (by kernel_rfl) (by kernel_rfl) (fun _ _ _ h => h) (Or.inl ⟨by kernel_rfl, fun W hW => ?y19⟩) hHeld ?r19
  · go_simp
  refine wpAnyH_done (by kernel_rfl) ?_ _
  refine NoPanic.normal ?_
  go_wp2_with fail
  go_ret
  exact ⟨rfl, HT3.out.then_no S7⟩
end
/-- Two pairs of disks, each in memory of its own. -/
def Qd (B : Nat) (Y : Nat → Prop) (w : World) (p q : Nat) (s : St) (p' q' : Nat) (s' : St) : Prop :=
  ∃ K L K' L' : Nat → Prop, Dk w p K s ∧ Rk w q L s ∧ Dk w p' K' s' ∧ Rk w q' L' s' ∧ (∀ k, K k → ¬ L k) ∧ (∀ k, K' k → ¬ L' k) ∧ (∀ k, K k ∨ L k → ¬ (K' k ∨ L' k)) ∧ (∀ k, K k ∨ L k → out B Y k) ∧ (∀ k, K' k ∨ L' k → out B Y k)
section
variable {B : Nat} {Y : Nat → Prop} {w w' : World} {p q p' q' : Nat} {s s' : St}
theorem Qd.swap (h : Qd B Y w p q s p' q' s') : Qd B Y w p' q' s' p q s := by
  obtain ⟨K, L, K', L', h1, h2, h3, h4, h5, h6, h7, h8, h9⟩ := h
  exact ⟨K', L', K, L, h3, h4, h1, h2, h6, h5, fun k a b => h7 k b a, h9, h8⟩
theorem Qd.turn_no (h : Qd B Y w p q s p' q' s') (t : Turn no w w') : Qd B Y w' p q s p' q' s' := by
  obtain ⟨K, L, K', L', h1, h2, h3, h4, h5⟩ := h
  exact ⟨K, L, K', L', h1.turn_no t, h2.turn_no t, h3.turn_no t, h4.turn_no t, h5⟩
theorem Qd.told (h : Qd B Y w p q s p' q' s') : Calls Try.prog 9 #[.agg #[ptr p, ptr q]] w fun e w' => e = .returned (.bool true) ∧ Turn no w w' := by
  obtain ⟨K, L, K', L', h1, h2, _⟩ := h
  exact told9 h1 h2
/-- A step of the first. -/
theorem Qd.step (h : Qd B Y w p q s p' q' s') (hB : B ≤ w.heap.size) (hY : ∀ k, Y k → k < w.heap.size) (hn : s.n < 4611686018427387904) (hm : s.m < 3518437208780) (o : Opx) (ho : Ox B w o) (hdl : o.data.length ≤ 140737488351232) (hkl : o.keep.length ≤ 17592186043904) :
    Calls Try.prog 8 #[.agg #[ptr p, ptr q], .agg (opC o)] w fun e w' => e = .returned (.bool true) ∧ Qd B Y w' p q (stS s o) p' q' s' ∧ Turn (out B Y) w w' := by
  obtain ⟨K, L, K', L', h1, h2, h3, h4, h5, h6, h7, h8, h9⟩ := h
  have hk3 := h3.klt
  have hk4 := h4.klt
  have hP : Pr B (fun k => Y k ∨ K' k ∨ L' k) w p q s s := ⟨K, L, h1, h2, h5, fun k hk => ⟨(h8 k (Or.inl hk)).1, fun e => e.elim (h8 k (Or.inl hk)).2 (fun e => h7 k (Or.inl hk) e)⟩, fun k hk => ⟨(h8 k (Or.inr hk)).1, fun e => e.elim (h8 k (Or.inr hk)).2 (fun e => h7 k (Or.inr hk) e)⟩⟩
  refine (step_any hP hB (fun k e => ?_) hn hm o ho hdl hkl).mono ?_
  · rcases e with e | e | e
    · exact hY k e
    · exact hk3 k e
    · exact hk4 k e
  rintro e w' ⟨rfl, ⟨K2, L2, a1, a2, a3, a4, a5⟩, t⟩
  refine ⟨rfl, ⟨K2, L2, K', L', a1, a2, h3.turn t (fun k hk e => e.2 (Or.inr (Or.inl hk))), h4.turn t (fun k hk e => e.2 (Or.inr (Or.inr hk))), a3, h6, fun k hk e => ?_, fun k hk => ?_, h9⟩, t.mono (fun k _ e => ⟨e.1, fun y => e.2 (Or.inl y)⟩)⟩
  · rcases hk with hk | hk
    · exact (a4 k hk).2 (Or.inr e)
    · exact (a5 k hk).2 (Or.inr e)
  · rcases hk with hk | hk
    · exact ⟨(a4 k hk).1, fun y => (a4 k hk).2 (Or.inl y)⟩
    · exact ⟨(a5 k hk).1, fun y => (a5 k hk).2 (Or.inl y)⟩
end
end Go.Proofs.Ytcdogciacchigac

/- DiskAll: the walk. -/
namespace Go.Proofs.Ytcdogciacchigac
open Go.RowKit Go.Maps
set_option linter.unusedVariables false

section
variable {B : Nat} {X Y : Nat → Prop} {w w' : World} {p q p' q' : Nat} {s s' : St}
theorem Qd.avoid (h : Qd B Y w p q s p' q' s') (hX : ∀ k, X k → Y k ∨ w.heap.size ≤ k) : Qd B X w p q s p' q' s' := by
  obtain ⟨K, L, K', L', h1, h2, h3, h4, h5, h6, h7, h8, h9⟩ := h
  have k1 := h1.klt
  have k2 := h2.klt
  have k3 := h3.klt
  have k4 := h4.klt
  refine ⟨K, L, K', L', h1, h2, h3, h4, h5, h6, h7, fun k hk => ⟨(h8 k hk).1, fun e => ?_⟩, fun k hk => ⟨(h9 k hk).1, fun e => ?_⟩⟩
  · have hl : k < w.heap.size := hk.elim (k1 k) (k2 k)
    exact (hX k e).elim (h8 k hk).2 (fun z => by omega)
  · have hl : k < w.heap.size := hk.elim (k3 k) (k4 k)
    exact (hX k e).elim (h9 k hk).2 (fun z => by omega)
theorem Qd.free (h : Qd B X w p q s p' q' s') (hY : ∀ k, Y k → X k) : Qd B Y w p q s p' q' s' := by
  obtain ⟨K, L, K', L', h1, h2, h3, h4, h5, h6, h7, h8, h9⟩ := h
  exact ⟨K, L, K', L', h1, h2, h3, h4, h5, h6, h7, fun k hk => ⟨(h8 k hk).1, fun e => (h8 k hk).2 (hY k e)⟩, fun k hk => ⟨(h9 k hk).1, fun e => (h9 k hk).2 (hY k e)⟩⟩
theorem Qd.turn {S : Nat → Prop} (h : Qd B Y w p q s p' q' s') (t : Turn S w w') (hS : ∀ k, S k → ¬ out B Y k) : Qd B Y w' p q s p' q' s' := by
  obtain ⟨K, L, K', L', h1, h2, h3, h4, h5, h6, h7, h8, h9⟩ := h
  exact ⟨K, L, K', L', h1.turn t (fun k hk e => hS k e (h8 k (Or.inl hk))), h2.turn t (fun k hk e => hS k e (h8 k (Or.inr hk))), h3.turn t (fun k hk e => hS k e (h9 k (Or.inl hk))), h4.turn t (fun k hk e => hS k e (h9 k (Or.inr hk))), h5, h6, h7, h8, h9⟩
end
set_option maxRecDepth 100000 in
set_option maxHeartbeats 16000000 in
theorem all4 (w : World) (m : Mx) (a : Option Addr) (cap : Nat) (hF : Fs w.heap.size w a cap m.l) (hl : m.l.length ≤ 3518437208780) (hb : ∀ f ∈ m.l, f.bs.length ≤ 140737488351232) (m' : Mx) (a' : Option Addr) (cap' : Nat) (hF' : Fs w.heap.size w a' cap' m'.l) (hl' : m'.l.length ≤ 3518437208780) (hb' : ∀ f ∈ m'.l, f.bs.length ≤ 140737488351232) (sv : Value) (l : List Opx) (hS : Sc w.heap.size w sv l) (hsl : l.length ≤ 1172812402926) (hdl : ∀ o ∈ l, o.data.length ≤ 140737488351232 ∧ o.keep.length ≤ 17592186043904) :
    Calls Try.prog 4 #[.agg (mxC m a cap), .agg (mxC m' a' cap'), sv] w fun e w' => e = .returned (.bool true) ∧ Turn no w w' := by
  obtain ⟨lim, mt, fl⟩ := m
  obtain ⟨lim', mt', fl'⟩ := m'
  simp only at hF hl hb hF' hl' hb'
  obtain ⟨sa, sc, rfl, hsl'⟩ := Sc.slice hS
  obtain ⟨w2, hw2⟩ : ∃ w2, (w.alloc (.cells #[.int .i64 lim, .bool mt, .slice a fl.length cap] 26)).alloc (.cells #[.int .i64 lim', .bool mt', .slice a' fl'.length cap'] 26) = w2 := ⟨_, rfl⟩
  have T2 : Turn no w w2 := by rw [← hw2]; exact ((Turn.refl no w).alloc _).alloc _
  have s2 : w2.heap.size = w.heap.size + 2 := by rw [← hw2]; simp
  have r1 : Row w2 w.heap.size #[.int .i64 lim, .bool mt, .slice a fl.length cap] 26 := by rw [← hw2]; exact (Row.new w _ 26).alloc _
  have r2 : Row w2 (w.heap.size + 1) #[.int .i64 lim', .bool mt', .slice a' fl'.length cap'] 26 := by rw [← hw2]; exact Row.newAt _ _ 26 _ (by simp)
  have hmd := made32_any w2 ⟨lim, mt, fl⟩ a cap (hF.turn_no T2) (by omega) hl hb
  have hmd2 : ∀ W, Turn no w2 W → _ := fun W t => made32_any W ⟨lim', mt', fl'⟩ a' cap' ((hF'.turn_no T2).turn_no t) (by have := t.size; omega) hl' hb'
  have x0 := r1.cell 0 _ rfl
  have x1 := r1.cell 1 _ rfl
  have x2 := r1.cell 2 _ rfl
  have HMD2 := shut hmd2
  have HR2 := shut r2
  have HSC := shut (Sc.mono (Sc.turn hS (T2.of_no)) (show w.heap.size ≤ w2.heap.size by omega))
  have HT2 := shut T2
  have HS2 := shut s2
  have HDL := shut hdl
  clear hF hb r1 r2 T2 s2 hl hS hdl hF' hb' hl' hmd2
  unfold mxC at *
  simp only at *
  go_enter Try.func4, Try.ntmps4
  go_wp2_with fail
  try rw [hw2]
  refine hmd.mono ?_
  clear hmd
  rintro e w3 ⟨t3, hh⟩
  have HT3 := shut t3
  clear t3 x0 x1 x2
  obtain ⟨pv, qv, rfl, HG1⟩ : ∃ pv qv, e = .returned (.tuple #[.agg #[.pointer pv, .pointer qv], .bool true]) ∧ Shut ((∃ p q s, pv = some ⟨p, 0, none⟩ ∧ qv = some ⟨q, 0, none⟩ ∧ Pr w2.heap.size no w3 p q s s ∧ s.n = 0 ∧ s.m = 0) ∨ (pv = none ∧ qv = none)) := by
    rcases hh with ⟨p, q, s, rfl, hP, hn, hm, _⟩ | rfl
    · exact ⟨_, _, rfl, Or.inl ⟨p, q, s, rfl, rfl, hP, hn, hm⟩⟩
    · exact ⟨_, _, rfl, Or.inr ⟨rfl, rfl⟩⟩
  clear hh
  obtain ⟨w4, hw4⟩ : ∃ w4, w3.alloc (.cells #[.pointer pv, .pointer qv] 33) = w4 := ⟨_, rfl⟩
  have T4 : Turn no w3 w4 := by rw [← hw4]; exact (Turn.refl no w3).alloc _
  have s4 : w4.heap.size = w3.heap.size + 1 := by rw [← hw4]; simp
  obtain ⟨g4, hg4⟩ : ∃ g4, w3.heap.size = g4 := ⟨_, rfl⟩
  have r4 : Row w4 g4 #[.pointer pv, .pointer qv] 33 := by rw [← hw4]; exact Row.newAt _ _ _ _ hg4.symm
  have T24 := HT3.out.then_no T4
  have r24 := HR2.out.turn T24 (fun e => e)
  have z0 := r24.cell 0 _ rfl
  have z1 := r24.cell 1 _ rfl
  have z2 := r24.cell 2 _ rfl
  have hmd2 := HMD2.out w4 T24
  have HT4 := shut T4
  have HS4 := shut s4
  have HR4 := shut r4
  have HT24 := shut T24
  clear T4 s4 r4 T24 r24 HMD2 HR2
  go_wp2_with fail
  refine hmd2.mono ?_
  clear hmd2
  rintro e w5 ⟨t5, hh⟩
  have HT5 := shut t5
  clear t5 z0 z1 z2
  obtain ⟨pv', qv', rfl, HG2⟩ : ∃ pv qv, e = .returned (.tuple #[.agg #[.pointer pv, .pointer qv], .bool true]) ∧ Shut ((∃ p q s, pv = some ⟨p, 0, none⟩ ∧ qv = some ⟨q, 0, none⟩ ∧ Pr w4.heap.size no w5 p q s s ∧ s.n = 0 ∧ s.m = 0) ∨ (pv = none ∧ qv = none)) := by
    rcases hh with ⟨p, q, s, rfl, hP, hn, hm, _⟩ | rfl
    · exact ⟨_, _, rfl, Or.inl ⟨p, q, s, rfl, rfl, hP, hn, hm⟩⟩
    · exact ⟨_, _, rfl, Or.inr ⟨rfl, rfl⟩⟩
  clear hh
  obtain ⟨w6, hw6⟩ : ∃ w6, w5.alloc (.cells #[.pointer pv', .pointer qv'] 33) = w6 := ⟨_, rfl⟩
  have T6 : Turn no w5 w6 := by rw [← hw6]; exact (Turn.refl no w5).alloc _
  obtain ⟨g6, hg6⟩ : ∃ g6, w5.heap.size = g6 := ⟨_, rfl⟩
  have r6 : Row w6 g6 #[.pointer pv', .pointer qv'] 33 := by rw [← hw6]; exact Row.newAt _ _ _ _ hg6.symm
  have r46 := (HR4.out.turn HT5.out (fun e => e)).turn T6 (fun e => e)
  have u1 := r46.cell 1 _ rfl
  have u2 := r6.cell 1 _ rfl
  have HT6 := shut T6
  have HR6 := shut r6
  have HR46 := shut r46
  have FIN0 : Shut (Turn no w w6) := ((HT2.out.then_no HT24.out).then_no HT5.out).then_no T6
  clear T6 r6 r46
  have hnone : ∀ A, (A : Option Addr) = none → True := fun _ _ => trivial
  clear hnone
  rcases HG1.out with ⟨p, q, s, rfl, rfl, hP1, hn1, hm1⟩ | ⟨rfl, rfl⟩
  · rcases HG2.out with ⟨p', q', s', rfl, rfl, hP2, hn2, hm2⟩ | ⟨rfl, rfl⟩
    · obtain ⟨B, hB⟩ : ∃ B, w2.heap.size = B := ⟨_, rfl⟩
      obtain ⟨Y, hY⟩ : ∃ Y : Nat → Prop, Y = (fun k => k = g4 ∨ k = g6) := ⟨_, rfl⟩
      have hQ6 : Qd B Y w6 p q s p' q' s' := by
        obtain ⟨K, L, a1, a2, a3, a4, a5⟩ := hP1
        obtain ⟨K', L', b1, b2, b3, b4, b5⟩ := hP2
        have k1 := a1.klt
        have k2 := a2.klt
        have k3 := b1.klt
        have k4 := b2.klt
        have e4 := HS4.out
        have e2 := HT3.out.size
        have e5 := HT5.out.size
        have T36 := (HT4.out.then_no HT5.out).then_no HT6.out
        refine ⟨K, L, K', L', a1.turn_no T36, a2.turn_no T36, b1.turn_no HT6.out, b2.turn_no HT6.out, a3, b3, fun k hk hk' => ?_, fun k hk => ?_, fun k hk => ?_⟩
        · have h1 : k < w3.heap.size := hk.elim (k1 k) (k2 k)
          have h2 : w4.heap.size ≤ k := hk'.elim (fun e => (b4 k e).1) (fun e => (b5 k e).1)
          omega
        · have h1 : k < w3.heap.size := hk.elim (k1 k) (k2 k)
          have h2 : w2.heap.size ≤ k := hk.elim (fun e => (a4 k e).1) (fun e => (a5 k e).1)
          exact ⟨by omega, fun e => by rw [hY] at e; omega⟩
        · have h1 : k < w5.heap.size := hk.elim (k3 k) (k4 k)
          have h2 : w4.heap.size ≤ k := hk.elim (fun e => (b4 k e).1) (fun e => (b5 k e).1)
          exact ⟨by omega, fun e => by rw [hY] at e; omega⟩
      rw [hB] at HSC
      have HQ6 := shut hQ6
      have HYY := shut hY
      have HSC6 := shut (Sc.turn (Sc.turn (Sc.turn HSC.out (HT24.out.of_no)) (HT5.out.of_no)) (HT6.out.of_no))
      have HB6 : Shut (B ≤ w6.heap.size ∧ g4 < w6.heap.size ∧ g6 < w6.heap.size ∧ w.heap.size < B) := by
        have e1 : g6 < w6.heap.size := lt_of_obj HR6.out
        have e2 := HS2.out
        have e3 := HT3.out.size
        have e4 := HS4.out
        have e5 := HT5.out.size
        exact ⟨by omega, by omega, by omega, by omega⟩
      have HNM : Shut (s.n ≤ 0 ∧ s.m ≤ 0 ∧ s'.n ≤ 0 ∧ s'.m ≤ 0) := ⟨by omega, by omega, by omega, by omega⟩
      clear hP1 hP2 hQ6 hY hn1 hm1 hn2 hm2 hB HSC HG1 HG2
      go_wp2_with fail
      go_loopw [8, 11] (fun x y wr => ∃ (i : Nat) (s s' : St), i ≤ l.length ∧ x = .bool true ∧ y = .int .i64 i ∧ Shut (Qd B Y wr p q s p' q' s') ∧ Shut (s.n ≤ i ∧ s.m ≤ i ∧ s'.n ≤ i ∧ s'.m ≤ i) ∧ Shut (Turn (out B Y) w6 wr)) (fun _ y _ => l.length - (intOf y).toNat)
      case atStart => exact ⟨0, s, s', Nat.zero_le _, rfl, rfl, HQ6, HNM, Turn.refl _ _⟩
      case round =>
        obtain ⟨i, s1, s2, hi, rfl, rfl, HQ, HNM', HT⟩ := hrel
        by_cases hlt : i < l.length
        · have hlt' : (i : Int) < (l.length : Int) := by omega
          obtain ⟨o, ho⟩ : ∃ o, l[i]? = some o := ⟨l[i], List.getElem?_eq_getElem hlt⟩
          obtain ⟨b, off, va, vn, vc, ka, kn, kc, ea, hbB, hO, hA⟩ := Sc.at (Sc.turn HSC6.out (HT.out.mono (fun k _ e => e.1))) i o ho
          subst ea
          have hD := HDL.out o (List.mem_of_getElem? ho)
          have HO2 := shut hD
          have HOX := shut hO
          have HAT := shut hA
          have hbw : ∀ W, Turn no wr W → W.cell? ⟨g4, 0, none⟩ = some (.pointer (some ⟨p, 0, none⟩)) ∧ W.cell? ⟨g4, 1, none⟩ = some (.pointer (some ⟨q, 0, none⟩)) ∧ W.cell? ⟨g6, 0, none⟩ = some (.pointer (some ⟨p', 0, none⟩)) ∧ W.cell? ⟨g6, 1, none⟩ = some (.pointer (some ⟨q', 0, none⟩)) ∧ W.cell? ⟨b, off + i * 10 + 1, none⟩ = some (.int .i64 o.who) := fun W t => by
            have ra := (HR46.out.turn HT.out (fun e => e.2 (by rw [HYY.out]; exact Or.inl rfl))).turn t (fun e => e)
            have rb := (HR6.out.turn HT.out (fun e => e.2 (by rw [HYY.out]; exact Or.inr rfl))).turn t (fun e => e)
            exact ⟨ra.cell 0 _ rfl, ra.cell 1 _ rfl, rb.cell 0 _ rfl, rb.cell 1 _ rfl, t.keep hA.c1 (fun e => e)⟩
          have HBW := shut hbw
          have HBL : Shut (b < B) := hbB
          have eo : opC o = #[.int .i64 o.kind, .int .i64 o.who, .string ⟨o.nm.toArray⟩, .slice va vn vc, .int .i64 o.n, .int .i64 o.t.when, .int .i64 o.t.kind, .bool o.t.done, .slice ka kn kc, .int .u8 o.junk.toNat] := by
            unfold opC strV
            rw [hA.vd, hA.vk]
          have HEO := shut eo
          obtain ⟨ga, hga⟩ : ∃ ga, wr.heap.size = ga := ⟨_, rfl⟩
          obtain ⟨v0, v1, v2, v3, v4⟩ := hbw wr (Turn.refl _ _)
          clear hO hA ho hD hbw eo hbB
          obtain ⟨wo, hwo⟩ : ∃ wo, wr.alloc (.cells #[.pointer (some ⟨p, 0, none⟩), .pointer (some ⟨q, 0, none⟩)] 33) = wo := ⟨_, rfl⟩
          have TO : Turn no wr wo := by rw [← hwo]; exact (Turn.refl no wr).alloc _
          have ro : Row wo ga #[.pointer (some ⟨p, 0, none⟩), .pointer (some ⟨q, 0, none⟩)] 33 := by rw [← hwo]; exact Row.newAt _ _ 33 _ hga.symm
          obtain ⟨_, _, y2, y3, y4⟩ := HBW.out wo TO
          obtain ⟨X, hX⟩ : ∃ X : Nat → Prop, X = (fun k => Y k ∨ k = ga) := ⟨_, rfl⟩
          have HXX := shut hX
          have HQO : Shut (Qd B X wo p q s1 p' q' s2) := (HQ.out.avoid (fun k e => by rw [hX] at e; exact e.imp id (fun z => by omega))).turn_no TO
          have HXL : Shut (∀ k, X k → k < wo.heap.size) := fun k e => by
            have h1 := HB6.out
            have h2 := HT.out.size
            have h3 := TO.size
            have h4 : ga < wo.heap.size := lt_of_obj ro
            rw [hX] at e
            rcases e with e | e
            · rw [HYY.out] at e; omega
            · omega
          have HBO : Shut (B ≤ wo.heap.size) := by have h1 := HB6.out; have h2 := HT.out.size; have h3 := TO.size; show B ≤ wo.heap.size; omega
          have HRO := shut ro
          have HTO := shut TO
          obtain ⟨bb, hbb⟩ : ∃ bb, ((bits .and .i64 o.who 1) == 1) = bb := ⟨_, rfl⟩
          clear TO ro hX
          go_upto_if 56 with fail
          clear hbb
          cases bb with
          | false =>
            have T2 : Turn (fun k => k = ga) wo wo := Turn.refl _ _
            have HRW := HRO
            have hQ := ((HQO.out.turn T2 (fun k e z => z.2 (by rw [HXX.out]; exact Or.inr e))).turn_no ((Turn.refl no wo).drew))
            have hsz2 := T2.size
            have hst := Qd.step hQ (by have := HBO.out; exact Nat.le_trans (by omega) (Turn.refl no wo).drew.size) (fun k e => by have := HXL.out k e; have := (Turn.refl no wo).drew.size; omega) (by have := HNM'.out; omega) (by have := HNM'.out; omega) o (((HOX.out.turn_no HTO.out).turn T2 (fun k e => by have := HB6.out; have := HT.out.size; omega)).turn_no ((Turn.refl no wo).drew)) HO2.out.1 HO2.out.2
            rw [HEO.out] at hst
            obtain ⟨bn, bm⟩ := st_bounds s1 o
            generalize hsx : stS s1 o = sx at *
            have HNN : Shut (sx.n ≤ i + 1 ∧ sx.m ≤ i + 1 ∧ s2.n ≤ i + 1 ∧ s2.m ≤ i + 1) := by have := HNM'.out; exact ⟨by omega, by omega, by omega, by omega⟩
            have hz : ∀ W, Turn (out B X) wo W → W.cell? ⟨ga, 0, none⟩ = some (.pointer (some ⟨p, 0, none⟩)) ∧ W.cell? ⟨ga, 1, none⟩ = some (.pointer (some ⟨q, 0, none⟩)) ∧ OpAt W b (off + i * 10) o va vn vc ka kn kc := fun W t => by
              have r := HRW.out.turn t (fun e => e.2 (by rw [HXX.out]; exact Or.inr rfl))
              exact ⟨r.cell 0 _ rfl, r.cell 1 _ rfl, ((HAT.out.turn HTO.out (fun e => e)).turn T2 (fun e => by have := HBL.out; have := HB6.out; have := HT.out.size; omega)).turn t (fun e => by have := e.1; have := HBL.out; omega)⟩
            have HZ := shut hz
            have HST := shut hst
            have HT2' := shut T2
            clear hst hz hQ bn bm hsx T2 hsz2
            unfold ptr at *
            go_wp2_with fail
            refine wp_region_noPanic ?_
            refine wp_region_held_drew (S := fun W => Turn (out B X) wo W) (by kernel_rfl) (Turn.refl _ wo).drew (fun hHeld => ?_)
            refine' wpAnyH_take (i := 0) (v := .agg #[.pointer (some ⟨p, 0, none⟩), .pointer (some ⟨q, 0, none⟩)]) rfl (by kernel_rfl) (by kernel_rfl) (by kernel_rfl) (fun _ _ _ h => h) (Or.inl ⟨by kernel_rfl, fun W hW => ?y1⟩) hHeld ?r1
            · obtain ⟨z0, z1, _⟩ := HZ.out W hW
              go_simp
            refine' wpAnyH_take (i := 1) (v := .slice (some ⟨b, off, none⟩) l.length sc) rfl (by kernel_rfl) (by kernel_rfl) (by kernel_rfl) (fun _ _ _ h => h) (Or.inl ⟨by kernel_rfl, fun W hW => ?y2⟩) hHeld ?r2
            · go_simp
            refine' wpAnyH_take (i := 2) (v := .int .i64 i) rfl (by kernel_rfl) (by kernel_rfl) (by kernel_rfl) (fun _ _ _ h => h) (Or.inl ⟨by kernel_rfl, fun W hW => ?y3⟩) hHeld ?r3
            · go_simp
            refine' wpAnyH_take (i := 3) (v := .pointer (some ⟨b, off + i * 10, none⟩)) rfl (by kernel_rfl) (by kernel_rfl) (by kernel_rfl) (fun _ _ _ h => h) (Or.inl ⟨by kernel_rfl, fun W hW => ?y4⟩) hHeld ?r4
            · go_simp
            refine' wpAnyH_take (i := 4) (v := .agg #[.int .i64 o.kind, .int .i64 o.who, .string ⟨o.nm.toArray⟩, .slice va vn vc, .int .i64 o.n, .int .i64 o.t.when, .int .i64 o.t.kind, .bool o.t.done, .slice ka kn kc, .int .u8 o.junk.toNat]) rfl (by kernel_rfl) (by kernel_rfl) (by kernel_rfl) (fun _ _ _ h => h) (Or.inl ⟨by kernel_rfl, fun W hW => ?y5⟩) hHeld ?r5
            · obtain ⟨_, _, _, _, d0, d1, d2, d3, d4, d5, d6, d7, d8, d9⟩ := HZ.out W hW
              go_simp
            refine wpAnyH_ready (rs := [5]) (by kernel_rfl) (by simp) ?_
            refine AllReadyH.cons rfl (fun K hK => ?_) AllReadyH.nil
            go_simp
            refine HST.out.mono ?_
            rintro e w' ⟨rfl, hQ', t'⟩
            have S' : Turn (out B X) wo w' := ((Turn.refl no wo).drew.of_no).trans t' (fun k _ e => e)
            have hQ2 : Qd B Y w' p q sx p' q' s2 := (hQ').free (fun k e => by rw [HXX.out]; exact Or.inl e)
            have HQN := shut hQ2
            have HT' : Shut (Turn (out B Y) w6 w') := ((HT.out.then_no HTO.out).trans HT2'.out (fun k hk e => by have := HT.out.size; omega)).trans S' (fun k _ e => ⟨e.1, fun y => e.2 (by rw [HXX.out]; exact Or.inl y)⟩)
            clear hQ' t' hQ2
            go_wp2_with fail
            refine hK.out _ _ S' (fun hHeld => ?_)
            clear hK
            refine' wpAnyH_take (i := 6) (v := .bool true) rfl (by kernel_rfl) (by kernel_rfl) (by kernel_rfl) (fun _ _ _ h => h) (Or.inl ⟨by kernel_rfl, fun W hW => ?y6⟩) hHeld ?r6
            · go_simp
            refine wpAnyH_done (by kernel_rfl) ?_ _
            refine NoPanic.normal ?_
            have ra := HR46.out.turn HT'.out (fun e => e.2 (by rw [HYY.out]; exact Or.inl rfl))
            have rb := HR6.out.turn HT'.out (fun e => e.2 (by rw [HYY.out]; exact Or.inr rfl))
            have a0 := ra.cell 0 _ rfl
            have a1 := ra.cell 1 _ rfl
            have hto1 := HQN.out.told
            have HRB := shut rb
            clear ra rb
            unfold ptr at *
            go_wp2_with fail
            refine hto1.mono ?_
            clear hto1
            rintro e w7 ⟨rfl, t7⟩
            have rb := HRB.out.turn t7 (fun e => e)
            have b0 := rb.cell 0 _ rfl
            have b1 := rb.cell 1 _ rfl
            have hto2 := (HQN.out.turn_no t7).swap.told
            have HT7 := shut t7
            clear rb t7 a0 a1
            unfold ptr at *
            go_wp2_with fail
            refine hto2.mono ?_
            clear hto2
            rintro e w8 ⟨rfl, t8⟩
            have HQ8 := shut ((HQN.out.turn_no HT7.out).turn_no t8)
            have HT8 := shut ((HT'.out.then_no HT7.out).then_no t8)
            clear t8
            go_wp2_with fail
            go_roundw
            case rel => exact ⟨i + 1, sx, s2, by omega, rfl, by go_num, HQ8, HNN, HT8⟩
            case measure => simp [intOf]; omega
          | true =>
            obtain ⟨q1, q2, q3, q4, q5, q6⟩ := pair_set HRO.out (.pointer (some ⟨p', 0, none⟩)) (.pointer (some ⟨q', 0, none⟩))
            obtain ⟨w9, hw9⟩ : ∃ w9, (wo.setCell ⟨ga, 0, none⟩ (.pointer (some ⟨p', 0, none⟩))).setCell ⟨ga, 1, none⟩ (.pointer (some ⟨q', 0, none⟩)) = w9 := ⟨_, rfl⟩
            rw [hw9] at q1 q2
            have T2 := q2
            have HRW := shut q1
            clear q1 q2
            have hQ := ((HQO.out.turn T2 (fun k e z => z.2 (by rw [HXX.out]; exact Or.inr e))).turn_no ((Turn.refl no w9).drew)).swap
            have hsz2 := T2.size
            have hst := Qd.step hQ (by have := HBO.out; exact Nat.le_trans (by omega) (Turn.refl no w9).drew.size) (fun k e => by have := HXL.out k e; have := (Turn.refl no w9).drew.size; omega) (by have := HNM'.out; omega) (by have := HNM'.out; omega) o (((HOX.out.turn_no HTO.out).turn T2 (fun k e => by have := HB6.out; have := HT.out.size; omega)).turn_no ((Turn.refl no w9).drew)) HO2.out.1 HO2.out.2
            rw [HEO.out] at hst
            obtain ⟨bn, bm⟩ := st_bounds s2 o
            generalize hsx : stS s2 o = sx at *
            have HNN : Shut (s1.n ≤ i + 1 ∧ s1.m ≤ i + 1 ∧ sx.n ≤ i + 1 ∧ sx.m ≤ i + 1) := by have := HNM'.out; exact ⟨by omega, by omega, by omega, by omega⟩
            have hz : ∀ W, Turn (out B X) w9 W → W.cell? ⟨ga, 0, none⟩ = some (.pointer (some ⟨p', 0, none⟩)) ∧ W.cell? ⟨ga, 1, none⟩ = some (.pointer (some ⟨q', 0, none⟩)) ∧ OpAt W b (off + i * 10) o va vn vc ka kn kc := fun W t => by
              have r := HRW.out.turn t (fun e => e.2 (by rw [HXX.out]; exact Or.inr rfl))
              exact ⟨r.cell 0 _ rfl, r.cell 1 _ rfl, ((HAT.out.turn HTO.out (fun e => e)).turn T2 (fun e => by have := HBL.out; have := HB6.out; have := HT.out.size; omega)).turn t (fun e => by have := e.1; have := HBL.out; omega)⟩
            have HZ := shut hz
            have HST := shut hst
            have HT2' := shut T2
            clear hst hz hQ bn bm hsx T2 hsz2
            unfold ptr at *
            go_wp2_with fail
            try rw [hw9]
            refine wp_region_noPanic ?_
            refine wp_region_held_drew (S := fun W => Turn (out B X) w9 W) (by kernel_rfl) (Turn.refl _ w9).drew (fun hHeld => ?_)
            refine' wpAnyH_take (i := 0) (v := .agg #[.pointer (some ⟨p', 0, none⟩), .pointer (some ⟨q', 0, none⟩)]) rfl (by kernel_rfl) (by kernel_rfl) (by kernel_rfl) (fun _ _ _ h => h) (Or.inl ⟨by kernel_rfl, fun W hW => ?y7⟩) hHeld ?r7
            · obtain ⟨z0, z1, _⟩ := HZ.out W hW
              go_simp
            refine' wpAnyH_take (i := 1) (v := .slice (some ⟨b, off, none⟩) l.length sc) rfl (by kernel_rfl) (by kernel_rfl) (by kernel_rfl) (fun _ _ _ h => h) (Or.inl ⟨by kernel_rfl, fun W hW => ?y8⟩) hHeld ?r8
            · go_simp
            refine' wpAnyH_take (i := 2) (v := .int .i64 i) rfl (by kernel_rfl) (by kernel_rfl) (by kernel_rfl) (fun _ _ _ h => h) (Or.inl ⟨by kernel_rfl, fun W hW => ?y9⟩) hHeld ?r9
            · go_simp
            refine' wpAnyH_take (i := 3) (v := .pointer (some ⟨b, off + i * 10, none⟩)) rfl (by kernel_rfl) (by kernel_rfl) (by kernel_rfl) (fun _ _ _ h => h) (Or.inl ⟨by kernel_rfl, fun W hW => ?y10⟩) hHeld ?r10
            · go_simp
            refine' wpAnyH_take (i := 4) (v := .agg #[.int .i64 o.kind, .int .i64 o.who, .string ⟨o.nm.toArray⟩, .slice va vn vc, .int .i64 o.n, .int .i64 o.t.when, .int .i64 o.t.kind, .bool o.t.done, .slice ka kn kc, .int .u8 o.junk.toNat]) rfl (by kernel_rfl) (by kernel_rfl) (by kernel_rfl) (fun _ _ _ h => h) (Or.inl ⟨by kernel_rfl, fun W hW => ?y11⟩) hHeld ?r11
            · obtain ⟨_, _, _, _, d0, d1, d2, d3, d4, d5, d6, d7, d8, d9⟩ := HZ.out W hW
              go_simp
            refine wpAnyH_ready (rs := [5]) (by kernel_rfl) (by simp) ?_
            refine AllReadyH.cons rfl (fun K hK => ?_) AllReadyH.nil
            go_simp
            refine HST.out.mono ?_
            rintro e w' ⟨rfl, hQ', t'⟩
            have S' : Turn (out B X) w9 w' := ((Turn.refl no w9).drew.of_no).trans t' (fun k _ e => e)
            have hQ2 : Qd B Y w' p q s1 p' q' sx := (hQ'.swap).free (fun k e => by rw [HXX.out]; exact Or.inl e)
            have HQN := shut hQ2
            have HT' : Shut (Turn (out B Y) w6 w') := ((HT.out.then_no HTO.out).trans HT2'.out (fun k hk e => by have := HT.out.size; omega)).trans S' (fun k _ e => ⟨e.1, fun y => e.2 (by rw [HXX.out]; exact Or.inl y)⟩)
            clear hQ' t' hQ2
            go_wp2_with fail
            refine hK.out _ _ S' (fun hHeld => ?_)
            clear hK
            refine' wpAnyH_take (i := 6) (v := .bool true) rfl (by kernel_rfl) (by kernel_rfl) (by kernel_rfl) (fun _ _ _ h => h) (Or.inl ⟨by kernel_rfl, fun W hW => ?y12⟩) hHeld ?r12
            · go_simp
            refine wpAnyH_done (by kernel_rfl) ?_ _
            refine NoPanic.normal ?_
            have ra := HR46.out.turn HT'.out (fun e => e.2 (by rw [HYY.out]; exact Or.inl rfl))
            have rb := HR6.out.turn HT'.out (fun e => e.2 (by rw [HYY.out]; exact Or.inr rfl))
            have a0 := ra.cell 0 _ rfl
            have a1 := ra.cell 1 _ rfl
            have hto1 := HQN.out.told
            have HRB := shut rb
            clear ra rb
            unfold ptr at *
            go_wp2_with fail
            refine hto1.mono ?_
            clear hto1
            rintro e w7 ⟨rfl, t7⟩
            have rb := HRB.out.turn t7 (fun e => e)
            have b0 := rb.cell 0 _ rfl
            have b1 := rb.cell 1 _ rfl
            have hto2 := (HQN.out.turn_no t7).swap.told
            have HT7 := shut t7
            clear rb t7 a0 a1
            unfold ptr at *
            go_wp2_with fail
            refine hto2.mono ?_
            clear hto2
            rintro e w8 ⟨rfl, t8⟩
            have HQ8 := shut ((HQN.out.turn_no HT7.out).turn_no t8)
            have HT8 := shut ((HT'.out.then_no HT7.out).then_no t8)
            clear t8
            go_wp2_with fail
            go_roundw
            case rel => exact ⟨i + 1, s1, sx, by omega, rfl, by go_num, HQ8, HNN, HT8⟩
            case measure => simp [intOf]; omega
        · have hlt' : ¬ (i : Int) < (l.length : Int) := by omega
          have FIN : Shut (Turn no w wr) := FIN0.out.trans HT.out (fun k hk e => by have := e.1; have := HB6.out; omega)
          go_wp2_with fail
          go_ret
          exact ⟨rfl, FIN.out⟩
    · subst hw6
      go_wp2_with fail
      go_ret
      exact ⟨rfl, FIN0.out⟩
  · rcases HG2.out with ⟨p', q', s', rfl, rfl, _, _, _⟩ | ⟨rfl, rfl⟩
    · go_wp2_with fail
      go_ret
      exact ⟨rfl, FIN0.out⟩
    · subst hw6
      go_wp2_with fail
      go_ret
      exact ⟨rfl, FIN0.out⟩
end Go.Proofs.Ytcdogciacchigac
