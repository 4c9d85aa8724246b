/- kept. -/
import Derived.Test.YtdbfbdhnjbmmjaaG11
namespace Go.Proofs.Ytdbfbdhnjbmmjaa
open Go.RowKit
set_option linter.unusedVariables false

theorem As.of_at {w : World} {a : Option Addr} {cap : Nat} {l r : List Ac} (h : AsAt w a cap (l ++ r)) : As w (.slice a l.length cap) l :=
  ⟨a, cap, rfl, by have := h.le; rw [List.length_append] at this; omega, h.cap, fun m hm => h.ok m (by simp [hm]), fun j m hj => h.cells j m (by rw [List.getElem?_append_left (List.getElem?_eq_some_iff.1 hj).1]; exact hj)⟩
theorem Rs.of_at {w : World} {a : Option Addr} {cap : Nat} {l r : List Rl} (h : RsAt w a cap (l ++ r)) : Rs w (.slice a l.length cap) l :=
  ⟨a, cap, rfl, by have := h.le; rw [List.length_append] at this; omega, h.cap, fun m hm => h.ok m (by simp [hm]), fun j m hj => h.cells j m (by rw [List.getElem?_append_left (List.getElem?_eq_some_iff.1 hj).1]; exact hj)⟩
theorem Roomy.turn_no {w w' : World} {ga ac gr rc : Nat} {l : List Ac} {r : List Rl} (h : Roomy w ga ac gr rc l r) (t : Turn no w w') : Roomy w' ga ac gr rc l r := ⟨h.acs.turn_no t, h.rls.turn_no t⟩
theorem Roomy.room {w : World} {ga ac gr rc : Nat} {l : List Ac} {r : List Rl} (h : Roomy w ga ac gr rc l r) : l.length + 2 ≤ ac ∧ ac ≤ maxLen ∧ r.length + 2 ≤ rc ∧ rc ≤ maxLen := by
  have h1 := h.acs.le
  have h2 := h.rls.le
  rw [List.length_append] at h1 h2
  exact ⟨h1, h.acs.cap, h2, h.rls.cap⟩
theorem Roomy.marks {w : World} {ga ac gr rc : Nat} {l : List Ac} {r : List Rl} (h : Roomy w ga ac gr rc l r) : w.cell? ⟨ga, l.length * 5, none⟩ = some (.int .u64 777) ∧ w.cell? ⟨ga, (l.length + 1) * 5, none⟩ = some (.int .u64 778) ∧ w.cell? ⟨gr, r.length * 4 + 1, none⟩ = some (.int .u64 777) ∧ w.cell? ⟨gr, (r.length + 1) * 4 + 1, none⟩ = some (.int .u64 778) := by
  obtain ⟨b0, o0, e0, c0, _⟩ := h.acs.cells l.length ⟨777, 0, 0, 0, false⟩ (by rw [List.getElem?_append_right (by omega)]; simp [acM])
  obtain ⟨b1, o1, e1, c1, _⟩ := h.acs.cells (l.length + 1) ⟨778, 0, 0, 0, false⟩ (by rw [List.getElem?_append_right (by omega)]; simp [acM])
  obtain ⟨b2, o2, e2, _, c2, _⟩ := h.rls.cells r.length ⟨0, 777, 0, 0⟩ (by rw [List.getElem?_append_right (by omega)]; simp [rlM])
  obtain ⟨b3, o3, e3, _, c3, _⟩ := h.rls.cells (r.length + 1) ⟨0, 778, 0, 0⟩ (by rw [List.getElem?_append_right (by omega)]; simp [rlM])
  cases e0
  cases e1
  cases e2
  cases e3
  rw [Nat.zero_add] at c0 c1 c2 c3
  exact ⟨c0, c1, c2, c3⟩
set_option maxRecDepth 100000 in
set_option maxHeartbeats 8000000 in
theorem kept17 (w : World) (ga ac gr rc : Nat) (ua ur : Value) (l : List Ac) (r : List Rl) (hR : Roomy w ga ac gr rc l r) (ha : As w ua l) (hr : Rs w ur r) (b s : Int) : Calls Try.prog 17 #[.agg #[.slice (some ⟨ga, 0, none⟩) (l.length + 2) ac, .slice (some ⟨gr, 0, none⟩) (r.length + 2) rc, .int .u64 b, .int .u64 s], .agg #[ua, ur, .int .u64 b, .int .u64 s]] w fun e w' => e = .returned (.bool true) ∧ Turn no w w' := by
  have HA := shut ha
  have HP := shut hr
  obtain ⟨a, ac', rfl, hA⟩ := ha
  obtain ⟨p, pc', rfl, hP⟩ := hr
  obtain ⟨r1, r2, r3, r4⟩ := hR.room
  have HR := shut hR
  obtain ⟨w0, hw0⟩ : ∃ w0, (w.alloc (.cells #[.slice (some ⟨ga, 0, none⟩) (l.length + 2) ac, .slice (some ⟨gr, 0, none⟩) (r.length + 2) rc, .int .u64 b, .int .u64 s] 29)).alloc (.cells #[.slice a l.length ac', .slice p r.length pc', .int .u64 b, .int .u64 s] 29) = w0 := ⟨_, rfl⟩
  have T0 : Turn no w w0 := by rw [← hw0]; exact ((Turn.refl no w).alloc _).alloc _
  have B0 : Row w0 w.heap.size #[.slice (some ⟨ga, 0, none⟩) (l.length + 2) ac, .slice (some ⟨gr, 0, none⟩) (r.length + 2) rc, .int .u64 b, .int .u64 s] 29 := by rw [← hw0]; exact (Row.new w _ 29).alloc _
  have B1 : Row w0 (w.heap.size + 1) #[.slice a l.length ac', .slice p r.length pc', .int .u64 b, .int .u64 s] 29 := by rw [← hw0]; exact Row.newAt _ _ _ _ (by simp)
  have HX : Shut (∀ W, Turn no w0 W → (W.cell? ⟨w.heap.size, 0, none⟩ = some (.slice (some ⟨ga, 0, none⟩) (l.length + 2) ac) ∧ W.cell? ⟨w.heap.size, 1, none⟩ = some (.slice (some ⟨gr, 0, none⟩) (r.length + 2) rc) ∧ W.cell? ⟨w.heap.size, 2, none⟩ = some (.int .u64 b) ∧ W.cell? ⟨w.heap.size, 3, none⟩ = some (.int .u64 s)) ∧
      (W.cell? ⟨w.heap.size + 1, 0, none⟩ = some (.slice a l.length ac') ∧ W.cell? ⟨w.heap.size + 1, 1, none⟩ = some (.slice p r.length pc') ∧ W.cell? ⟨w.heap.size + 1, 2, none⟩ = some (.int .u64 b) ∧ W.cell? ⟨w.heap.size + 1, 3, none⟩ = some (.int .u64 s)) ∧
      (W.cell? ⟨ga, l.length * 5, none⟩ = some (.int .u64 777) ∧ W.cell? ⟨ga, (l.length + 1) * 5, none⟩ = some (.int .u64 778) ∧ W.cell? ⟨gr, r.length * 4 + 1, none⟩ = some (.int .u64 777) ∧ W.cell? ⟨gr, (r.length + 1) * 4 + 1, none⟩ = some (.int .u64 778)) ∧ Turn no w W) := fun W t =>
    ⟨⟨t.keep (B0.cell 0 _ rfl) (fun q => q), t.keep (B0.cell 1 _ rfl) (fun q => q), t.keep (B0.cell 2 _ rfl) (fun q => q), t.keep (B0.cell 3 _ rfl) (fun q => q)⟩,
     ⟨t.keep (B1.cell 0 _ rfl) (fun q => q), t.keep (B1.cell 1 _ rfl) (fun q => q), t.keep (B1.cell 2 _ rfl) (fun q => q), t.keep (B1.cell 3 _ rfl) (fun q => q)⟩, (HR.out.turn_no (T0.then_no t)).marks, T0.then_no t⟩
  have HC : Shut (∀ W, Turn no w0 W → Calls Try.prog 12 #[.agg #[.slice (some ⟨ga, 0, none⟩) (l.length + 2) ac, .slice (some ⟨gr, 0, none⟩) (r.length + 2) rc, .int .u64 b, .int .u64 s]] W fun e w' => e = .returned (.agg #[.slice (some ⟨ga, 0, none⟩) l.length ac, .slice (some ⟨gr, 0, none⟩) r.length rc, .int .u64 b, .int .u64 s]) ∧ Turn no W w') := fun W t => cut12 W _ _ _ _ _ _ r1 r2 r3 r4 b s
  have HS : Shut (∀ W, Turn no w0 W → Calls Try.prog 16 #[.agg #[.slice (some ⟨ga, 0, none⟩) l.length ac, .slice (some ⟨gr, 0, none⟩) r.length rc, .int .u64 b, .int .u64 s], .agg #[.slice a l.length ac', .slice p r.length pc', .int .u64 b, .int .u64 s]] W fun e w' => e = .returned (.bool true) ∧ Turn no W w') := fun W t =>
    same16 W _ _ _ _ l r (As.of_at (HR.out.acs.turn_no (T0.then_no t))) (Rs.of_at (HR.out.rls.turn_no (T0.then_no t))) (HA.out.turn_no (T0.then_no t)) (HP.out.turn_no (T0.then_no t)) b s
  simp only [maxLen] at r2 r4
  obtain ⟨_, ⟨y0, y1, _, _⟩, _⟩ := HX.out w0 (Turn.refl no w0)
  clear hA hP hR T0 B0 B1 HA HP HR
  generalize l.length = n at *
  generalize r.length = k at *
  go_enter Try.func17, Try.ntmps17
  go_upto_region 1 with fail
  try rw [hw0]
  go_upto_region 3 with fail
  clear y0 y1 hw0
  refine wp_region_held_drew (S := fun W => Turn no w0 W) (by kernel_rfl) (Turn.refl no w0).drew (fun hHeld => ?_)
  refine' wpAnyH_take (i := 0) (v := .agg #[.slice (some ⟨ga, 0, none⟩) (n + 2) ac, .slice (some ⟨gr, 0, none⟩) (k + 2) rc, .int .u64 b, .int .u64 s]) rfl (by kernel_rfl) (by kernel_rfl) (by kernel_rfl) (fun _ _ _ h => h) (Or.inl ⟨by kernel_rfl, fun W hW => ?y1⟩) hHeld ?r1
  · obtain ⟨⟨q0, q1, q2, q3⟩, ⟨u0, u1, u2, u3⟩, ⟨v0, v1, v2, v3⟩, _⟩ := HX.out W hW
    go_simp
  refine' wpAnyH_take (i := 2) (v := .agg #[.slice a n ac', .slice p k pc', .int .u64 b, .int .u64 s]) rfl (by kernel_rfl) (by kernel_rfl) (by kernel_rfl) (fun _ _ _ h => h) (Or.inl ⟨by kernel_rfl, fun W hW => ?y2⟩) hHeld ?r2
  · obtain ⟨⟨q0, q1, q2, q3⟩, ⟨u0, u1, u2, u3⟩, ⟨v0, v1, v2, v3⟩, _⟩ := HX.out W hW
    go_simp
  refine wpAnyH_ready (rs := [1]) (by kernel_rfl) (by simp) ?_
  refine AllReadyH.cons rfl (fun K hK => ?_) AllReadyH.nil
  go_simp
  refine (HC.out _ hHeld).mono ?_
  rintro e w1c ⟨rfl, t1c⟩
  refine hK.out _ _ (hHeld.then_no t1c) (fun hHeld => ?_)
  clear hK
  refine wpAnyH_ready (rs := [3]) (by kernel_rfl) (by simp) ?_
  refine AllReadyH.cons rfl (fun K hK => ?_) AllReadyH.nil
  go_simp
  refine (HS.out _ hHeld).mono ?_
  rintro e w3c ⟨rfl, t3c⟩
  refine hK.out _ _ (hHeld.then_no t3c) (fun hHeld => ?_)
  clear hK
  refine' wpAnyH_take (i := 4) (v := .bool true) rfl (by kernel_rfl) (by kernel_rfl) (by kernel_rfl) (fun _ _ _ h => h) (Or.inl ⟨by kernel_rfl, fun W hW => ?y3⟩) hHeld ?r3
  · go_simp
  refine' wpAnyH_take (i := 5) (v := .pointer (some ⟨w.heap.size, 0, none⟩)) rfl (by kernel_rfl) (by kernel_rfl) (by kernel_rfl) (fun _ _ _ h => h) (Or.inl ⟨by kernel_rfl, fun W hW => ?y4⟩) hHeld ?r4
  · go_simp
  refine' wpAnyH_take (i := 6) (v := .slice (some ⟨ga, 0, none⟩) (n + 2) ac) rfl (by kernel_rfl) (by kernel_rfl) (by kernel_rfl) (fun _ _ _ h => h) (Or.inl ⟨by kernel_rfl, fun W hW => ?y5⟩) hHeld ?r5
  · obtain ⟨⟨q0, q1, q2, q3⟩, ⟨u0, u1, u2, u3⟩, ⟨v0, v1, v2, v3⟩, _⟩ := HX.out W hW
    go_simp
  refine' wpAnyH_take (i := 7) (v := .int .i64 n) rfl (by kernel_rfl) (by kernel_rfl) (by kernel_rfl) (fun _ _ _ h => h) (Or.inl ⟨by kernel_rfl, fun W hW => ?y6⟩) hHeld ?r6
  · go_simp
  refine' wpAnyH_take (i := 8) (v := .pointer (some ⟨ga, n * 5, none⟩)) rfl (by kernel_rfl) (by kernel_rfl) (by kernel_rfl) (fun _ _ _ h => h) (Or.inl ⟨by kernel_rfl, fun W hW => ?y7⟩) hHeld ?r7
  · go_simp
    omega
  refine' wpAnyH_take (i := 9) (v := .pointer (some ⟨ga, n * 5, none⟩)) rfl (by kernel_rfl) (by kernel_rfl) (by kernel_rfl) (fun _ _ _ h => h) (Or.inl ⟨by kernel_rfl, fun W hW => ?y8⟩) hHeld ?r8
  · go_simp
  refine' wpAnyH_take (i := 10) (v := .int .u64 777) rfl (by kernel_rfl) (by kernel_rfl) (by kernel_rfl) (fun _ _ _ h => h) (Or.inl ⟨by kernel_rfl, fun W hW => ?y9⟩) hHeld ?r9
  · obtain ⟨⟨q0, q1, q2, q3⟩, ⟨u0, u1, u2, u3⟩, ⟨v0, v1, v2, v3⟩, _⟩ := HX.out W hW
    go_simp
  refine' wpAnyH_take (i := 11) (v := .bool true) rfl (by kernel_rfl) (by kernel_rfl) (by kernel_rfl) (fun _ _ _ h => h) (Or.inl ⟨by kernel_rfl, fun W hW => ?y10⟩) hHeld ?r10
  · go_simp
  refine' wpAnyH_take (i := 12) (v := .bool true) rfl (by kernel_rfl) (by kernel_rfl) (by kernel_rfl) (fun _ _ _ h => h) (Or.inl ⟨by kernel_rfl, fun W hW => ?y11⟩) hHeld ?r11
  · go_simp
  refine' wpAnyH_take (i := 13) (v := .bool true) rfl (by kernel_rfl) (by kernel_rfl) (by kernel_rfl) (fun _ _ _ h => h) (Or.inl ⟨by kernel_rfl, fun W hW => ?y12⟩) hHeld ?r12
  · go_simp
  refine' wpAnyH_take (i := 14) (v := .pointer (some ⟨w.heap.size, 0, none⟩)) rfl (by kernel_rfl) (by kernel_rfl) (by kernel_rfl) (fun _ _ _ h => h) (Or.inl ⟨by kernel_rfl, fun W hW => ?y13⟩) hHeld ?r13
  · go_simp
  refine' wpAnyH_take (i := 15) (v := .slice (some ⟨ga, 0, none⟩) (n + 2) ac) rfl (by kernel_rfl) (by kernel_rfl) (by kernel_rfl) (fun _ _ _ h => h) (Or.inl ⟨by kernel_rfl, fun W hW => ?y14⟩) hHeld ?r14
  · obtain ⟨⟨q0, q1, q2, q3⟩, ⟨u0, u1, u2, u3⟩, ⟨v0, v1, v2, v3⟩, _⟩ := HX.out W hW
    go_simp
  refine' wpAnyH_take (i := 16) (v := .int .i64 n) rfl (by kernel_rfl) (by kernel_rfl) (by kernel_rfl) (fun _ _ _ h => h) (Or.inl ⟨by kernel_rfl, fun W hW => ?y15⟩) hHeld ?r15
  · go_simp
  refine' wpAnyH_take (i := 17) (v := .int .i64 (n + 1)) rfl (by kernel_rfl) (by kernel_rfl) (by kernel_rfl) (fun _ _ _ h => h) (Or.inl ⟨by kernel_rfl, fun W hW => ?y16⟩) hHeld ?r16
  · go_simp
    rw [IntKind.wrap_i64]
    omega
  refine' wpAnyH_take (i := 18) (v := .pointer (some ⟨ga, (n + 1) * 5, none⟩)) rfl (by kernel_rfl) (by kernel_rfl) (by kernel_rfl) (fun _ _ _ h => h) (Or.inl ⟨by kernel_rfl, fun W hW => ?y17⟩) hHeld ?r17
  · go_simp
    omega
  refine' wpAnyH_take (i := 19) (v := .pointer (some ⟨ga, (n + 1) * 5, none⟩)) rfl (by kernel_rfl) (by kernel_rfl) (by kernel_rfl) (fun _ _ _ h => h) (Or.inl ⟨by kernel_rfl, fun W hW => ?y18⟩) hHeld ?r18
  · go_simp
  refine' wpAnyH_take (i := 20) (v := .int .u64 778) rfl (by kernel_rfl) (by kernel_rfl) (by kernel_rfl) (fun _ _ _ h => h) (Or.inl ⟨by kernel_rfl, fun W hW => ?y19⟩) hHeld ?r19
  · obtain ⟨⟨q0, q1, q2, q3⟩, ⟨u0, u1, u2, u3⟩, ⟨v0, v1, v2, v3⟩, _⟩ := HX.out W hW
    go_simp
  refine' wpAnyH_take (i := 21) (v := .bool true) rfl (by kernel_rfl) (by kernel_rfl) (by kernel_rfl) (fun _ _ _ h => h) (Or.inl ⟨by kernel_rfl, fun W hW => ?y20⟩) hHeld ?r20
  · go_simp
  refine' wpAnyH_take (i := 22) (v := .bool true) rfl (by kernel_rfl) (by kernel_rfl) (by kernel_rfl) (fun _ _ _ h => h) (Or.inl ⟨by kernel_rfl, fun W hW => ?y21⟩) hHeld ?r21
  · go_simp
  refine' wpAnyH_take (i := 23) (v := .bool true) rfl (by kernel_rfl) (by kernel_rfl) (by kernel_rfl) (fun _ _ _ h => h) (Or.inl ⟨by kernel_rfl, fun W hW => ?y22⟩) hHeld ?r22
  · go_simp
  refine' wpAnyH_take (i := 24) (v := .pointer (some ⟨w.heap.size, 1, none⟩)) rfl (by kernel_rfl) (by kernel_rfl) (by kernel_rfl) (fun _ _ _ h => h) (Or.inl ⟨by kernel_rfl, fun W hW => ?y23⟩) hHeld ?r23
  · go_simp
  refine' wpAnyH_take (i := 25) (v := .slice (some ⟨gr, 0, none⟩) (k + 2) rc) rfl (by kernel_rfl) (by kernel_rfl) (by kernel_rfl) (fun _ _ _ h => h) (Or.inl ⟨by kernel_rfl, fun W hW => ?y24⟩) hHeld ?r24
  · obtain ⟨⟨q0, q1, q2, q3⟩, ⟨u0, u1, u2, u3⟩, ⟨v0, v1, v2, v3⟩, _⟩ := HX.out W hW
    go_simp
  refine' wpAnyH_take (i := 26) (v := .int .i64 k) rfl (by kernel_rfl) (by kernel_rfl) (by kernel_rfl) (fun _ _ _ h => h) (Or.inl ⟨by kernel_rfl, fun W hW => ?y25⟩) hHeld ?r25
  · go_simp
  refine' wpAnyH_take (i := 27) (v := .pointer (some ⟨gr, k * 4, none⟩)) rfl (by kernel_rfl) (by kernel_rfl) (by kernel_rfl) (fun _ _ _ h => h) (Or.inl ⟨by kernel_rfl, fun W hW => ?y26⟩) hHeld ?r26
  · go_simp
    omega
  refine' wpAnyH_take (i := 28) (v := .pointer (some ⟨gr, k * 4 + 1, none⟩)) rfl (by kernel_rfl) (by kernel_rfl) (by kernel_rfl) (fun _ _ _ h => h) (Or.inl ⟨by kernel_rfl, fun W hW => ?y27⟩) hHeld ?r27
  · go_simp
  refine' wpAnyH_take (i := 29) (v := .int .u64 777) rfl (by kernel_rfl) (by kernel_rfl) (by kernel_rfl) (fun _ _ _ h => h) (Or.inl ⟨by kernel_rfl, fun W hW => ?y28⟩) hHeld ?r28
  · obtain ⟨⟨q0, q1, q2, q3⟩, ⟨u0, u1, u2, u3⟩, ⟨v0, v1, v2, v3⟩, _⟩ := HX.out W hW
    go_simp
  refine' wpAnyH_take (i := 30) (v := .bool true) rfl (by kernel_rfl) (by kernel_rfl) (by kernel_rfl) (fun _ _ _ h => h) (Or.inl ⟨by kernel_rfl, fun W hW => ?y29⟩) hHeld ?r29
  · go_simp
  refine' wpAnyH_take (i := 31) (v := .bool true) rfl (by kernel_rfl) (by kernel_rfl) (by kernel_rfl) (fun _ _ _ h => h) (Or.inl ⟨by kernel_rfl, fun W hW => ?y30⟩) hHeld ?r30
  · go_simp
  refine' wpAnyH_take (i := 32) (v := .bool true) rfl (by kernel_rfl) (by kernel_rfl) (by kernel_rfl) (fun _ _ _ h => h) (Or.inl ⟨by kernel_rfl, fun W hW => ?y31⟩) hHeld ?r31
  · go_simp
  refine' wpAnyH_take (i := 33) (v := .pointer (some ⟨w.heap.size, 1, none⟩)) rfl (by kernel_rfl) (by kernel_rfl) (by kernel_rfl) (fun _ _ _ h => h) (Or.inl ⟨by kernel_rfl, fun W hW => ?y32⟩) hHeld ?r32
  · go_simp
  refine' wpAnyH_take (i := 34) (v := .slice (some ⟨gr, 0, none⟩) (k + 2) rc) rfl (by kernel_rfl) (by kernel_rfl) (by kernel_rfl) (fun _ _ _ h => h) (Or.inl ⟨by kernel_rfl, fun W hW => ?y33⟩) hHeld ?r33
  · obtain ⟨⟨q0, q1, q2, q3⟩, ⟨u0, u1, u2, u3⟩, ⟨v0, v1, v2, v3⟩, _⟩ := HX.out W hW
    go_simp
  refine' wpAnyH_take (i := 35) (v := .int .i64 k) rfl (by kernel_rfl) (by kernel_rfl) (by kernel_rfl) (fun _ _ _ h => h) (Or.inl ⟨by kernel_rfl, fun W hW => ?y34⟩) hHeld ?r34
  · go_simp
  refine' wpAnyH_take (i := 36) (v := .int .i64 (k + 1)) rfl (by kernel_rfl) (by kernel_rfl) (by kernel_rfl) (fun _ _ _ h => h) (Or.inl ⟨by kernel_rfl, fun W hW => ?y35⟩) hHeld ?r35
  · go_simp
    rw [IntKind.wrap_i64]
    omega
  refine' wpAnyH_take (i := 37) (v := .pointer (some ⟨gr, (k + 1) * 4, none⟩)) rfl (by kernel_rfl) (by kernel_rfl) (by kernel_rfl) (fun _ _ _ h => h) (Or.inl ⟨by kernel_rfl, fun W hW => ?y36⟩) hHeld ?r36
  · go_simp
    omega
  refine' wpAnyH_take (i := 38) (v := .pointer (some ⟨gr, (k + 1) * 4 + 1, none⟩)) rfl (by kernel_rfl) (by kernel_rfl) (by kernel_rfl) (fun _ _ _ h => h) (Or.inl ⟨by kernel_rfl, fun W hW => ?y37⟩) hHeld ?r37
  · go_simp
  refine' wpAnyH_take (i := 39) (v := .int .u64 778) rfl (by kernel_rfl) (by kernel_rfl) (by kernel_rfl) (fun _ _ _ h => h) (Or.inl ⟨by kernel_rfl, fun W hW => ?y38⟩) hHeld ?r38
  · obtain ⟨⟨q0, q1, q2, q3⟩, ⟨u0, u1, u2, u3⟩, ⟨v0, v1, v2, v3⟩, _⟩ := HX.out W hW
    go_simp
  refine' wpAnyH_take (i := 40) (v := .bool true) rfl (by kernel_rfl) (by kernel_rfl) (by kernel_rfl) (fun _ _ _ h => h) (Or.inl ⟨by kernel_rfl, fun W hW => ?y39⟩) hHeld ?r39
  · go_simp
  refine' wpAnyH_take (i := 41) (v := .bool true) rfl (by kernel_rfl) (by kernel_rfl) (by kernel_rfl) (fun _ _ _ h => h) (Or.inl ⟨by kernel_rfl, fun W hW => ?y40⟩) hHeld ?r40
  · go_simp
  refine' wpAnyH_take (i := 42) (v := .bool true) rfl (by kernel_rfl) (by kernel_rfl) (by kernel_rfl) (fun _ _ _ h => h) (Or.inl ⟨by kernel_rfl, fun W hW => ?y41⟩) hHeld ?r41
  · go_simp
  refine wpAnyH_done (by kernel_rfl) ?_ _
  go_simp
  have HN := shut hHeld
  clear hHeld
  go_wp2_with fail
  go_ret
  exact ⟨rfl, (HX.out _ HN.out).2.2.2⟩
end Go.Proofs.Ytdbfbdhnjbmmjaa
