/- Texts in one. -/
import Derived.Test.YtgimecdmleofeaaDoorZd
import Derived.Test.YtgimecdmleofeaaDoorZe
import Derived.Test.YtgimecdmleofeaaDoorZc
import Derived.Test.YtgimecdmleofeaaDoorR5
import Derived.Test.YtgimecdmleofeaaDoorLaid
import Derived.ProofKit
import Derived.OpenShut
import Derived.ShutString
import Derived.ChangeOld
import Derived.SizedLaws
import Derived.Lib.SmallJoins
import Derived.Deep.Slices
import Derived.Carry
/- What stands behind the lists: keptCert, keptBlock. -/
namespace Go.Proofs.YtgimecdmleofeaaDoor
open Go.RowKit
set_option linter.unusedVariables false

/-- A list in a block of its own, two marks behind it. -/
structure Rm (w : World) (e : TypeId) (sz g n cp : Nat) (L : List El) (X0 X1 : List Value) : Prop where
  own : OwnN w e sz (.slice (some ⟨g, 0, none⟩) (n + 2) cp) (n + 2) (flatE L ++ (X0 ++ X1))
  ln : L.length = n
  len : ∀ x ∈ L, x.cs.length = sz
  one : ∀ x ∈ L, ∀ u ∈ x.cs, u.oneCell' = true
  l0 : X0.length = sz
theorem Rm.turn {w w' : World} {S : Nat → Prop} {e : TypeId} {sz g n cp : Nat} {L : List El} {X0 X1 : List Value} (h : Rm w e sz g n cp L X0 X1) (t : Turn S w w') (hg : ¬ S g) : Rm w' e sz g n cp L X0 X1 :=
  ⟨h.own.turn t (fun g' q => by cases q; exact hg), h.ln, h.len, h.one, h.l0⟩
theorem Rm.turn_no {w w' : World} {e : TypeId} {sz g n cp : Nat} {L : List El} {X0 X1 : List Value} (h : Rm w e sz g n cp L X0 X1) (t : Turn no w w') : Rm w' e sz g n cp L X0 X1 := h.turn t (fun q => q)
theorem Rm.room {w : World} {e : TypeId} {sz g n cp : Nat} {L : List El} {X0 X1 : List Value} (h : Rm w e sz g n cp L X0 X1) : n + 2 ≤ cp ∧ cp ≤ maxLen := by
  obtain ⟨a, c, q, _, _, h1, h2⟩ := h.own.form
  cases q
  exact ⟨h1, h2⟩
theorem Rm.at {w : World} {e : TypeId} {sz g n cp : Nat} {L : List El} {X0 X1 : List Value} (h : Rm w e sz g n cp L X0 X1) (j : Nat) (u : Value) (hu : (flatE L ++ (X0 ++ X1))[j]? = some u) : w.cell? ⟨g, j, none⟩ = some u := by
  have := World.ownsRow.cells h.own (g := g) rfl j u hu
  simpa [Addr.add_lit] using this
theorem Rm.c0 {w : World} {e : TypeId} {sz g n cp : Nat} {L : List El} {X0 X1 : List Value} (h : Rm w e sz g n cp L X0 X1) (i : Nat) (u : Value) (hu : X0[i]? = some u) : w.cell? ⟨g, n * sz + i, none⟩ = some u := by
  refine h.at _ _ ?_
  have hf := flatE_len L h.len
  rw [h.ln] at hf
  rw [List.getElem?_append_right (by omega), hf, show n * sz + i - n * sz = i by omega, List.getElem?_append_left (List.getElem?_eq_some_iff.1 hu).1]
  exact hu
theorem Rm.c1 {w : World} {e : TypeId} {sz g n cp : Nat} {L : List El} {X0 X1 : List Value} (h : Rm w e sz g n cp L X0 X1) (i : Nat) (u : Value) (hu : X1[i]? = some u) : w.cell? ⟨g, (n + 1) * sz + i, none⟩ = some u := by
  refine h.at _ _ ?_
  have hf := flatE_len L h.len
  have h0 := h.l0
  rw [h.ln] at hf
  have e1 : (n + 1) * sz = n * sz + sz := by rw [Nat.add_mul, Nat.one_mul]
  rw [List.getElem?_append_right (by omega), hf, List.getElem?_append_right (by omega), h0, show (n + 1) * sz + i - n * sz - sz = i by omega]
  exact hu
/-- The list in front of the marks. -/
theorem Rm.ts {w : World} {e : TypeId} {sz g n cp : Nat} {L : List El} {X0 X1 : List Value} (h : Rm w e sz g n cp L X0 X1) : TsAt w sz (some ⟨g, 0, none⟩) cp L :=
  ⟨by have := h.room; rw [h.ln]; omega, h.room.2, h.len, h.one, fun j x hj => ⟨g, 0, rfl, fun i u hu => by
    rw [Nat.zero_add]
    refine h.at _ _ ?_
    have hf := flatE_len L h.len
    have hi := (List.getElem?_eq_some_iff.1 hu).1
    rw [h.len x (List.mem_of_getElem? hj)] at hi
    have hq := flatE_at L h.len j x hj i hi
    rw [List.getElem?_append_left (by
      have := (List.getElem?_eq_some_iff.1 (hq.trans hu)).1
      exact this)]
    exact hq.trans hu⟩⟩
def tgX (n : Nat) : List Value := (⟨0, 0, 0, 0, 7700 + n, 0, List.replicate 16 0⟩ : Tx).cs
def tgV (n : Nat) : List Value := (⟨⟨0, 0, 0, List.replicate 32 0, ((7700 + n : Nat) : Int), 0, List.replicate 16 0⟩, vt0⟩ : Ev).cs
theorem tag_const0 (w : World) : Calls Tryd.prog 38 #[.int .i64 0] w fun e w' => e = .returned (.int .u64 7700) ∧ Turn no w w' := (tag38 w 0 (by omega)).mono fun e w' h => ⟨h.1, by rw [h.2]; exact Turn.refl _ _⟩
theorem tag_const1 (w : World) : Calls Tryd.prog 38 #[.int .i64 1] w fun e w' => e = .returned (.int .u64 7701) ∧ Turn no w w' := (tag38 w 1 (by omega)).mono fun e w' h => ⟨h.1, by rw [h.2]; exact Turn.refl _ _⟩
set_option maxRecDepth 100000 in
set_option maxHeartbeats 8000000 in
theorem keptC48 (w : World) (h : Nat) (r : Int) (id : List UInt8) (hid : id.length = 32) (g n cp : Nat) (L : List El) (hR : Rm w 108 18 g n cp L (tgM 0) (tgM 1)) : Calls Tryd.prog 48 #[.agg (ctL h r id (.slice (some ⟨g, 0, none⟩) n cp)).toArray] w fun e w' => e = .returned (.bool true) ∧ Turn no w w' := by
  obtain ⟨r1, r2⟩ := hR.room
  simp only [maxLen] at r2
  obtain ⟨w0, hw0⟩ : ∃ w0, w.alloc (.cells (ctL h r id (.slice (some ⟨g, 0, none⟩) n cp)).toArray 34) = w0 := ⟨_, rfl⟩
  have T0 : Turn no w w0 := by rw [← hw0]; exact (Turn.refl no w).alloc _
  have B0 : Row w0 w.heap.size (ctL h r id (.slice (some ⟨g, 0, none⟩) n cp)).toArray 34 := by rw [← hw0]; exact Row.new w _ 34
  have HX : Shut (∀ W, Turn no w0 W → (W.cell? ⟨g, n * 18 + 1, none⟩ = some (.int .u64 7700) ∧ W.cell? ⟨g, (n + 1) * 18 + 1, none⟩ = some (.int .u64 7701)) ∧ Turn no w W) := ⟨fun W t => ⟨⟨(hR.turn_no (T0.then_no t)).c0 1 _ rfl, (hR.turn_no (T0.then_no t)).c1 1 _ rfl⟩, T0.then_no t⟩⟩
  have y0 := B0.cell 34 _ (ctL_34 h r id hid _)
  obtain ⟨m, hm⟩ : ∃ m, n + 2 = m := ⟨_, rfl⟩
  have q1 : IntKind.i64.wrap ((n : Int) + 2) = (m : Int) := by rw [IntKind.wrap_i64]; omega
  have q2 : IntKind.i64.wrap ((n : Int) + 1) = ((n + 1 : Nat) : Int) := by rw [IntKind.wrap_i64]; omega
  have q3 : n < m := by omega
  have q4 : n + 1 < m := by omega
  have q5 : m ≤ cp := by omega
  have q6 : m ≤ 9223372036854775807 := by omega
  have HQ := shut (And.intro q2 (And.intro q3 q4))
  clear hR B0 T0 r1 r2 hm q2 q3 q4
  generalize (ctL h r id (.slice (some ⟨g, 0, none⟩) n cp)).toArray = C0 at *
  go_enter Tryd.func48, Tryd.ntmps48
  go_upto_region 1 with fail
  try rw [hw0]
  go_upto_region 3 with fail
  obtain ⟨q2, q3, q4⟩ := HQ.out
  clear y0 hw0 q1
  refine wp_region_held_drew (S := fun W => Turn no w0 W) (by kernel_rfl) (Turn.refl no w0).drew (fun hHeld => ?_)
  refine' wpAnyH_take (i := 0) (v := .slice (some ⟨g, 0, none⟩) m cp) rfl (by kernel_rfl) (by kernel_rfl) (by kernel_rfl) (fun _ _ _ h => h) (Or.inl ⟨by kernel_rfl, fun W hW => ?y1⟩) hHeld ?r1
  · go_simp
  refine' wpAnyH_take (i := 1) (v := .int .i64 n) rfl (by kernel_rfl) (by kernel_rfl) (by kernel_rfl) (fun _ _ _ h => h) (Or.inl ⟨by kernel_rfl, fun W hW => ?y2⟩) hHeld ?r2
  · go_simp
  refine' wpAnyH_take (i := 2) (v := .pointer (some ⟨g, n * 18, none⟩)) rfl (by kernel_rfl) (by kernel_rfl) (by kernel_rfl) (fun _ _ _ h => h) (Or.inl ⟨by kernel_rfl, fun W hW => ?y3⟩) hHeld ?r3
  · go_simp
    try omega
  refine' wpAnyH_take (i := 3) (v := .pointer (some ⟨g, n * 18 + 1, none⟩)) rfl (by kernel_rfl) (by kernel_rfl) (by kernel_rfl) (fun _ _ _ h => h) (Or.inl ⟨by kernel_rfl, fun W hW => ?y4⟩) hHeld ?r4
  · go_simp
  refine' wpAnyH_take (i := 4) (v := .int .u64 7700) rfl (by kernel_rfl) (by kernel_rfl) (by kernel_rfl) (fun _ _ _ h => h) (Or.inl ⟨by kernel_rfl, fun W hW => ?y5⟩) hHeld ?r5
  · obtain ⟨⟨u0, u1⟩, _⟩ := HX.out W hW
    go_simp
  refine wpAnyH_ready (rs := [5]) (by kernel_rfl) (by simp) ?_
  refine AllReadyH.cons rfl (fun K hK => ?_) AllReadyH.nil
  go_simp
  refine (tag_const0 _).mono ?_
  rintro e wc5 ⟨rfl, tc5⟩
  refine hK.out _ _ (hHeld.then_no tc5) (fun hHeld => ?_)
  clear hK
  refine' wpAnyH_take (i := 6) (v := .bool true) rfl (by kernel_rfl) (by kernel_rfl) (by kernel_rfl) (fun _ _ _ h => h) (Or.inl ⟨by kernel_rfl, fun W hW => ?y6⟩) hHeld ?r6
  · go_simp
  refine' wpAnyH_take (i := 7) (v := .bool true) rfl (by kernel_rfl) (by kernel_rfl) (by kernel_rfl) (fun _ _ _ h => h) (Or.inl ⟨by kernel_rfl, fun W hW => ?y7⟩) hHeld ?r7
  · go_simp
  refine' wpAnyH_take (i := 8) (v := .slice (some ⟨g, 0, none⟩) m cp) rfl (by kernel_rfl) (by kernel_rfl) (by kernel_rfl) (fun _ _ _ h => h) (Or.inl ⟨by kernel_rfl, fun W hW => ?y8⟩) hHeld ?r8
  · go_simp
  refine' wpAnyH_take (i := 9) (v := .int .i64 n) rfl (by kernel_rfl) (by kernel_rfl) (by kernel_rfl) (fun _ _ _ h => h) (Or.inl ⟨by kernel_rfl, fun W hW => ?y9⟩) hHeld ?r9
  · go_simp
  refine' wpAnyH_take (i := 10) (v := .int .i64 ((n + 1 : Nat) : Int)) rfl (by kernel_rfl) (by kernel_rfl) (by kernel_rfl) (fun _ _ _ h => h) (Or.inl ⟨by kernel_rfl, fun W hW => ?y10⟩) hHeld ?r10
  · go_simp
  refine' wpAnyH_take (i := 11) (v := .pointer (some ⟨g, (n + 1) * 18, none⟩)) rfl (by kernel_rfl) (by kernel_rfl) (by kernel_rfl) (fun _ _ _ h => h) (Or.inl ⟨by kernel_rfl, fun W hW => ?y11⟩) hHeld ?r11
  · go_simp
    try omega
  refine' wpAnyH_take (i := 12) (v := .pointer (some ⟨g, (n + 1) * 18 + 1, none⟩)) rfl (by kernel_rfl) (by kernel_rfl) (by kernel_rfl) (fun _ _ _ h => h) (Or.inl ⟨by kernel_rfl, fun W hW => ?y12⟩) hHeld ?r12
  · go_simp
  refine' wpAnyH_take (i := 13) (v := .int .u64 7701) rfl (by kernel_rfl) (by kernel_rfl) (by kernel_rfl) (fun _ _ _ h => h) (Or.inl ⟨by kernel_rfl, fun W hW => ?y13⟩) hHeld ?r13
  · obtain ⟨⟨u0, u1⟩, _⟩ := HX.out W hW
    go_simp
  refine wpAnyH_ready (rs := [14]) (by kernel_rfl) (by simp) ?_
  refine AllReadyH.cons rfl (fun K hK => ?_) AllReadyH.nil
  go_simp
  refine (tag_const1 _).mono ?_
  rintro e wc14 ⟨rfl, tc14⟩
  refine hK.out _ _ (hHeld.then_no tc14) (fun hHeld => ?_)
  clear hK
  refine' wpAnyH_take (i := 15) (v := .bool true) rfl (by kernel_rfl) (by kernel_rfl) (by kernel_rfl) (fun _ _ _ h => h) (Or.inl ⟨by kernel_rfl, fun W hW => ?y14⟩) hHeld ?r14
  · go_simp
  refine' wpAnyH_take (i := 16) (v := .bool true) rfl (by kernel_rfl) (by kernel_rfl) (by kernel_rfl) (fun _ _ _ h => h) (Or.inl ⟨by kernel_rfl, fun W hW => ?y15⟩) hHeld ?r15
  · go_simp
  refine' wpAnyH_take (i := 17) (v := .bool true) rfl (by kernel_rfl) (by kernel_rfl) (by kernel_rfl) (fun _ _ _ h => h) (Or.inl ⟨by kernel_rfl, fun W hW => ?y16⟩) hHeld ?r16
  · go_simp
  refine wpAnyH_done (by kernel_rfl) ?_ _
  go_simp
  have HN := shut hHeld
  clear hHeld
  go_wp2_with fail
  go_ret
  exact ⟨rfl, (HX.out _ HN.out).2⟩
set_option maxRecDepth 100000 in
set_option maxHeartbeats 8000000 in
theorem keptB18 (w : World) (D : List Value) (hD : D.length = 228) (h : Nat) (r : Int) (id : List UInt8) (hid : id.length = 32) (g1 n1 p1 : Nat) (L1 : List El) (R1 : Rm w 27 22 g1 n1 p1 L1 (tgX 0) (tgX 1)) (g2 n2 p2 : Nat) (L2 : List El) (R2 : Rm w 80 106 g2 n2 p2 L2 (tgV 0) (tgV 1)) (g3 n3 p3 : Nat) (L3 : List El) (R3 : Rm w 108 18 g3 n3 p3 L3 (tgM 0) (tgM 1)) :
    Calls Tryd.prog 18 #[.agg (bkL D (.slice (some ⟨g1, 0, none⟩) n1 p1) (.slice (some ⟨g2, 0, none⟩) n2 p2) (ctL h r id (.slice (some ⟨g3, 0, none⟩) n3 p3))).toArray] w fun e w' => e = .returned (.bool true) ∧ Turn no w w' := by
  obtain ⟨r1, r1'⟩ := R1.room
  obtain ⟨r2, r2'⟩ := R2.room
  simp only [maxLen] at r1' r2'
  obtain ⟨w0, hw0⟩ : ∃ w0, w.alloc (.cells (bkL D (.slice (some ⟨g1, 0, none⟩) n1 p1) (.slice (some ⟨g2, 0, none⟩) n2 p2) (ctL h r id (.slice (some ⟨g3, 0, none⟩) n3 p3))).toArray 49) = w0 := ⟨_, rfl⟩
  have T0 : Turn no w w0 := by rw [← hw0]; exact (Turn.refl no w).alloc _
  have B0 : Row w0 w.heap.size (bkL D (.slice (some ⟨g1, 0, none⟩) n1 p1) (.slice (some ⟨g2, 0, none⟩) n2 p2) (ctL h r id (.slice (some ⟨g3, 0, none⟩) n3 p3))).toArray 49 := by rw [← hw0]; exact Row.new w _ 49
  have HX : Shut (∀ W, Turn no w0 W → (W.cell? ⟨g1, n1 * 22 + 4, none⟩ = some (.int .u64 7700) ∧ W.cell? ⟨g1, (n1 + 1) * 22 + 4, none⟩ = some (.int .u64 7701) ∧ W.cell? ⟨g2, n2 * 106 + 35, none⟩ = some (.int .u64 7700) ∧ W.cell? ⟨g2, (n2 + 1) * 106 + 35, none⟩ = some (.int .u64 7701)) ∧ Turn no w W) := ⟨fun W t => ⟨⟨(R1.turn_no (T0.then_no t)).c0 4 _ rfl, (R1.turn_no (T0.then_no t)).c1 4 _ rfl, (R2.turn_no (T0.then_no t)).c0 35 _ rfl, (R2.turn_no (T0.then_no t)).c1 35 _ rfl⟩, T0.then_no t⟩⟩
  have HC48 : Shut (∀ W, Turn no w0 W → Calls Tryd.prog 48 #[.agg (ctL h r id (.slice (some ⟨g3, 0, none⟩) n3 p3)).toArray] W fun e w' => e = .returned (.bool true) ∧ Turn no W w') := ⟨fun W t => keptC48 W h r id hid g3 n3 p3 L3 (R3.turn_no (T0.then_no t))⟩
  have HZ : Shut (∀ W, Turn no w0 W → W.rangeAt w.heap.size 230 (ctL h r id (.slice (some ⟨g3, 0, none⟩) n3 p3))) := ⟨fun W t j u hu => t.keep (B0.cell (230 + j) _ (bkL_C hD _ _ j u hu)) (fun q => q)⟩
  have zC : (Tryd.prog.info? 34).map (·.size) = some (ctL h r id (.slice (some ⟨g3, 0, none⟩) n3 p3)).length := by rw [ctL_len h r id hid]; exact size30a
  have y0 := B0.cell 228 _ (bkL_228 hD _ _)
  have y1 := B0.cell 229 _ (bkL_229 hD _ _)
  obtain ⟨m1, hm1⟩ : ∃ m, n1 + 2 = m := ⟨_, rfl⟩
  obtain ⟨m2, hm2⟩ : ∃ m, n2 + 2 = m := ⟨_, rfl⟩
  have q1 : IntKind.i64.wrap ((n1 : Int) + 2) = (m1 : Int) := by rw [IntKind.wrap_i64]; omega
  have q2 : IntKind.i64.wrap ((n1 : Int) + 1) = ((n1 + 1 : Nat) : Int) := by rw [IntKind.wrap_i64]; omega
  have q3 : n1 < m1 := by omega
  have q4 : n1 + 1 < m1 := by omega
  have q5 : m1 ≤ p1 := by omega
  have q6 : m1 ≤ 9223372036854775807 := by omega
  have s1 : IntKind.i64.wrap ((n2 : Int) + 2) = (m2 : Int) := by rw [IntKind.wrap_i64]; omega
  have s2 : IntKind.i64.wrap ((n2 : Int) + 1) = ((n2 + 1 : Nat) : Int) := by rw [IntKind.wrap_i64]; omega
  have s3 : n2 < m2 := by omega
  have s4 : n2 + 1 < m2 := by omega
  have s5 : m2 ≤ p2 := by omega
  have s6 : m2 ≤ 9223372036854775807 := by omega
  have HQ := shut (And.intro q2 (And.intro q3 (And.intro q4 (And.intro s2 (And.intro s3 s4)))))
  clear R1 R2 R3 B0 T0 r1 r1' r2 r2' hm1 hm2 q2 q3 q4 s2 s3 s4 hD hid
  generalize (bkL D (.slice (some ⟨g1, 0, none⟩) n1 p1) (.slice (some ⟨g2, 0, none⟩) n2 p2) (ctL h r id (.slice (some ⟨g3, 0, none⟩) n3 p3))).toArray = K0 at *
  generalize ctL h r id (.slice (some ⟨g3, 0, none⟩) n3 p3) = C at *
  go_enter Tryd.func18, Tryd.ntmps18
  go_upto_region 1 with fail
  try rw [hw0]
  go_upto_region 5 with fail
  obtain ⟨q2, q3, q4, s2, s3, s4⟩ := HQ.out
  clear y0 y1 hw0 q1 s1
  refine wp_region_held_drew (S := fun W => Turn no w0 W) (by kernel_rfl) (Turn.refl no w0).drew (fun hHeld => ?_)
  refine' wpAnyH_take (i := 0) (v := .slice (some ⟨g1, 0, none⟩) m1 p1) rfl (by kernel_rfl) (by kernel_rfl) (by kernel_rfl) (fun _ _ _ h => h) (Or.inl ⟨by kernel_rfl, fun W hW => ?y17⟩) hHeld ?r17
  · go_simp
  refine' wpAnyH_take (i := 1) (v := .int .i64 n1) rfl (by kernel_rfl) (by kernel_rfl) (by kernel_rfl) (fun _ _ _ h => h) (Or.inl ⟨by kernel_rfl, fun W hW => ?y18⟩) hHeld ?r18
  · go_simp
  refine' wpAnyH_take (i := 2) (v := .pointer (some ⟨g1, n1 * 22, none⟩)) rfl (by kernel_rfl) (by kernel_rfl) (by kernel_rfl) (fun _ _ _ h => h) (Or.inl ⟨by kernel_rfl, fun W hW => ?y19⟩) hHeld ?r19
  · go_simp
    try omega
  refine' wpAnyH_take (i := 3) (v := .pointer (some ⟨g1, n1 * 22 + 4, none⟩)) rfl (by kernel_rfl) (by kernel_rfl) (by kernel_rfl) (fun _ _ _ h => h) (Or.inl ⟨by kernel_rfl, fun W hW => ?y20⟩) hHeld ?r20
  · go_simp
  refine' wpAnyH_take (i := 4) (v := .int .u64 7700) rfl (by kernel_rfl) (by kernel_rfl) (by kernel_rfl) (fun _ _ _ h => h) (Or.inl ⟨by kernel_rfl, fun W hW => ?y21⟩) hHeld ?r21
  · obtain ⟨⟨u0, u1, u2, u3⟩, _⟩ := HX.out W hW
    go_simp
  refine wpAnyH_ready (rs := [5]) (by kernel_rfl) (by simp) ?_
  refine AllReadyH.cons rfl (fun K hK => ?_) AllReadyH.nil
  go_simp
  refine (tag_const0 _).mono ?_
  rintro e wc5 ⟨rfl, tc5⟩
  refine hK.out _ _ (hHeld.then_no tc5) (fun hHeld => ?_)
  clear hK
  refine' wpAnyH_take (i := 6) (v := .bool true) rfl (by kernel_rfl) (by kernel_rfl) (by kernel_rfl) (fun _ _ _ h => h) (Or.inl ⟨by kernel_rfl, fun W hW => ?y22⟩) hHeld ?r22
  · go_simp
  refine' wpAnyH_take (i := 7) (v := .bool true) rfl (by kernel_rfl) (by kernel_rfl) (by kernel_rfl) (fun _ _ _ h => h) (Or.inl ⟨by kernel_rfl, fun W hW => ?y23⟩) hHeld ?r23
  · go_simp
  refine' wpAnyH_take (i := 8) (v := .slice (some ⟨g1, 0, none⟩) m1 p1) rfl (by kernel_rfl) (by kernel_rfl) (by kernel_rfl) (fun _ _ _ h => h) (Or.inl ⟨by kernel_rfl, fun W hW => ?y24⟩) hHeld ?r24
  · go_simp
  refine' wpAnyH_take (i := 9) (v := .int .i64 n1) rfl (by kernel_rfl) (by kernel_rfl) (by kernel_rfl) (fun _ _ _ h => h) (Or.inl ⟨by kernel_rfl, fun W hW => ?y25⟩) hHeld ?r25
  · go_simp
  refine' wpAnyH_take (i := 10) (v := .int .i64 ((n1 + 1 : Nat) : Int)) rfl (by kernel_rfl) (by kernel_rfl) (by kernel_rfl) (fun _ _ _ h => h) (Or.inl ⟨by kernel_rfl, fun W hW => ?y26⟩) hHeld ?r26
  · go_simp
  refine' wpAnyH_take (i := 11) (v := .pointer (some ⟨g1, (n1 + 1) * 22, none⟩)) rfl (by kernel_rfl) (by kernel_rfl) (by kernel_rfl) (fun _ _ _ h => h) (Or.inl ⟨by kernel_rfl, fun W hW => ?y27⟩) hHeld ?r27
  · go_simp
    try omega
  refine' wpAnyH_take (i := 12) (v := .pointer (some ⟨g1, (n1 + 1) * 22 + 4, none⟩)) rfl (by kernel_rfl) (by kernel_rfl) (by kernel_rfl) (fun _ _ _ h => h) (Or.inl ⟨by kernel_rfl, fun W hW => ?y28⟩) hHeld ?r28
  · go_simp
  refine' wpAnyH_take (i := 13) (v := .int .u64 7701) rfl (by kernel_rfl) (by kernel_rfl) (by kernel_rfl) (fun _ _ _ h => h) (Or.inl ⟨by kernel_rfl, fun W hW => ?y29⟩) hHeld ?r29
  · obtain ⟨⟨u0, u1, u2, u3⟩, _⟩ := HX.out W hW
    go_simp
  refine wpAnyH_ready (rs := [14]) (by kernel_rfl) (by simp) ?_
  refine AllReadyH.cons rfl (fun K hK => ?_) AllReadyH.nil
  go_simp
  refine (tag_const1 _).mono ?_
  rintro e wc14 ⟨rfl, tc14⟩
  refine hK.out _ _ (hHeld.then_no tc14) (fun hHeld => ?_)
  clear hK
  refine' wpAnyH_take (i := 15) (v := .bool true) rfl (by kernel_rfl) (by kernel_rfl) (by kernel_rfl) (fun _ _ _ h => h) (Or.inl ⟨by kernel_rfl, fun W hW => ?y30⟩) hHeld ?r30
  · go_simp
  refine' wpAnyH_take (i := 16) (v := .bool true) rfl (by kernel_rfl) (by kernel_rfl) (by kernel_rfl) (fun _ _ _ h => h) (Or.inl ⟨by kernel_rfl, fun W hW => ?y31⟩) hHeld ?r31
  · go_simp
  refine' wpAnyH_take (i := 17) (v := .bool true) rfl (by kernel_rfl) (by kernel_rfl) (by kernel_rfl) (fun _ _ _ h => h) (Or.inl ⟨by kernel_rfl, fun W hW => ?y32⟩) hHeld ?r32
  · go_simp
  refine' wpAnyH_take (i := 18) (v := .slice (some ⟨g2, 0, none⟩) m2 p2) rfl (by kernel_rfl) (by kernel_rfl) (by kernel_rfl) (fun _ _ _ h => h) (Or.inl ⟨by kernel_rfl, fun W hW => ?y33⟩) hHeld ?r33
  · go_simp
  refine' wpAnyH_take (i := 19) (v := .int .i64 n2) rfl (by kernel_rfl) (by kernel_rfl) (by kernel_rfl) (fun _ _ _ h => h) (Or.inl ⟨by kernel_rfl, fun W hW => ?y34⟩) hHeld ?r34
  · go_simp
  refine' wpAnyH_take (i := 20) (v := .pointer (some ⟨g2, n2 * 106, none⟩)) rfl (by kernel_rfl) (by kernel_rfl) (by kernel_rfl) (fun _ _ _ h => h) (Or.inl ⟨by kernel_rfl, fun W hW => ?y35⟩) hHeld ?r35
  · go_simp
    try omega
  refine' wpAnyH_take (i := 21) (v := .pointer (some ⟨g2, n2 * 106, none⟩)) rfl (by kernel_rfl) (by kernel_rfl) (by kernel_rfl) (fun _ _ _ h => h) (Or.inl ⟨by kernel_rfl, fun W hW => ?y36⟩) hHeld ?r36
  · go_simp
  refine' wpAnyH_take (i := 22) (v := .pointer (some ⟨g2, n2 * 106 + 35, none⟩)) rfl (by kernel_rfl) (by kernel_rfl) (by kernel_rfl) (fun _ _ _ h => h) (Or.inl ⟨by kernel_rfl, fun W hW => ?y37⟩) hHeld ?r37
  · go_simp
  refine' wpAnyH_take (i := 23) (v := .int .u64 7700) rfl (by kernel_rfl) (by kernel_rfl) (by kernel_rfl) (fun _ _ _ h => h) (Or.inl ⟨by kernel_rfl, fun W hW => ?y38⟩) hHeld ?r38
  · obtain ⟨⟨u0, u1, u2, u3⟩, _⟩ := HX.out W hW
    go_simp
  refine wpAnyH_ready (rs := [24]) (by kernel_rfl) (by simp) ?_
  refine AllReadyH.cons rfl (fun K hK => ?_) AllReadyH.nil
  go_simp
  refine (tag_const0 _).mono ?_
  rintro e wc24 ⟨rfl, tc24⟩
  refine hK.out _ _ (hHeld.then_no tc24) (fun hHeld => ?_)
  clear hK
  refine' wpAnyH_take (i := 25) (v := .bool true) rfl (by kernel_rfl) (by kernel_rfl) (by kernel_rfl) (fun _ _ _ h => h) (Or.inl ⟨by kernel_rfl, fun W hW => ?y39⟩) hHeld ?r39
  · go_simp
  refine' wpAnyH_take (i := 26) (v := .bool true) rfl (by kernel_rfl) (by kernel_rfl) (by kernel_rfl) (fun _ _ _ h => h) (Or.inl ⟨by kernel_rfl, fun W hW => ?y40⟩) hHeld ?r40
  · go_simp
  refine' wpAnyH_take (i := 27) (v := .bool true) rfl (by kernel_rfl) (by kernel_rfl) (by kernel_rfl) (fun _ _ _ h => h) (Or.inl ⟨by kernel_rfl, fun W hW => ?y41⟩) hHeld ?r41
  · go_simp
  refine' wpAnyH_take (i := 28) (v := .slice (some ⟨g2, 0, none⟩) m2 p2) rfl (by kernel_rfl) (by kernel_rfl) (by kernel_rfl) (fun _ _ _ h => h) (Or.inl ⟨by kernel_rfl, fun W hW => ?y42⟩) hHeld ?r42
  · go_simp
  refine' wpAnyH_take (i := 29) (v := .int .i64 n2) rfl (by kernel_rfl) (by kernel_rfl) (by kernel_rfl) (fun _ _ _ h => h) (Or.inl ⟨by kernel_rfl, fun W hW => ?y43⟩) hHeld ?r43
  · go_simp
  refine' wpAnyH_take (i := 30) (v := .int .i64 ((n2 + 1 : Nat) : Int)) rfl (by kernel_rfl) (by kernel_rfl) (by kernel_rfl) (fun _ _ _ h => h) (Or.inl ⟨by kernel_rfl, fun W hW => ?y44⟩) hHeld ?r44
  · go_simp
  refine' wpAnyH_take (i := 31) (v := .pointer (some ⟨g2, (n2 + 1) * 106, none⟩)) rfl (by kernel_rfl) (by kernel_rfl) (by kernel_rfl) (fun _ _ _ h => h) (Or.inl ⟨by kernel_rfl, fun W hW => ?y45⟩) hHeld ?r45
  · go_simp
    try omega
  refine' wpAnyH_take (i := 32) (v := .pointer (some ⟨g2, (n2 + 1) * 106, none⟩)) rfl (by kernel_rfl) (by kernel_rfl) (by kernel_rfl) (fun _ _ _ h => h) (Or.inl ⟨by kernel_rfl, fun W hW => ?y46⟩) hHeld ?r46
  · go_simp
  refine' wpAnyH_take (i := 33) (v := .pointer (some ⟨g2, (n2 + 1) * 106 + 35, none⟩)) rfl (by kernel_rfl) (by kernel_rfl) (by kernel_rfl) (fun _ _ _ h => h) (Or.inl ⟨by kernel_rfl, fun W hW => ?y47⟩) hHeld ?r47
  · go_simp
  refine' wpAnyH_take (i := 34) (v := .int .u64 7701) rfl (by kernel_rfl) (by kernel_rfl) (by kernel_rfl) (fun _ _ _ h => h) (Or.inl ⟨by kernel_rfl, fun W hW => ?y48⟩) hHeld ?r48
  · obtain ⟨⟨u0, u1, u2, u3⟩, _⟩ := HX.out W hW
    go_simp
  refine wpAnyH_ready (rs := [35]) (by kernel_rfl) (by simp) ?_
  refine AllReadyH.cons rfl (fun K hK => ?_) AllReadyH.nil
  go_simp
  refine (tag_const1 _).mono ?_
  rintro e wc35 ⟨rfl, tc35⟩
  refine hK.out _ _ (hHeld.then_no tc35) (fun hHeld => ?_)
  clear hK
  refine' wpAnyH_take (i := 36) (v := .bool true) rfl (by kernel_rfl) (by kernel_rfl) (by kernel_rfl) (fun _ _ _ h => h) (Or.inl ⟨by kernel_rfl, fun W hW => ?y49⟩) hHeld ?r49
  · go_simp
  refine' wpAnyH_take (i := 37) (v := .bool true) rfl (by kernel_rfl) (by kernel_rfl) (by kernel_rfl) (fun _ _ _ h => h) (Or.inl ⟨by kernel_rfl, fun W hW => ?y50⟩) hHeld ?r50
  · go_simp
  refine' wpAnyH_take (i := 38) (v := .bool true) rfl (by kernel_rfl) (by kernel_rfl) (by kernel_rfl) (fun _ _ _ h => h) (Or.inl ⟨by kernel_rfl, fun W hW => ?y51⟩) hHeld ?r51
  · go_simp
  refine' wpAnyH_take (i := 39) (v := .pointer (some ⟨w.heap.size, 230, none⟩)) rfl (by kernel_rfl) (by kernel_rfl) (by kernel_rfl) (fun _ _ _ h => h) (Or.inl ⟨by kernel_rfl, fun W hW => ?y52⟩) hHeld ?r52
  · go_simp
  refine' wpAnyH_take (i := 40) (v := .agg C.toArray) rfl (by kernel_rfl) (by kernel_rfl) (by kernel_rfl) (fun _ _ _ h => h) (yieldsIf_load_mid (by kernel_rfl) 34 (.tmp 62) rfl w.heap.size 230 (by kernel_rfl) C _ (fun W h => HZ.out W h) Tryd.underlying34 rfl zC) hHeld ?sC
  refine wpAnyH_ready (rs := [41]) (by kernel_rfl) (by simp) ?_
  refine AllReadyH.cons rfl (fun K hK => ?_) AllReadyH.nil
  go_simp
  refine (HC48.out _ hHeld).mono ?_
  rintro e wc41 ⟨rfl, tc41⟩
  refine hK.out _ _ (hHeld.then_no tc41) (fun hHeld => ?_)
  clear hK
  refine' wpAnyH_take (i := 42) (v := .bool true) rfl (by kernel_rfl) (by kernel_rfl) (by kernel_rfl) (fun _ _ _ h => h) (Or.inl ⟨by kernel_rfl, fun W hW => ?y53⟩) hHeld ?r53
  · go_simp
  refine' wpAnyH_take (i := 43) (v := .bool true) rfl (by kernel_rfl) (by kernel_rfl) (by kernel_rfl) (fun _ _ _ h => h) (Or.inl ⟨by kernel_rfl, fun W hW => ?y54⟩) hHeld ?r54
  · go_simp
  refine wpAnyH_done (by kernel_rfl) ?_ _
  go_simp
  have HN := shut hHeld
  clear hHeld
  go_wp2_with fail
  go_ret
  exact ⟨rfl, (HX.out _ HN.out).2⟩
end Go.Proofs.YtgimecdmleofeaaDoor

/- lentBlock. -/
namespace Go.Proofs.YtgimecdmleofeaaDoor
open Go.RowKit
set_option linter.unusedVariables false

theorem over_cons (cur : Array Value) (o : Nat) (c : Value) (cs : List Value) (h : o < cur.size) : over cur o (c :: cs) = over (cur.setIfInBounds o c) (o + 1) cs := by
  unfold over
  congr 1
  have e1 : (cur.setIfInBounds o c).toList = cur.toList.set o c := by simp
  rw [e1]
  apply List.ext_getElem?
  intro j
  simp only [List.getElem?_append, List.getElem?_take, List.getElem?_drop, List.length_append, List.length_take, List.length_cons, List.getElem?_set, List.length_set, Array.length_toList]
  rw [Nat.min_eq_left (by omega), Nat.min_eq_left (by omega)]
  by_cases h1 : j < o
  · rw [if_pos (by omega), if_pos h1, if_pos h1, if_pos (by omega), if_pos (by omega), if_pos (by omega), if_neg (by omega)]
  · by_cases h2 : j = o
    · subst h2
      rw [if_pos (by omega), if_neg (by omega), if_pos (by omega), if_pos (by omega), if_pos (by omega), if_pos rfl, if_pos (by omega)]
      simp
    · by_cases h3 : j < o + (cs.length + 1)
      · rw [if_pos h3, if_neg h1, if_pos (by omega), if_neg (by omega)]
        rw [show j - o = (j - (o + 1)) + 1 by omega]
        simp
      · rw [if_neg h3, if_neg (by omega), if_neg (by omega)]
        congr 1
        omega
theorem Row.setCells : ∀ (l : List Value) {w : World} {g o : Nat} {cs : Array Value} {e : TypeId}, Row w g cs e → o + l.length ≤ cs.size → Row (w.setCells g o l) g (over cs o l) e
  | [], w, g, o, cs, e, h, hl => by
    have : over cs o [] = cs := by simp [over]
    rw [this]
    exact h
  | c :: l, w, g, o, cs, e, h, hl => by
    simp only [List.length_cons] at hl
    rw [over_cons cs o c l (by omega)]
    exact Row.setCells l (h.set o c) (by simp; omega)
theorem Turn.setCells : ∀ (l : List Value) {S : Nat → Prop} {a w : World} {g o : Nat}, Turn S a w → (g < a.heap.size → S g) → Turn S a (w.setCells g o l)
  | [], _, _, _, _, _, h, _ => h
  | c :: l, S, a, w, g, o, h, hs => Turn.setCells l (h.setCell (p := ⟨g, o, none⟩) hs c) hs
theorem over_app (A B C D : List Value) (o : Nat) (ho : A.length = o) (hl : B.length = D.length) : over (A ++ (B ++ C)).toArray o D = (A ++ (D ++ C)).toArray := by
  unfold over
  congr 1
  simp [← ho, ← hl]
theorem there_of {w : World} {g : Nat} {X : Array Value} {t : TypeId} (h : Row w g X t) (o n : Nat) (hn : o + n ≤ X.size) : w.there g o n := fun j hj => by
  have hc := h.cell (o + j) (X[o + j]'(by omega)) (by simp)
  exact ⟨by rw [hc]; rfl, h.frozen _⟩
theorem bkL_set228 {D C : List Value} (hD : D.length = 228) (vt ve u : Value) : (bkL D vt ve C).toArray.setIfInBounds 228 u = (bkL D u ve C).toArray := by
  simp [bkL, hD]
theorem bkL_set229 {D C : List Value} (hD : D.length = 228) (vt ve u : Value) : (bkL D vt ve C).toArray.setIfInBounds 229 u = (bkL D vt u C).toArray := by
  simp [bkL, hD]
theorem bkL_over {D C C' : List Value} (hD : D.length = 228) (hC : C.length = C'.length) (vt ve : Value) : over (bkL D vt ve C).toArray 230 C' = (bkL D vt ve C').toArray := by
  have h := over_app (D ++ [vt, ve]) C [] C' 230 (by simp [hD]) hC
  simpa [bkL] using h
theorem bkL_one {D C : List Value} (hD : ∀ u ∈ D, u.oneCell' = true) (hC : ∀ u ∈ C, u.oneCell' = true) (vt ve : Value) (ht : vt.oneCell' = true) (he : ve.oneCell' = true) : (bkL D vt ve C).toArray.all (·.oneCell') = true := by
  simp only [List.all_toArray, List.all_eq_true, bkL, List.mem_append, List.mem_cons]
  rintro x (h | rfl | rfl | h)
  · exact hD _ h
  · exact ht
  · exact he
  · exact hC _ h
theorem ctL_oneL (h : Nat) (r : Int) (id : List UInt8) (v : Value) (hv : v.oneCell' = true) : ∀ u ∈ ctL h r id v, u.oneCell' = true := by
  have := ctL_oneA h r id v hv
  simpa only [List.all_toArray, List.all_eq_true] using this
theorem ownN_ne {w : World} {e e' : TypeId} {sz sz' : Nat} {v v' : Value} {n n' : Nat} {xs xs' : List Value} (h : OwnN w e sz v n xs) (h' : OwnN w e' sz' v' n' xs') (he : e ≠ e') : ∀ g, v.ownBlock = some g → ¬ (v'.ownBlock = some g) := by
  intro g hg hg'
  rcases h.2 with ⟨rfl, _⟩ | ⟨g1, c1, u1, rfl, _, o1, _⟩
  · cases hg
  rcases h'.2 with ⟨rfl, _⟩ | ⟨g2, c2, u2, rfl, _, o2, _⟩
  · cases hg'
  have q1 : g1 = g := by simpa [Value.ownBlock] using hg
  have q2 : g2 = g := by simpa [Value.ownBlock] using hg'
  subst q1
  subst q2
  rw [o1] at o2
  cases o2
  exact he rfl
def tgF (f : Nat → List Value) (k : Nat) : List Value := (List.range k).flatMap f
theorem tgF_succ (f : Nat → List Value) (k : Nat) : tgF f (k + 1) = tgF f k ++ f k := by simp [tgF, List.range_succ]
theorem tgF_two (f : Nat → List Value) : tgF f 2 = f 0 ++ f 1 := by simp [tgF, List.range_succ]
def tgA (n : Nat) : List Value := (⟨0, 0, 0, List.replicate 32 0, ((7700 + n : Nat) : Int), 0, List.replicate 16 0⟩ : Vt).cs
theorem info27b : (Tryd.prog.info? 27).map (fun i => (i.zero, i.size, i.bytes)) = some (some (.agg Z27), 22, 64) := by kernel_rfl
theorem info80b : (Tryd.prog.info? 80).map (fun i => (i.zero, i.size, i.bytes)) = some (some (.agg Z80), 106, 176) := by kernel_rfl
theorem built27 (n : Nat) : Tryd.prog.built 27 [(4, .int .u64 ((7700 + n : Nat) : Int))] = some (tgX n).toArray := by kernel_rfl
theorem built78 (n : Nat) : Tryd.prog.built 78 [(4, .int .u64 ((7700 + n : Nat) : Int))] = some (tgA n).toArray := by kernel_rfl
theorem built80 (n : Nat) : Tryd.prog.built 80 [(0, .agg (tgA n).toArray)] = some (tgV n).toArray := by kernel_rfl
theorem tgX_one (n : Nat) : ∀ u ∈ tgX n, u.oneCell' = true := by
  intro u hu
  simp only [tgX, Tx.cs, List.mem_cons, List.mem_map] at hu
  rcases hu with rfl | rfl | rfl | rfl | rfl | rfl | ⟨b, _, rfl⟩ <;> rfl
theorem tgV_one (n : Nat) : ∀ u ∈ tgV n, u.oneCell' = true := by
  intro u hu
  simp only [tgV, Ev.cs, List.mem_append] at hu
  rcases hu with h | h
  · exact Vt.one _ _ h
  · exact Vt.one _ _ h
def hd0 : Hd := ⟨⟨#[]⟩, 0, 0, z32, z32, z32, z32, z32, z32, z32, 0⟩
def Z49 : Array Value := (bkL hd0.cs (.slice none 0 0) (.slice none 0 0) (ctL 0 0 zid (.slice none 0 0))).toArray
theorem zero49 (w : World) : (zeroValue 49).run Tryd.prog w = .ok (.agg Z49) w := by kernel_rfl
theorem Z49_size : Z49.size = 265 := by kernel_rfl
theorem size49 : (Tryd.prog.info? 49).map (·.size) = some 265 := by kernel_rfl
set_option maxRecDepth 100000 in
set_option maxHeartbeats 8000000 in
theorem lentB12 (w : World) (D : List Value) (hD : D.length = 228) (oD : ∀ u ∈ D, u.oneCell' = true) (h : Nat) (r : Int) (id : List UInt8) (hid : id.length = 32)
    (a1 : Option Addr) (c1 : Nat) (L1 : List El) (h1 : TsAt w 22 a1 c1 L1) (b1 : (L1.length + 2) * 64 ≤ 140737488355328)
    (a2 : Option Addr) (c2 : Nat) (L2 : List El) (h2 : TsAt w 106 a2 c2 L2) (b2 : (L2.length + 2) * 176 ≤ 140737488355328)
    (a3 : Option Addr) (c3 : Nat) (L3 : List El) (h3 : TsAt w 18 a3 c3 L3) (b3 : (L3.length + 2) * 32 ≤ 140737488355328) :
    Calls Tryd.prog 12 #[.agg (bkL D (.slice a1 L1.length c1) (.slice a2 L2.length c2) (ctL h r id (.slice a3 L3.length c3))).toArray] w fun e w' => ∃ g1 p1 g2 p2 g3 p3, e = .returned (.agg (bkL D (.slice (some ⟨g1, 0, none⟩) L1.length p1) (.slice (some ⟨g2, 0, none⟩) L2.length p2) (ctL h r id (.slice (some ⟨g3, 0, none⟩) L3.length p3))).toArray) ∧ Rm w' 27 22 g1 L1.length p1 L1 (tgX 0) (tgX 1) ∧ Rm w' 80 106 g2 L2.length p2 L2 (tgV 0) (tgV 1) ∧ Rm w' 108 18 g3 L3.length p3 L3 (tgM 0) (tgM 1) ∧ Turn no w w' := by
  have hz49 := zero49
  have lC := ctL_len h r id hid (.slice a3 L3.length c3)
  have HL := shut (And.intro h1.len (And.intro h1.one (And.intro h2.len (And.intro h2.one (And.intro h3.len h3.one)))))
  obtain ⟨n1, hn1⟩ : ∃ n, Hid (L1.length = n) := ⟨_, rfl⟩
  obtain ⟨n2, hn2⟩ : ∃ n, Hid (L2.length = n) := ⟨_, rfl⟩
  have hn1' : L1.length = n1 := hn1.out
  have hn2' : L2.length = n2 := hn2.out
  have hle1 : n1 ≤ 9223372036854775807 := by have := h1.le; have := h1.cap; simp only [maxLen] at this; omega
  have hle2 : n2 ≤ 9223372036854775807 := by have := h2.le; have := h2.cap; simp only [maxLen] at this; omega
  have hK1 : IntKind.i64.wrap (n1 : Int) = (n1 : Int) := by rw [IntKind.wrap_i64]; omega
  rw [hn1', hn2']
  rw [hn1'] at b1
  rw [hn2'] at b2
  obtain ⟨w2, hw2⟩ : ∃ W, (w.alloc (.cells (bkL D (.slice a1 n1 c1) (.slice a2 n2 c2) (ctL h r id (.slice a3 L3.length c3))).toArray 49)).alloc (.cells Z49 49) = W := ⟨_, rfl⟩
  have r1 : Row w2 w.heap.size (bkL D (.slice a1 n1 c1) (.slice a2 n2 c2) (ctL h r id (.slice a3 L3.length c3))).toArray 49 := by rw [← hw2]; exact (Row.new w _ 49).alloc _
  have r2 : Row w2 (w.heap.size + 1) Z49 49 := by rw [← hw2]; exact Row.newAt _ _ 49 _ (by simp)
  have t2 : Turn no w w2 := by rw [← hw2]; exact ((Turn.refl no w).alloc _).alloc _
  have s2 : w2.heap.size = w.heap.size + 2 := by rw [← hw2]; simp
  have c228 := r1.cell 228 _ (bkL_228 hD _ _)
  have src1 := (h1.turn_no (t2.alloc (.cells #[] 27))).src (t := 46) Tryd.underlying46 (by omega)
  rw [hn1'] at src1
  have m1 : n1 + 2 ≤ maxLen := by simp only [maxLen]; omega
  have m2 : n2 + 2 ≤ maxLen := by simp only [maxLen]; omega
  obtain ⟨v3, w3, hr3, O3, G3⟩ := run_append_srcN (P := Tryd.prog) Tryd.underlying46 info27b rfl (by decide) 46 (w2.alloc (.cells #[] 27)) (.slice (some ⟨w2.heap.size, 0, none⟩) 0 0) 0 [] (ownN_empty w2 27 22) _ n1 (flatE L1) src1 (Nat.le_trans (Nat.mul_le_mul_right 64 (show 0 + n1 ≤ n1 + 2 by omega)) b1) (by omega)
  obtain ⟨gA, pA, rfl, q3, q4⟩ := ownN_some O3 G3 ⟨w2.heap.size, rfl⟩
  rw [Nat.zero_add] at hr3 O3 G3 q3
  rw [List.nil_append] at O3
  have T3 : Turn no w2 w3 := ((Turn.refl no w2).alloc _).fresh G3 (fun g hg => by cases hg; exact Nat.le_refl _)
  have F3 := G3.fresh (B := w2.heap.size) (fun g hg => by cases hg; exact Nat.le_refl _) (by simp) gA rfl
  have src2 := (h2.turn_no ((t2.then_no T3).alloc (.cells #[] 80))).src (t := 47) Tryd.underlying47 (by omega)
  rw [hn2'] at src2
  obtain ⟨v4, w4, hr4, O4, G4⟩ := run_append_srcN (P := Tryd.prog) Tryd.underlying47 info80b rfl (by decide) 47 (w3.alloc (.cells #[] 80)) (.slice (some ⟨w3.heap.size, 0, none⟩) 0 0) 0 [] (ownN_empty w3 80 106) _ n2 (flatE L2) src2 (Nat.le_trans (Nat.mul_le_mul_right 176 (show 0 + n2 ≤ n2 + 2 by omega)) b2) (by omega)
  obtain ⟨gB, pB, rfl, q5, q6⟩ := ownN_some O4 G4 ⟨w3.heap.size, rfl⟩
  rw [Nat.zero_add] at hr4 O4 G4 q5
  rw [List.nil_append] at O4
  have T4 : Turn no w3 w4 := ((Turn.refl no w3).alloc _).fresh G4 (fun g hg => by cases hg; exact Nat.le_refl _)
  have F4 := G4.fresh (B := w2.heap.size) (fun g hg => by cases hg; exact T3.size) (by have := T3.size; simp; omega) gB rfl
  have HI0 : Shut (OwnN w4 27 22 (.slice (some ⟨gA, 0, none⟩) n1 pA) n1 (flatE L1) ∧ OwnN w4 80 106 (.slice (some ⟨gB, 0, none⟩) n2 pB) n2 (flatE L2) ∧ w2.heap.size ≤ gA ∧ w2.heap.size ≤ gB ∧ Turn no w2 w4) := ⟨O3.turn_no T4, O4, F3, F4, T3.then_no T4⟩
  have c228b := ((Turn.refl no w2).alloc (.cells #[] 27)).keep c228 (fun q => q)
  have c229 := T3.keep (r1.cell 229 _ (bkL_229 hD _ _)) (fun q => q)
  have c229b := ((Turn.refl no w3).alloc (.cells #[] 80)).keep c229 (fun q => q)
  have C39 : Shut (∀ W, Turn no w W → Calls Tryd.prog 39 #[.agg (ctL h r id (.slice a3 L3.length c3)).toArray] W fun e w' => ∃ g cp, e = .returned (.agg (ctL h r id (.slice (some ⟨g, 0, none⟩) L3.length cp)).toArray) ∧ OwnN w' 108 18 (.slice (some ⟨g, 0, none⟩) (L3.length + 2) cp) (L3.length + 2) (flatE L3 ++ tgs 2) ∧ W.heap.size ≤ g ∧ Turn no W w') := ⟨fun W t => lentCert39 W h r id hid a3 c3 L3 (h3.turn_no t) b3⟩
  have HT2 := shut (And.intro t2 s2)
  have HR1 := shut r1
  have HR2 := shut r2
  have HD := shut (And.intro hD (And.intro oD (And.intro hid (And.intro hn1' hn2'))))
  clear r1 r2 t2 s2 O3 O4 G3 G4 F3 F4 T3 T4 src1 src2 hn1' hn2' hD oD h1 h2 h3 b3 hid q3 q4 q5 q6
  generalize hC : ctL h r id (.slice a3 L3.length c3) = C at *
  have HC := shut hC
  clear hC
  generalize (bkL D (.slice a1 n1 c1) (.slice a2 n2 c2) C).toArray = K at hw2 ⊢
  generalize hZ : Z49 = Z at *
  have HZ := shut hZ
  clear hZ
  go_enter Tryd.func12, Tryd.ntmps12
  go_upto_region 1 with fail
  try rw [hw2]
  clear hw2 hz49
  go_upto_region 3 with (first | (guard_target =~ wpList _ _ _ ({ dst := some 14, .. } :: _) _ _; refine wpList_append_run rfl (.tmp 11) (.tmp 13) rfl _ _ rfl rfl hr3 ?_; clear hr3))
  clear c228 c228b
  go_upto_region 5 with (first | (guard_target =~ wpList _ _ _ ({ dst := some 21, .. } :: _) _ _; refine wpList_append_run rfl (.tmp 18) (.tmp 20) rfl _ _ rfl rfl hr4 ?_; clear hr4))
  clear c229 c229b
  go_wp2_with fail
  go_loopw [4, 6, 7] (fun v u i wr => ∃ (k g1 p1 g2 p2 : Nat), k ≤ 2 ∧ i = .int .i64 k ∧ v = .slice (some ⟨g1, 0, none⟩) (n1 + k) p1 ∧ u = .slice (some ⟨g2, 0, none⟩) (n2 + k) p2 ∧ Shut (OwnN wr 27 22 (.slice (some ⟨g1, 0, none⟩) (n1 + k) p1) (n1 + k) (flatE L1 ++ tgF tgX k) ∧ OwnN wr 80 106 (.slice (some ⟨g2, 0, none⟩) (n2 + k) p2) (n2 + k) (flatE L2 ++ tgF tgV k) ∧ w2.heap.size ≤ g1 ∧ w2.heap.size ≤ g2 ∧ Turn no w2 wr)) (fun _ _ i _ => 2 - (intOf i).toNat)
  case atStart => exact ⟨0, gA, pA, gB, pB, by omega, rfl, rfl, rfl, ⟨by simpa [tgF] using HI0.out.1, by simpa [tgF] using HI0.out.2.1, HI0.out.2.2.1, HI0.out.2.2.2.1, HI0.out.2.2.2.2⟩⟩
  case round =>
    obtain ⟨k, g1, p1, g2, p2, hk, rfl, rfl, rfl, HI⟩ := hrel
    obtain ⟨kO, kV, kG, kH, kT⟩ := HI.out
    by_cases hlt : k < 2
    · have hlt' : (k : Int) < 2 := by omega
      have C1 := fun W => tag38 W k (by omega)
      have hB1 := built27 k
      have hB2 := built78 k
      have hB3 := built80 k
      have hs1 : (tgX k).toArray.size = 22 := rfl
      have hs2 : (tgV k).toArray.size = 106 := rfl
      have O5a := kO.turn_no ((Turn.refl no wr).alloc (.cells (tgX k).toArray 27))
      have S5 := src_el (t := 46) (e := 27) Tryd.underlying46 wr (tgX k) 22 rfl (tgX_one k)
      obtain ⟨v5, w5, hr5, O5, G5⟩ := run_append_srcN (P := Tryd.prog) Tryd.underlying46 info27b rfl (by decide) 46 _ _ (n1 + k) (flatE L1 ++ tgF tgX k) O5a _ 1 (tgX k) S5 (Nat.le_trans (Nat.mul_le_mul_right 64 (show n1 + k + 1 ≤ n1 + 2 by omega)) b1) (by omega)
      obtain ⟨g5, p5, rfl, q5, q6⟩ := ownN_some O5 G5 ⟨g1, rfl⟩
      have T5 : Turn (fun x => x = g1) wr w5 := ((Turn.refl _ wr).alloc _).trans G5.turn (fun i _ q => by cases q; rfl)
      have F5 := G5.fresh (B := w2.heap.size) (fun g' hg => by cases hg; exact kG) (by have := kT.size; simp; omega) g5 rfl
      have kV5 := kV.turn T5 (fun g' hg q => by have q2 : g' = g1 := q; subst q2; exact ownN_ne kV kO (by decide) g' hg rfl)
      have O6a := kV5.turn_no ((Turn.refl no w5).alloc (.cells (tgV k).toArray 80))
      have S6 := src_el (t := 47) (e := 80) Tryd.underlying47 w5 (tgV k) 106 rfl (tgV_one k)
      obtain ⟨v6, w6, hr6, O6, G6⟩ := run_append_srcN (P := Tryd.prog) Tryd.underlying47 info80b rfl (by decide) 47 _ _ (n2 + k) (flatE L2 ++ tgF tgV k) O6a _ 1 (tgV k) S6 (Nat.le_trans (Nat.mul_le_mul_right 176 (show n2 + k + 1 ≤ n2 + 2 by omega)) b2) (by omega)
      obtain ⟨g6, p6, rfl, q7, q8⟩ := ownN_some O6 G6 ⟨g2, rfl⟩
      have T6 : Turn (fun x => x = g2) w5 w6 := ((Turn.refl _ w5).alloc _).trans G6.turn (fun i _ q => by cases q; rfl)
      have F6 := G6.fresh (B := w2.heap.size) (fun g' hg => by cases hg; exact kH) (by have := kT.size; have := T5.size; simp; omega) g6 rfl
      have O5b := O5.turn T6 (fun g' hg q => by have q2 : g' = g2 := q; subst q2; exact ownN_ne O5 kV5 (by decide) g' hg rfl)
      have TT : Turn no w2 w6 := (kT.trans T5 (fun i hi q => by have q2 : i = g1 := q; omega)).trans T6 (fun i hi q => by have q2 : i = g2 := q; omega)
      have HN : Shut (OwnN w6 27 22 (.slice (some ⟨g5, 0, none⟩) (n1 + (k + 1)) p5) (n1 + (k + 1)) (flatE L1 ++ tgF tgX (k + 1)) ∧ OwnN w6 80 106 (.slice (some ⟨g6, 0, none⟩) (n2 + (k + 1)) p6) (n2 + (k + 1)) (flatE L2 ++ tgF tgV (k + 1)) ∧ w2.heap.size ≤ g5 ∧ w2.heap.size ≤ g6 ∧ Turn no w2 w6) := ⟨by rw [tgF_succ, ← List.append_assoc]; exact O5b, by rw [tgF_succ, ← List.append_assoc]; exact O6, F5, F6, TT⟩
      clear O5a S5 O5 G5 q5 q6 T5 F5 kV5 O6a S6 O6 G6 q7 q8 T6 F6 O5b TT kO kV kG kH kT HI
      generalize (tgX k).toArray = X at *
      generalize (tgV k).toArray = V at *
      generalize (tgA k).toArray = A at *
      go_upto_region 9 with (first | (go_at_call 38; refine (C1 _).mono ?_; rintro e w9 ⟨rfl, rfl⟩) | (guard_target =~ wpList _ _ _ ({ dst := _, op := Op.build 27 _, .. } :: _) _ _; refine wpList_build1 rfl 27 4 (.tmp 28) rfl _ rfl X hB1 ?_) | (guard_target =~ wpList _ _ _ ({ dst := _, op := Op.buildSlice 46 _ _, .. } :: _) _ _; refine wpList_bsliceA rfl 46 27 22 (.tmp 29) rfl X rfl hs1 (by decide) (by decide) Tryd.underlying46 size27 (by kernel_rfl) ?_) | (guard_target =~ wpList _ _ _ ({ dst := some 31, .. } :: _) _ _; refine wpList_append_run rfl (.tmp 26) (.tmp 30) rfl _ _ rfl rfl hr5 ?_; clear hr5))
      go_upto_region 7 with (first | (go_at_call 38; refine (C1 _).mono ?_; rintro e w9 ⟨rfl, rfl⟩) | (guard_target =~ wpList _ _ _ ({ dst := _, op := Op.build 78 _, .. } :: _) _ _; refine wpList_build1 rfl 78 4 (.tmp 34) rfl _ rfl A hB2 ?_) | (guard_target =~ wpList _ _ _ ({ dst := _, op := Op.build 80 _, .. } :: _) _ _; refine wpList_build1 rfl 80 0 (.tmp 35) rfl _ rfl V hB3 ?_) | (guard_target =~ wpList _ _ _ ({ dst := _, op := Op.buildSlice 47 _ _, .. } :: _) _ _; refine wpList_bsliceA rfl 47 80 106 (.tmp 36) rfl V rfl hs2 (by decide) (by decide) Tryd.underlying47 size80 (by kernel_rfl) ?_) | (guard_target =~ wpList _ _ _ ({ dst := some 38, .. } :: _) _ _; refine wpList_append_run rfl (.tmp 32) (.tmp 37) rfl _ _ rfl rfl hr6 ?_; clear hr6))
      go_wp2_with fail
      go_roundw
      case rel => exact ⟨k + 1, g5, p5, g6, p6, by omega, by go_num, rfl, rfl, HN⟩
      case measure => simp [intOf]; omega
    · obtain rfl : k = 2 := by omega
      have hlt' : ¬ ((2 : Nat) : Int) < 2 := by omega
      obtain ⟨dD, dO, did, dn1, dn2⟩ := HD.out
      obtain ⟨t2, s2⟩ := HT2.out
      obtain ⟨xa, xc, xe, _, x1, x2, x3⟩ := kO.form
      cases xe
      obtain ⟨ya, yc, ye, _, y1, y2, y3⟩ := kV.form
      cases ye
      have i1 : n1 ≤ p1 := by omega
      have i2 : n2 ≤ p2 := by omega
      have R1 := Row.turn HR1.out kT (fun q => q)
      have R2 := Row.turn HR2.out kT (fun q => q)
      have d228 := R1.cell 228 _ (bkL_228 dD _ _)
      have f228 := R1.frozen 228
      -- the worlds behind the two stores
      have S1 : Row (wr.setCell ⟨w.heap.size, 228, none⟩ (.slice (some ⟨g1, 0, none⟩) n1 p1)) w.heap.size (bkL D (.slice (some ⟨g1, 0, none⟩) n1 p1) (.slice a2 n2 c2) C).toArray 49 := by
        have := Row.set R1 228 (.slice (some ⟨g1, 0, none⟩) n1 p1)
        rwa [bkL_set228 dD] at this
      have TS1 : Turn (fun x => x = w.heap.size) wr (wr.setCell ⟨w.heap.size, 228, none⟩ (.slice (some ⟨g1, 0, none⟩) n1 p1)) := (Turn.refl (fun x => x = w.heap.size) wr).setCell (p := ⟨w.heap.size, 228, none⟩) (fun _ => rfl) _
      obtain ⟨wa, hwa⟩ : ∃ W, wr.setCell ⟨w.heap.size, 228, none⟩ (.slice (some ⟨g1, 0, none⟩) n1 p1) = W := ⟨_, rfl⟩
      rw [hwa] at S1 TS1
      have d229 := S1.cell 229 _ (bkL_229 dD _ _)
      have f229 := S1.frozen 229
      have S2 : Row (wa.setCell ⟨w.heap.size, 229, none⟩ (.slice (some ⟨g2, 0, none⟩) n2 p2)) w.heap.size (bkL D (.slice (some ⟨g1, 0, none⟩) n1 p1) (.slice (some ⟨g2, 0, none⟩) n2 p2) C).toArray 49 := by
        have := Row.set S1 229 (.slice (some ⟨g2, 0, none⟩) n2 p2)
        rwa [bkL_set229 dD] at this
      have TS2 : Turn (fun x => x = w.heap.size) wa (wa.setCell ⟨w.heap.size, 229, none⟩ (.slice (some ⟨g2, 0, none⟩) n2 p2)) := (Turn.refl (fun x => x = w.heap.size) wa).setCell (p := ⟨w.heap.size, 229, none⟩) (fun _ => rfl) _
      obtain ⟨wb, hwb⟩ : ∃ W, wa.setCell ⟨w.heap.size, 229, none⟩ (.slice (some ⟨g2, 0, none⟩) n2 p2) = W := ⟨_, rfl⟩
      rw [hwb] at S2 TS2
      have TSb : Turn (fun x => x = w.heap.size) wr wb := TS1.trans TS2 (fun _ _ q => q)
      have Tb : Turn no w wb := (t2.then_no kT).trans TSb (fun i hi q => by have q2 : i = w.heap.size := q; omega)
      have Z2 := R2.turn TSb (fun q => by have q2 : w.heap.size + 1 = w.heap.size := q; omega)
      have kO2 := kO.turn TSb (fun g' hg q => by cases hg; have q2 : g1 = w.heap.size := q; omega)
      have kV2 := kV.turn TSb (fun g' hg q => by cases hg; have q2 : g2 = w.heap.size := q; omega)
      have cr : wb.rangeAt w.heap.size 230 C := fun j u hu => S2.cell (230 + j) _ (bkL_C dD _ _ j u hu)
      have zC : (Tryd.prog.info? 34).map (·.size) = some C.length := by rw [← HC.out, ctL_len h r id did]; exact size30a
      have K39 := C39.out wb Tb
      have HZ2 := shut (And.intro S2 (And.intro Z2 (And.intro kO2 (And.intro kV2 (And.intro Tb (And.intro kG kH))))))
      clear HI kO kV kG kH kT R1 R2 S1 S2 TS1 TS2 TSb Tb Z2 kO2 kV2 x1 x2 x3 y1 y2 y3
      go_upto_region 11 with fail
      try rw [hwa]
      clear hwa d228 f228
      go_upto_region 12 with fail
      try rw [hwb]
      clear hwb d229 f229
      go_upto_region 13 with (first | (guard_target =~ wpList _ _ _ ({ dst := _, op := Op.load 34 _, .. } :: _) _ _; refine wpList_load_midG (by rfl) 34 (.tmp 47) rfl w.heap.size 230 rfl C _ cr Tryd.underlying34 rfl zC ?_) | (go_at_call 39; refine K39.mono ?_; clear K39; rintro e wc ⟨g3, p3, rfl, O9, G9, T9⟩; (have W9 := there_of (HZ2.out.1.turn T9 (fun q => q)) 230 35 (by rw [List.size_toArray, bkL_len HD.out.1 (by rw [← HC.out, ctL_len h r id HD.out.2.2.1])]; omega)); (have lC9 := ctL_len h r id HD.out.2.2.1 (.slice (some ⟨g3, 0, none⟩) L3.length p3)); (have HX9 := shut lC9); (generalize hC9 : ctL h r id (.slice (some ⟨g3, 0, none⟩) L3.length p3) = C9 at *); have HC9 := shut hC9; clear hC9) | (guard_target =~ wpList _ _ _ ({ dst := _, op := Op.store 34 _ _, .. } :: _) _ _; refine wpList_store_mid rfl 34 (.tmp 50) (.tmp 49) rfl w.heap.size 230 C9.toArray rfl rfl (by rw [show C9.toArray.size = 35 by simpa using HX9.out]; exact W9) (by rw [show C9.toArray.size = 35 by simpa using HX9.out]; exact size30a) (by rw [← HC9.out]; exact ctL_oneA _ _ _ _) ?_))
      obtain ⟨S2, Z2, kO2, kV2, Tb, kG, kH⟩ := HZ2.out
      have hl9 : 230 + C9.length ≤ (bkL D (.slice (some ⟨g1, 0, none⟩) n1 p1) (.slice (some ⟨g2, 0, none⟩) n2 p2) C).toArray.size := by
        rw [List.size_toArray, bkL_len HD.out.1 (by rw [← HC.out, ctL_len h r id HD.out.2.2.1]), HX9.out]
        omega
      have S9 : Row (wc.setCells w.heap.size 230 C9) w.heap.size (bkL D (.slice (some ⟨g1, 0, none⟩) n1 p1) (.slice (some ⟨g2, 0, none⟩) n2 p2) C9).toArray 49 := by
        have := Row.setCells C9 (o := 230) (S2.turn T9 (fun q => q)) hl9
        rwa [bkL_over HD.out.1 (by rw [HX9.out, ← HC.out, ctL_len h r id HD.out.2.2.1])] at this
      have TS9 : Turn (fun x => x = w.heap.size) wc (wc.setCells w.heap.size 230 C9) := Turn.setCells C9 (Turn.refl _ wc) (fun _ => rfl)
      have Z9 := (Z2.turn T9 (fun q => q)).turn TS9 (fun q => by have q2 : w.heap.size + 1 = w.heap.size := q; omega)
      have hsb := Tb.size
      have kO9 := (kO2.turn_no T9).turn TS9 (fun g' hg q => by cases hg; have q2 : g1 = w.heap.size := q; have := HT2.out.2; omega)
      have kV9 := (kV2.turn_no T9).turn TS9 (fun g' hg q => by cases hg; have q2 : g2 = w.heap.size := q; have := HT2.out.2; omega)
      have hz2 := Z2.lt
      have kM9 := O9.turn TS9 (fun g' hg q => by cases hg; have q2 : g3 = w.heap.size := q; omega)
      have TT9 := (Tb.then_no T9).trans TS9 (fun i hi q => by have q2 : i = w.heap.size := q; omega)
      have lB := bkL_len HD.out.1 HX9.out (.slice (some ⟨g1, 0, none⟩) n1 p1) (.slice (some ⟨g2, 0, none⟩) n2 p2)
      have oB := bkL_one (C := C9) HD.out.2.1 (by rw [← HC9.out]; exact ctL_oneL _ _ _ _ rfl) (.slice (some ⟨g1, 0, none⟩) n1 p1) (.slice (some ⟨g2, 0, none⟩) n2 p2) rfl rfl
      have hg9 : Shut (g1 ≠ w.heap.size + 1 ∧ g2 ≠ w.heap.size + 1 ∧ g3 ≠ w.heap.size + 1) := ⟨by have := HT2.out.2; omega, by have := HT2.out.2; omega, by omega⟩
      have HF := shut (And.intro kO9 (And.intro kV9 (And.intro kM9 TT9)))
      clear kO9 kV9 kM9 TT9 TS9 S2 Z2 kO2 kV2 Tb kG kH T9 O9 G9 W9 cr hl9 hsb hz2
      generalize wc.setCells w.heap.size 230 C9 = wd at *
      have iB : (Tryd.prog.info? 49).map (·.size) = some (bkL D (.slice (some ⟨g1, 0, none⟩) n1 p1) (.slice (some ⟨g2, 0, none⟩) n2 p2) C9).toArray.size := by rw [List.size_toArray, lB]; exact size49
      have zz : Z.size = (bkL D (.slice (some ⟨g1, 0, none⟩) n1 p1) (.slice (some ⟨g2, 0, none⟩) n2 p2) C9).toArray.size := by rw [show Z.size = 265 by rw [← HZ.out]; exact Z49_size, List.size_toArray, lB]
      obtain ⟨B, hB⟩ : ∃ B, (bkL D (.slice (some ⟨g1, 0, none⟩) n1 p1) (.slice (some ⟨g2, 0, none⟩) n2 p2) C9).toArray = B := ⟨_, rfl⟩
      rw [hB] at S9 oB iB zz
      have HB := shut hB
      clear hB lB
      go_wp2_with (first | (guard_target =~ wpList _ _ _ ({ dst := _, op := Op.load 49 _, .. } :: _) _ _; refine wpList_load_rowN rfl 49 (.tmp 1) rfl w.heap.size rfl 49 B _ S9 Tryd.underlying49 rfl iB ?_) | (guard_target =~ wpList _ _ _ ({ dst := _, op := Op.store 49 _ _, .. } :: _) _ _; refine wpList_store_anyN rfl rfl 49 (.tmp 2) (.tmp 51) rfl (w.heap.size + 1) B rfl rfl 49 Z Z9 iB zz oB ?_; intro we R9 U9))
      obtain ⟨kO9, kV9, kM9, TT9⟩ := HF.out
      obtain ⟨l1, o1, l2, o2, l3, o3⟩ := HL.out
      refine bodyPost_ret (v := .agg B) (results_cell_row (P := Tryd.prog) Tryd.results12 _ _ (w.heap.size + 1) 49 B (0, 0) _ rfl R9 Tryd.underlying49 rfl iB) rfl ⟨g1, p1, g2, p2, g3, p3, by rw [← HB.out, ← HC9.out], ?_, ?_, ?_, TT9.trans U9 (fun i hi q => by have q2 : i = w.heap.size + 1 := q; omega)⟩
      · refine Rm.turn ⟨?_, hn1.out, l1, o1, rfl⟩ U9 hg9.out.1
        rw [← tgF_two]
        exact kO9
      · refine Rm.turn ⟨?_, hn2.out, l2, o2, rfl⟩ U9 hg9.out.2.1
        rw [← tgF_two]
        exact kV9
      · refine Rm.turn ⟨?_, rfl, l3, o3, rfl⟩ U9 hg9.out.2.2
        exact kM9
end Go.Proofs.YtgimecdmleofeaaDoor

/- The walk of WireRoots. -/
namespace Go.Proofs.YtgimecdmleofeaaDoor
open Go.RowKit
set_option linter.unusedVariables false

theorem wpList_eqlZ {P : Program} {ops : Array Oper} {rest : List Oper} {op : Oper} {a : Act} {w : World} {Q : Exit → Act → World → Prop} (hgd : Region.wanted op (yielded ops a.tmps) = true) (t t2 : TypeId) (x y : Operand) (ho : op.op = .binOp .eql t x y t2) (vx vy : Value) (hx : a.eval x = vx) (hy : a.eval y = vy) (r : Value) (hq : (eqGuard .eql t x y vx vy).run P w = .ok () w) (hr : (binOp .eql t vx vy).run P w = .ok r w) (h : wpList P ops Q rest (a.put op.dst r) w) : wpList P ops Q (op :: rest) a w :=
  wpList_want hgd fun K hK => by
    unfold Oper.wp execOp
    simp only [ho, hx, hy, Sem.run_bind, hq, hr, Result.andThen_ok, Sem.run_pure]
    exact hK _ _ h
theorem guardZ (w : World) (x y : Operand) (A B : Array Value) : (eqGuard .eql 29 x y (.agg A) (.agg B)).run Tryd.prog w = .ok () w := by
  kernel_rfl

theorem numZ11 (w : World) (n : Int) : Calls Tryd.prog 11 #[.int .i64 n] w fun e w' => e = .returned (.int .i64 n) ∧ w = w' := by
  go_enter Tryd.func11, Tryd.ntmps11
  go_wp2_with fail
  go_ret
  exact ⟨rfl, rfl⟩
/-- What is asked of a list of transactions. -/
structure Good1 (L : List El) : Prop where
  f : ∀ x ∈ L, x.f.length ≤ 1048576
  enc : ∀ x ∈ L, ∀ W, Calls Tryd.prog 41 #[.agg x.cs.toArray] W (Told W x.p (if x.p = 0 then x.f else []))
  pl : ∀ x ∈ L, ∀ W, Calls Tryd.prog 30 #[.agg x.cs.toArray] W fun e w' => e = .returned (.int .i64 x.p) ∧ Turn no W w'
  fr : ∀ x ∈ L, x.p = 0 → ∀ W, Calls Tryd.prog 32 #[.agg x.cs.toArray, .bool true] W fun e w' => ∃ v, e = .returned v ∧ Fr W w' v x.f
  alike : Alike 27 L
/-- What is asked of a list of evidence. -/
structure Good2 (L : List El) : Prop where
  f : ∀ x ∈ L, x.f.length ≤ 1048576
  enc : ∀ x ∈ L, ∀ W, Calls Tryd.prog 43 #[.agg x.cs.toArray] W (Told W x.p (if x.p = 0 then x.f else []))
  pl : ∀ x ∈ L, ∀ W, Calls Tryd.prog 45 #[.agg x.cs.toArray] W fun e w' => e = .returned (.int .i64 x.p) ∧ Turn no W w'
  fr : ∀ x ∈ L, x.p = 0 → ∀ W, Calls Tryd.prog 46 #[.agg x.cs.toArray] W fun e w' => ∃ v, e = .returned v ∧ Fr W w' v x.f
  alike : Alike 80 L
def elT (x : Tx) : El := ⟨x.cs, plainT x, txB x ++ x.se⟩
def elV (x : Ev) : El := ⟨x.cs, plainV x, evB x⟩
def elM (m : Mk) : El := ⟨mkL m, 0, []⟩
theorem good1 (l : List Tx) (h : ∀ x ∈ l, x.ok) : Good1 (l.map elT) := by
  refine ⟨?_, ?_, ?_, ?_, ?_⟩ <;> (intro y hy; obtain ⟨x, hx, rfl⟩ := List.mem_map.1 hy)
  · exact Nat.le_trans (txS_le (h x hx)) (by omega)
  · exact fun W => encodeTx41 W x (h x hx)
  · exact fun W => plain36 W x
  · exact fun h0 W => tx32 W x (h x hx) (plainT_kind h0).1 (plainT_kind h0).2
  · exact ⟨by rw [show (elT x).cs.length = 22 from x.len (h x hx)]; exact size27, fun W => eq27 W 9997 x (h x hx)⟩
theorem good2 (l : List Ev) (h : ∀ x ∈ l, x.fits) : Good2 (l.map elV) := by
  refine ⟨?_, ?_, ?_, ?_, ?_⟩ <;> (intro y hy; obtain ⟨x, hx, rfl⟩ := List.mem_map.1 hy)
  · exact Nat.le_trans (evB_le (h x hx)) (by omega)
  · exact fun W => encodeEv43 W x (h x hx)
  · exact fun W => rplainV45 W x (h x hx)
  · exact fun h0 W => evidence46 W x (h x hx) (plainV_lays h0)
  · exact ⟨x.info (h x hx), fun W => eq80 W 9996 x (h x hx)⟩
theorem good3 (l : List Mk) (h : ∀ x ∈ l, x.ok) : Alike 108 (l.map elM) := by
  intro y hy
  obtain ⟨x, hx, rfl⟩ := List.mem_map.1 hy
  exact ⟨size50 (h x hx), fun W => eq108 W 9997 x (h x hx)⟩
theorem Rm.lt {w : World} {e : TypeId} {sz g n cp : Nat} {L : List El} {X0 X1 : List Value} (h : Rm w e sz g n cp L X0 X1) : g < w.heap.size := h.own.lt rfl
/-- A step that makes a block and fills it. -/
theorem turn_made {u v w' : World} {o : Obj} (t : Turn no u v) (t' : Turn (fun z => z = v.heap.size) (v.alloc o) w') : Turn no u w' :=
  t.trans (((Turn.refl (fun z => z = v.heap.size) v).alloc o).trans t' (fun _ _ q => q)) (fun i hi q => by have q2 : i = v.heap.size := q; have := t.size; omega)
set_option maxRecDepth 100000 in
set_option maxHeartbeats 8000000 in
theorem roots4 (w : World) (l0 : Laid0 w) (l1 : Laid1 w) (hs3 : 3 ≤ w.heap.size) (D : List Value) (hD : D.length = 228) (oD : ∀ u ∈ D, u.oneCell' = true) (heq : ∀ W, (Op.equalIn 10000 31 (.agg D.toArray) (.agg D.toArray)).run Tryd.prog W = .ok true W) (h : Nat) (r : Int) (id : List UInt8) (hid : id.length = 32)
    (a1 : Option Addr) (c1 : Nat) (L1 : List El) (h1 : TsAt w 22 a1 c1 L1) (b1 : (L1.length + 2) * 64 ≤ 140737488355328) (G1 : Good1 L1)
    (a2 : Option Addr) (c2 : Nat) (L2 : List El) (h2 : TsAt w 106 a2 c2 L2) (b2 : (L2.length + 2) * 176 ≤ 140737488355328) (G2 : Good2 L2)
    (a3 : Option Addr) (c3 : Nat) (L3 : List El) (h3 : TsAt w 18 a3 c3 L3) (b3 : (L3.length + 2) * 32 ≤ 140737488355328) (G3 : Alike 108 L3) :
    Calls Tryd.prog 4 #[.agg (bkL D (.slice a1 L1.length c1) (.slice a2 L2.length c2) (ctL h r id (.slice a3 L3.length c3))).toArray] w fun e w' => e = .returned (.bool true) ∧ Turn no w w' := by
  have hz49 := zero49
  have hzv := zero35v
  have hZ := hb32_size z32_len
  have lC := ctL_len h r id hid (.slice a3 L3.length c3)
  have lK := bkL_len hD lC (.slice a1 L1.length c1) (.slice a2 L2.length c2)
  obtain ⟨w1, hw1⟩ : ∃ W, w.alloc (.cells (bkL D (.slice a1 L1.length c1) (.slice a2 L2.length c2) (ctL h r id (.slice a3 L3.length c3))).toArray 49) = W := ⟨_, rfl⟩
  have t1 : Turn no w w1 := by rw [← hw1]; exact (Turn.refl no w).alloc _
  have r1 : Row w1 w.heap.size (bkL D (.slice a1 L1.length c1) (.slice a2 L2.length c2) (ctL h r id (.slice a3 L3.length c3))).toArray 49 := by rw [← hw1]; exact Row.new w _ 49
  have C12 := lentB12 w1 D hD oD h r id hid a1 c1 L1 (h1.turn_no t1) b1 a2 c2 L2 (h2.turn_no t1) b2 a3 c3 L3 (h3.turn_no t1) b3
  have iK : (Tryd.prog.info? 49).map (·.size) = some (bkL D (.slice a1 L1.length c1) (.slice a2 L2.length c2) (ctL h r id (.slice a3 L3.length c3))).toArray.size := by rw [List.size_toArray, lK]; exact size49
  have x228 := r1.cell 228 _ (bkL_228 hD _ _)
  have x229 := r1.cell 229 _ (bkL_229 hD _ _)
  have LW : ∀ W, Turn no w1 W → Laid0 W ∧ Laid1 W ∧ 3 ≤ W.heap.size := fun W t => ⟨l0.turn (t1.then_no t) (fun q => q), l1.turn (t1.then_no t) (fun q => q), by have := (t1.then_no t).size; omega⟩
  have HCR : Shut (∀ W, Turn no w1 W → (∀ a cap, TsAt W 22 a cap L1 → Calls Tryd.prog 13 #[.slice a L1.length cap] W fun e w' => e = .returned (.tuple #[.agg (hb32 (rootsH 1000 L1)), .int .i64 (rootsE 1000 L1)]) ∧ Turn no W w') ∧
      (∀ a cap, TsAt W 106 a cap L2 → Calls Tryd.prog 14 #[.slice a L2.length cap] W fun e w' => e = .returned (.tuple #[.agg (hb32 (rootsH 16 L2)), .int .i64 (rootsE 16 L2)]) ∧ Turn no W w') ∧
      (∀ a cap, TsAt W 22 a cap L1 → Calls Tryd.prog 15 #[.slice a L1.length cap] W fun e w' => e = .returned (.tuple #[.agg (hb32 (rootsH 1000 L1)), .int .i64 (rootsE 1000 L1)]) ∧ Turn no W w') ∧
      (∀ a cap, TsAt W 106 a cap L2 → Calls Tryd.prog 16 #[.slice a L2.length cap] W fun e w' => e = .returned (.tuple #[.agg (hb32 (rootsH 16 L2)), .int .i64 (rootsE 16 L2)]) ∧ Turn no W w')) :=
    ⟨fun W t => ⟨fun a cap hT => roots13 W (LW W t).2.1 (LW W t).2.2 a cap L1 hT G1.f G1.enc, fun a cap hT => roots14 W (LW W t).2.1 (LW W t).2.2 a cap L2 hT G2.f G2.enc, fun a cap hT => rroots15 W (LW W t).1 (LW W t).2.2 a cap L1 hT G1.f G1.pl G1.fr, fun a cap hT => rroots16 W (LW W t).1 (LW W t).2.2 a cap L2 hT G2.f G2.pl G2.fr⟩⟩
  have HTS : Shut (∀ W, Turn no w1 W → TsAt W 22 a1 c1 L1 ∧ TsAt W 106 a2 c2 L2 ∧ TsAt W 18 a3 c3 L3) := ⟨fun W t => ⟨h1.turn_no (t1.then_no t), h2.turn_no (t1.then_no t), h3.turn_no (t1.then_no t)⟩⟩
  have HG := shut (And.intro hD (And.intro heq (And.intro hid (And.intro G1.alike (And.intro G2.alike G3)))))
  have HT1 := shut t1
  have HR1 := shut r1
  have ld1 := rootsH_len 1000 L1
  have ld2 := rootsH_len 16 L2
  have s1 := hb32_size ld1
  have o1 := hb32_one (rootsH 1000 L1)
  have i1 := hb32_info ld1
  have s2 := hb32_size ld2
  have o2 := hb32_one (rootsH 16 L2)
  have i2 := hb32_info ld2
  have HE : Shut ((∀ W, (binOp .eql 29 (.agg (hb32 (rootsH 1000 L1))) (.agg (hb32 (rootsH 1000 L1)))).run Tryd.prog W = .ok (.bool true) W) ∧ (∀ W, (binOp .eql 29 (.agg (hb32 (rootsH 16 L2))) (.agg (hb32 (rootsH 16 L2)))).run Tryd.prog W = .ok (.bool true) W)) :=
    ⟨⟨fun W => by have := eql24 W _ _ ld1 ld1; rwa [show (rootsH 1000 L1 == rootsH 1000 L1) = true by simp] at this, fun W => by have := eql24 W _ _ ld2 ld2; rwa [show (rootsH 16 L2 == rootsH 16 L2) = true by simp] at this⟩⟩
  clear h1 h2 h3 G1 G2 G3 b1 b2 b3 l0 l1 hs3 LW ld1 ld2 lK lC
  generalize hb32 (rootsH 1000 L1) = A1 at *
  generalize hb32 (rootsH 16 L2) = A2 at *
  generalize rootsE 1000 L1 = e1 at *
  generalize rootsE 16 L2 = e2 at *
  generalize hb32 z32 = Z at *
  obtain ⟨K, hK⟩ : ∃ K, (bkL D (.slice a1 L1.length c1) (.slice a2 L2.length c2) (ctL h r id (.slice a3 L3.length c3))).toArray = K := ⟨_, rfl⟩
  rw [hK] at hw1 r1 C12 iK ⊢
  have HK := shut hK
  clear hK
  go_enter Tryd.func4, Tryd.ntmps4
  go_upto_region 1 with fail
  try rw [hw1]
  clear hw1
  have hZ49 := Z49_size
  go_upto_region 2 with (first | (guard_target =~ wpList _ _ _ ({ dst := _, op := Op.load 49 _, .. } :: _) _ _; refine wpList_load_rowN rfl 49 (.tmp 1) rfl w.heap.size rfl 49 K _ r1 Tryd.underlying49 rfl iK ?_) | (go_at_call 12; refine C12.mono ?_; clear C12; rintro e wl ⟨g1, p1, g2, p2, g3, p3, rfl, M1, M2, M3, tl⟩; (have lK2 := bkL_len HG.out.1 (ctL_len h r id HG.out.2.2.1 (.slice (some ⟨g3, 0, none⟩) L3.length p3)) (.slice (some ⟨g1, 0, none⟩) L1.length p1) (.slice (some ⟨g2, 0, none⟩) L2.length p2)); (have oK2 := bkL_one oD (ctL_oneL h r id (.slice (some ⟨g3, 0, none⟩) L3.length p3) rfl) (.slice (some ⟨g1, 0, none⟩) L1.length p1) (.slice (some ⟨g2, 0, none⟩) L2.length p2) rfl rfl); (have iK2 : (Tryd.prog.info? 49).map (·.size) = some (bkL D (.slice (some ⟨g1, 0, none⟩) L1.length p1) (.slice (some ⟨g2, 0, none⟩) L2.length p2) (ctL h r id (.slice (some ⟨g3, 0, none⟩) L3.length p3))).toArray.size := (by rw [List.size_toArray, lK2]; exact size49)); (have zK2 : Z49.size = (bkL D (.slice (some ⟨g1, 0, none⟩) L1.length p1) (.slice (some ⟨g2, 0, none⟩) L2.length p2) (ctL h r id (.slice (some ⟨g3, 0, none⟩) L3.length p3))).toArray.size := (by rw [hZ49, List.size_toArray, lK2])); (obtain ⟨KL, hKL⟩ : ∃ K, (bkL D (.slice (some ⟨g1, 0, none⟩) L1.length p1) (.slice (some ⟨g2, 0, none⟩) L2.length p2) (ctL h r id (.slice (some ⟨g3, 0, none⟩) L3.length p3))).toArray = K := ⟨_, rfl⟩); rw [hKL] at oK2 iK2 zK2; rw [hKL]; have HKL := shut hKL; clear hKL lK2) | (guard_target =~ wpList _ _ _ ({ dst := _, op := Op.store 49 _ _, .. } :: _) _ _; refine wpList_store_anyN rfl rfl 49 (.tmp 3) (.tmp 13) rfl wl.heap.size KL rfl rfl 49 Z49 (Row.new wl Z49 49) iK2 zK2 oK2 ?_; intro u1 RL tu1))
  have T1 : Turn no w1 u1 := turn_made tl tu1
  have TL : Turn (fun z => z = wl.heap.size) wl u1 := ((Turn.refl _ wl).alloc _).trans tu1 (fun _ _ q => q)
  have HM : Shut (∀ W, Turn no u1 W → Rm W 27 22 g1 L1.length p1 L1 (tgX 0) (tgX 1) ∧ Rm W 80 106 g2 L2.length p2 L2 (tgV 0) (tgV 1) ∧ Rm W 108 18 g3 L3.length p3 L3 (tgM 0) (tgM 1)) := ⟨fun W t => ⟨(M1.turn TL (fun q => by have q2 : g1 = wl.heap.size := q; have := M1.lt; omega)).turn_no t, (M2.turn TL (fun q => by have q2 : g2 = wl.heap.size := q; have := M2.lt; omega)).turn_no t, (M3.turn TL (fun q => by have q2 : g3 = wl.heap.size := q; have := M3.lt; omega)).turn_no t⟩⟩
  have RLc := RL
  rw [← HKL.out] at RLc
  have y228 := RLc.cell 228 _ (bkL_228 HG.out.1 _ _)
  have y229 := RLc.cell 229 _ (bkL_229 HG.out.1 _ _)
  clear RLc tu1 tl TL M1 M2 M3 r1 hz49 hZ49 zK2 oK2
  generalize wl.heap.size = gl at *
  have K13 := (HCR.out u1 T1).1 _ _ (HM.out u1 (Turn.refl no u1)).1.ts
  go_upto_region 3 with (first | (go_at_call 13; refine K13.mono ?_; clear K13; rintro e v2 ⟨rfl, tv2⟩) | (guard_target =~ wpList _ _ _ ({ dst := _, op := Op.store 29 _ _, .. } :: _) _ _; refine wpList_store_anyN rfl rfl 29 (.tmp 4) (.tmp 18) rfl v2.heap.size A1 rfl rfl 29 Z (Row.new v2 Z 29) i1 (by rw [hZ, s1]) o1 ?_; intro u2 Ra tu2))
  have D2 : Turn no u1 u2 := turn_made tv2 tu2
  have T2 := T1.then_no D2
  have z229 := D2.keep y229 (fun q => q)
  clear tv2 tu2 y228 y229
  generalize v2.heap.size = ga at *
  have K14 := (HCR.out u2 T2).2.1 _ _ (HM.out u2 D2).2.1.ts
  go_upto_region 4 with (first | (go_at_call 14; refine K14.mono ?_; clear K14; rintro e v3 ⟨rfl, tv3⟩) | (guard_target =~ wpList _ _ _ ({ dst := _, op := Op.store 29 _ _, .. } :: _) _ _; refine wpList_store_anyN rfl rfl 29 (.tmp 6) (.tmp 24) rfl v3.heap.size A2 rfl rfl 29 Z (Row.new v3 Z 29) i2 (by rw [hZ, s2]) o2 ?_; intro u3 Rb tu3))
  have E3 : Turn no u2 u3 := turn_made tv3 tu3
  have D3 := D2.then_no E3
  have T3 := T2.then_no E3
  have Ra := Row.turn Ra E3 (fun q => q)
  have z228 := T3.keep x228 (fun q => q)
  clear tv3 tu3 z229 E3 x228
  generalize v3.heap.size = gb at *
  have K15 := (HCR.out u3 T3).2.2.1 _ _ (HTS.out u3 T3).1
  go_upto_region 5 with (first | (go_at_call 15; refine K15.mono ?_; clear K15; rintro e v4 ⟨rfl, tv4⟩) | (guard_target =~ wpList _ _ _ ({ dst := _, op := Op.store 29 _ _, .. } :: _) _ _; refine wpList_store_anyN rfl rfl 29 (.tmp 8) (.tmp 30) rfl v4.heap.size A1 rfl rfl 29 Z (Row.new v4 Z 29) i1 (by rw [hZ, s1]) o1 ?_; intro u4 Rc tu4))
  have E4 : Turn no u3 u4 := turn_made tv4 tu4
  have D4 := D3.then_no E4
  have T4 := T3.then_no E4
  have Ra := Row.turn Ra E4 (fun q => q)
  have Rb := Row.turn Rb E4 (fun q => q)
  have z229 := T4.keep x229 (fun q => q)
  clear tv4 tu4 z228 E4 x229
  generalize v4.heap.size = gc at *
  have K16 := (HCR.out u4 T4).2.2.2 _ _ (HTS.out u4 T4).2.1
  go_upto_region 6 with (first | (go_at_call 16; refine K16.mono ?_; clear K16; rintro e v5 ⟨rfl, tv5⟩) | (guard_target =~ wpList _ _ _ ({ dst := _, op := Op.store 29 _ _, .. } :: _) _ _; refine wpList_store_anyN rfl rfl 29 (.tmp 10) (.tmp 36) rfl v5.heap.size A2 rfl rfl 29 Z (Row.new v5 Z 29) i2 (by rw [hZ, s2]) o2 ?_; intro u5 Rd tu5))
  have E5 : Turn no u4 u5 := turn_made tv5 tu5
  have D5 := D4.then_no E5
  have T5 := T4.then_no E5
  have Ra := Row.turn Ra E5 (fun q => q)
  have Rb := Row.turn Rb E5 (fun q => q)
  have Rc := Row.turn Rc E5 (fun q => q)
  have RL := Row.turn RL D5 (fun q => q)
  have RK := Row.turn HR1.out T5 (fun q => q)
  rw [HK.out] at RK
  clear tv5 tu5 z229 E5 hzv
  generalize v5.heap.size = gd at *
  obtain ⟨gD, gq, gi, ga1, ga2, ga3⟩ := HG.out
  obtain ⟨m1, m2, m3⟩ := HM.out u5 D5
  obtain ⟨q1, q2, q3⟩ := HTS.out u5 T5
  have K17 := sameB17 u5 D gD gq h r id gi _ _ _ _ L1 m1.ts q1 ga1 _ _ _ _ L2 m2.ts q2 ga2 _ _ _ _ L3 m3.ts q3 ga3
  rw [HKL.out, HK.out] at K17
  have HK18 : Shut (∀ W, Turn no u5 W → Calls Tryd.prog 18 #[.agg KL] W fun e w' => e = .returned (.bool true) ∧ Turn no W w') := ⟨fun W t => by
    have := keptB18 W D gD h r id gi g1 _ p1 L1 (m1.turn_no t) g2 _ p2 L2 (m2.turn_no t) g3 _ p3 L3 (m3.turn_no t)
    rwa [HKL.out] at this⟩
  clear m1 m2 m3 q1 q2 q3 ga1 ga2 ga3 gq gi gD heq oD hD hid
  go_wp2_with (first | (guard_target =~ wpList _ _ _ ({ dst := _, op := Op.load 29 (Operand.tmp 4), .. } :: _) _ _; refine wpList_load_rowN (by kernel_rfl) 29 (.tmp 4) rfl ga rfl 29 A1 _ Ra Tryd.underlying29 rfl i1 ?_) | (guard_target =~ wpList _ _ _ ({ dst := _, op := Op.load 29 (Operand.tmp 8), .. } :: _) _ _; refine wpList_load_rowN (by kernel_rfl) 29 (.tmp 8) rfl gc rfl 29 A1 _ Rc Tryd.underlying29 rfl i1 ?_) | (guard_target =~ wpList _ _ _ ({ dst := _, op := Op.binOp BinOp.eql 29 (Operand.tmp 38) _ _, .. } :: _) _ _; refine wpList_eqlZ (by kernel_rfl) 29 29 (.tmp 38) (.tmp 39) rfl (.agg A1) (.agg A1) rfl rfl (.bool true) (guardZ _ _ _ _ _) (HE.out.1 _) ?_) | (guard_target =~ wpList _ _ _ ({ dst := _, op := Op.load 29 (Operand.tmp 6), .. } :: _) _ _; refine wpList_load_rowN (by kernel_rfl) 29 (.tmp 6) rfl gb rfl 29 A2 _ Rb Tryd.underlying29 rfl i2 ?_) | (guard_target =~ wpList _ _ _ ({ dst := _, op := Op.load 29 (Operand.tmp 10), .. } :: _) _ _; refine wpList_load_rowN (by kernel_rfl) 29 (.tmp 10) rfl gd rfl 29 A2 _ Rd Tryd.underlying29 rfl i2 ?_) | (guard_target =~ wpList _ _ _ ({ dst := _, op := Op.binOp BinOp.eql 29 (Operand.tmp 42) _ _, .. } :: _) _ _; refine wpList_eqlZ (by kernel_rfl) 29 29 (.tmp 42) (.tmp 43) rfl (.agg A2) (.agg A2) rfl rfl (.bool true) (guardZ _ _ _ _ _) (HE.out.2 _) ?_) | (guard_target =~ wpList _ _ _ ({ dst := _, op := Op.load 49 (Operand.tmp 3), .. } :: _) _ _; refine wpList_load_rowN (by kernel_rfl) 49 (.tmp 3) rfl gl rfl 49 KL _ RL Tryd.underlying49 rfl iK2 ?_) | (guard_target =~ wpList _ _ _ ({ dst := _, op := Op.load 49 (Operand.tmp 1), .. } :: _) _ _; refine wpList_load_rowN (by kernel_rfl) 49 (.tmp 1) rfl w.heap.size rfl 49 K _ RK Tryd.underlying49 rfl iK ?_) | (go_at_call 17; refine K17.mono ?_; clear K17; rintro e v6 ⟨rfl, tv6⟩; have RL := Row.turn RL tv6 (fun q => q); have K18 := HK18.out v6 tv6) | (go_at_call 18; refine K18.mono ?_; clear K18; rintro e v7 ⟨rfl, tv7⟩) | (go_at_call 11; refine (numZ11 _ _).mono ?_; rintro e w' ⟨rfl, rfl⟩))
  go_ret
  exact ⟨rfl, HT1.out.then_no ((T5.then_no tv6).then_no tv7)⟩
end Go.Proofs.YtgimecdmleofeaaDoor

/- A block, read. -/
namespace Go.Proofs.YtgimecdmleofeaaDoor
open Go.ChangeShapes Go.WideShapes Go.ChangeAt Go.RowKit Go.Joins Go.Deep
set_option linter.unusedVariables false

theorem laidOut : laidOutB Tryd.prog = true := by kernel_rfl
theorem cells3 : Tryd.prog.cellsOf 3 = 1 := by kernel_rfl
theorem cells9 : Tryd.prog.cellsOf 9 = 1 := by kernel_rfl
theorem cells22 : Tryd.prog.cellsOf 22 = 1 := by kernel_rfl
theorem cells23 : Tryd.prog.cellsOf 23 = 1 := by kernel_rfl
theorem cells25 : Tryd.prog.cellsOf 25 = 16 := by kernel_rfl
theorem cells27 : Tryd.prog.cellsOf 27 = 22 := by kernel_rfl
theorem cells29 : Tryd.prog.cellsOf 29 = 32 := by kernel_rfl
theorem cells31 : Tryd.prog.cellsOf 31 = 228 := by kernel_rfl
theorem cells32 : Tryd.prog.cellsOf 32 = 1 := by kernel_rfl
theorem cells34 : Tryd.prog.cellsOf 34 = 35 := by kernel_rfl
theorem cells78 : Tryd.prog.cellsOf 78 = 53 := by kernel_rfl
theorem cells80 : Tryd.prog.cellsOf 80 = 106 := by kernel_rfl
theorem cells46 : Tryd.prog.cellsOf 46 = 1 := by kernel_rfl
theorem cells47 : Tryd.prog.cellsOf 47 = 1 := by kernel_rfl
theorem cells49 : Tryd.prog.cellsOf 49 = 265 := by kernel_rfl
theorem bytes27 : Tryd.prog.bytesOf 27 = 64 := by kernel_rfl
theorem bytes80 : Tryd.prog.bytesOf 80 = 176 := by kernel_rfl
theorem bytes108 : Tryd.prog.bytesOf 108 = 32 := by kernel_rfl
theorem cells108 : Tryd.prog.cellsOf 108 = 18 := by kernel_rfl
theorem add3 (a : Addr) (l j : Nat) : (a.add l).add j = a.add (l + j) := by
  obtain ⟨b, o, s⟩ := a
  unfold Addr.add
  by_cases hl : l = 0
  · subst hl; simp
  · by_cases hj : j = 0
    · subst hj; simp [hl]
    · simp [hl, hj, Nat.add_assoc]
theorem choose_lt0 {α : Type} (x0 : α) {n : Nat} {p : Nat → α → Prop} (h : ∀ i, i < n → ∃ x, p i x) : ∃ f : Nat → α, ∀ i, i < n → p i (f i) :=
  ⟨fun i => if hi : i < n then (h i hi).choose else x0, fun i hi => by simp only [hi, dite_true]; exact (h i hi).choose_spec⟩
theorem one_of {α : Type} {L : List α} (h : L.length = 1) : ∃ v, L = [v] := List.length_eq_one_iff.1 h
theorem four_of {α : Type} {L : List α} (h : L.length = 4) : ∃ a b c d, L = [a, b, c, d] := by
  rcases L with _ | ⟨a, _ | ⟨b, _ | ⟨c, _ | ⟨d, _ | ⟨e, L⟩⟩⟩⟩⟩ <;> first | exact ⟨_, _, _, _, rfl⟩ | (simp at h)
theorem u64_of {n : Int} (h : (Lit.int .u64 n).wf = true) : ∃ a : Nat, n = (a : Int) ∧ a < 18446744073709551616 := by
  simp only [Lit.wf, Bool.and_eq_true, decide_eq_true_eq] at h
  rw [show IntKind.u64.min = 0 by decide, show IntKind.u64.max = 18446744073709551615 by decide] at h
  exact ⟨n.toNat, by omega, by omega⟩
theorem i64_of {n : Int} (h : (Lit.int .i64 n).wf = true) : -9223372036854775808 ≤ n ∧ n < 9223372036854775808 := by
  simp only [Lit.wf, Bool.and_eq_true, decide_eq_true_eq] at h
  rw [show IntKind.i64.min = -9223372036854775808 by decide, show IntKind.i64.max = 9223372036854775807 by decide] at h
  omega

section
variable {H : Type} {enc : TypeId × Value → H} {w : World} {base : Nat} {spare : Nat → Bool} {held : Bool}
def byteOfV : Value → UInt8
  | .int _ k => UInt8.ofNat k.toNat
  | _ => 0
theorem open_arr {n t m : Nat} {L : List Value} {y : DataW H × List MemPlace} (hu : Tryd.prog.underlying t = some (.array m 5)) (hc : Tryd.prog.cellsOf t = m) (h : DataW.trod enc Tryd.prog w base spare held n t L = some y) : ∃ X : List UInt8, X.length = m ∧ L = X.map bv := by
  obtain ⟨xs, m1, _, _, hlen, hn, hel⟩ := DataW.trod_array hu h
  rw [hc] at hlen
  refine ⟨L.map byteOfV, by simpa using hlen, ?_⟩
  apply List.ext_getElem?
  intro j
  by_cases hj : j < m
  · have h0 := hel j hj
    obtain ⟨x, hxj⟩ : ∃ x, xs[j]? = some x := ⟨xs[j]'(by omega), List.getElem?_eq_getElem (by omega)⟩
    rw [hxj, cells5, Nat.mul_one] at h0
    obtain ⟨k, e1, _, wk⟩ := DataW.trod_int Tryd.underlying5 h0
    have hc : L[j]? = some (.int .u8 k) := by
      have := congrArg (·[0]?) e1
      simpa [List.getElem?_take, List.getElem?_drop] using this
    have hb := bounds_u8 wk
    rw [hc]
    simp [hc, byteOfV, bv]
    omega
  · rw [List.getElem?_eq_none (by omega), List.getElem?_eq_none (by simp; omega)]
theorem cut1 {L : List Value} {o : Nat} {v : Value} (h : (L.drop o).take 1 = [v]) : L[o]? = some v := by
  have := congrArg (·[0]?) h
  simpa [List.getElem?_take, List.getElem?_drop] using this
theorem open_tx {n : Nat} {L : List Value} {y : DataW H × List MemPlace} (h : DataW.trod enc Tryd.prog w base spare held n 27 L = some y) : ∃ v : Tx, v.ok ∧ L = v.cs := by
  obtain ⟨xs, m, _, _, hlen, hn, hel⟩ := DataW.trod_struct Tryd.underlying27 h
  rw [cells27] at hlen
  have hx : ∀ i, i < 7 → ∃ x, xs[i]? = some x := fun i hi => ⟨xs[i]'(by rw [hn]; exact hi), List.getElem?_eq_getElem _⟩
  obtain ⟨x0, e0⟩ := hx 0 (by omega)
  obtain ⟨x1, e1⟩ := hx 1 (by omega)
  obtain ⟨x2, e2⟩ := hx 2 (by omega)
  obtain ⟨x3, e3⟩ := hx 3 (by omega)
  obtain ⟨x4, e4⟩ := hx 4 (by omega)
  obtain ⟨x5, e5⟩ := hx 5 (by omega)
  obtain ⟨x6, e6⟩ := hx 6 (by omega)
  have h0 : DataW.trod enc Tryd.prog w base spare held m 3 ((L.drop 0).take (Tryd.prog.cellsOf 3)) = some x0 := (hel 0 _ rfl).trans e0
  rw [cells3] at h0
  have h1 : DataW.trod enc Tryd.prog w base spare held m 23 ((L.drop 1).take (Tryd.prog.cellsOf 23)) = some x1 := (hel 1 _ rfl).trans e1
  rw [cells23] at h1
  have h2 : DataW.trod enc Tryd.prog w base spare held m 23 ((L.drop 2).take (Tryd.prog.cellsOf 23)) = some x2 := (hel 2 _ rfl).trans e2
  rw [cells23] at h2
  have h3 : DataW.trod enc Tryd.prog w base spare held m 22 ((L.drop 3).take (Tryd.prog.cellsOf 22)) = some x3 := (hel 3 _ rfl).trans e3
  rw [cells22] at h3
  have h4 : DataW.trod enc Tryd.prog w base spare held m 22 ((L.drop 4).take (Tryd.prog.cellsOf 22)) = some x4 := (hel 4 _ rfl).trans e4
  rw [cells22] at h4
  have h5 : DataW.trod enc Tryd.prog w base spare held m 22 ((L.drop 5).take (Tryd.prog.cellsOf 22)) = some x5 := (hel 5 _ rfl).trans e5
  rw [cells22] at h5
  have h6 : DataW.trod enc Tryd.prog w base spare held m 25 ((L.drop 6).take (Tryd.prog.cellsOf 25)) = some x6 := (hel 6 _ rfl).trans e6
  rw [cells25] at h6
  obtain ⟨k, c0, _, w0⟩ := DataW.trod_int Tryd.underlying3 h0
  obtain ⟨fr', c1, _, w1⟩ := DataW.trod_int Tryd.underlying23 h1
  have q1 := bounds_u64 w1
  obtain ⟨fr, rfl⟩ : ∃ k : Nat, fr' = (k : Int) := ⟨fr'.toNat, by omega⟩
  obtain ⟨tt', c2, _, w2⟩ := DataW.trod_int Tryd.underlying23 h2
  have q2 := bounds_u64 w2
  obtain ⟨tt, rfl⟩ : ∃ k : Nat, tt' = (k : Int) := ⟨tt'.toNat, by omega⟩
  obtain ⟨am', c3, _, w3⟩ := DataW.trod_int Tryd.underlying22 h3
  have q3 := bounds_u64 w3
  obtain ⟨am, rfl⟩ : ∃ k : Nat, am' = (k : Int) := ⟨am'.toNat, by omega⟩
  obtain ⟨fe', c4, _, w4⟩ := DataW.trod_int Tryd.underlying22 h4
  have q4 := bounds_u64 w4
  obtain ⟨fe, rfl⟩ : ∃ k : Nat, fe' = (k : Int) := ⟨fe'.toNat, by omega⟩
  obtain ⟨nn', c5, _, w5⟩ := DataW.trod_int Tryd.underlying22 h5
  have q5 := bounds_u64 w5
  obtain ⟨nn, rfl⟩ : ∃ k : Nat, nn' = (k : Int) := ⟨nn'.toNat, by omega⟩
  obtain ⟨Y, lY, c6⟩ := open_arr Tryd.underlying25 cells25 h6
  refine ⟨⟨k, fr, tt, am, fe, nn, Y⟩, ⟨lY, by show fr < _; omega, by show tt < _; omega, by show am < _; omega, by show fe < _; omega, by show nn < _; omega⟩, ?_⟩
  have d : ∀ o, L.drop o = (L.drop o).take 1 ++ L.drop (o + 1) := fun o => by
    rw [← List.drop_drop]
    exact (List.take_append_drop 1 (L.drop o)).symm
  have s6 : L.drop 6 = Y.map bv := by
    rw [← c6]
    exact (List.take_of_length_le (by simp; omega)).symm
  have s0 : L = (L.drop 0).take 1 ++ ((L.drop 1).take 1 ++ ((L.drop 2).take 1 ++ ((L.drop 3).take 1 ++ ((L.drop 4).take 1 ++ ((L.drop 5).take 1 ++ L.drop 6))))) := by
    rw [← d 5, ← d 4, ← d 3, ← d 2, ← d 1, ← d 0]
    rfl
  rw [s0, c0, c1, c2, c3, c4, c5, s6]
  simp [Tx.cs]
theorem open_mk {n : Nat} {L : List Value} {y : DataW H × List MemPlace} (h : DataW.trod enc Tryd.prog w base spare held n 108 L = some y) : ∃ m : Mk, L = mkL m ∧ m.ok := by
  obtain ⟨xs, m, _, _, hlen, hn, hel⟩ := DataW.trod_struct Tryd.underlying108 h
  rw [cells108] at hlen
  have hx : ∀ i, i < 3 → ∃ x, xs[i]? = some x := fun i hi => ⟨xs[i]'(by rw [hn]; exact hi), List.getElem?_eq_getElem _⟩
  obtain ⟨x0, e0⟩ := hx 0 (by omega)
  obtain ⟨x1, e1⟩ := hx 1 (by omega)
  obtain ⟨x2, e2⟩ := hx 2 (by omega)
  have h0 : DataW.trod enc Tryd.prog w base spare held m 3 ((L.drop 0).take (Tryd.prog.cellsOf 3)) = some x0 := (hel 0 _ rfl).trans e0
  have h1 : DataW.trod enc Tryd.prog w base spare held m 22 ((L.drop 1).take (Tryd.prog.cellsOf 22)) = some x1 := (hel 1 _ rfl).trans e1
  have h2 : DataW.trod enc Tryd.prog w base spare held m 25 ((L.drop 2).take (Tryd.prog.cellsOf 25)) = some x2 := (hel 2 _ rfl).trans e2
  rw [cells3] at h0
  rw [cells22] at h1
  rw [cells25] at h2
  obtain ⟨k0, c0, _, w0⟩ := DataW.trod_int Tryd.underlying3 h0
  obtain ⟨k1, c1, _, w1⟩ := DataW.trod_int Tryd.underlying22 h1
  obtain ⟨X, hX, eX⟩ := open_arr Tryd.underlying25 cells25 h2
  obtain ⟨a, rfl, ha⟩ := u64_of w1
  refine ⟨⟨k0, a, X⟩, ?_, i64_of w0, ha, hX⟩
  have d : ∀ o, L.drop o = (L.drop o).take 1 ++ L.drop (o + 1) := fun o => by
    rw [← List.drop_drop]
    exact (List.take_append_drop 1 (L.drop o)).symm
  have s2 : L.drop 2 = X.map bv := by
    rw [← eX]
    exact (List.take_of_length_le (by simp; omega)).symm
  have s0 : L = (L.drop 0).take 1 ++ ((L.drop 1).take 1 ++ L.drop 2) := by
    rw [← d 1, ← d 0]
    rfl
  rw [s0, c0, c1, s2]
  rfl
theorem open_hd {n : Nat} {L : List Value} {y : DataW H × List MemPlace} (h : DataW.trod enc Tryd.prog w base spare held n 31 L = some y) : ∃ x : Hd, x.ok ∧ L = x.cs := by
  obtain ⟨xs, m, _, _, hlen, hn, hel⟩ := DataW.trod_struct Tryd.underlying31 h
  rw [cells31] at hlen
  have hx : ∀ i, i < 11 → ∃ x, xs[i]? = some x := fun i hi => ⟨xs[i]'(by rw [hn]; exact hi), List.getElem?_eq_getElem _⟩
  obtain ⟨x0, e0⟩ := hx 0 (by omega)
  obtain ⟨x1, e1⟩ := hx 1 (by omega)
  obtain ⟨x2, e2⟩ := hx 2 (by omega)
  obtain ⟨x3, e3⟩ := hx 3 (by omega)
  obtain ⟨x4, e4⟩ := hx 4 (by omega)
  obtain ⟨x5, e5⟩ := hx 5 (by omega)
  obtain ⟨x6, e6⟩ := hx 6 (by omega)
  obtain ⟨x7, e7⟩ := hx 7 (by omega)
  obtain ⟨x8, e8⟩ := hx 8 (by omega)
  obtain ⟨x9, e9⟩ := hx 9 (by omega)
  obtain ⟨x10, e10⟩ := hx 10 (by omega)
  have h0 : DataW.trod enc Tryd.prog w base spare held m 9 ((L.drop 0).take (Tryd.prog.cellsOf 9)) = some x0 := (hel 0 _ rfl).trans e0
  rw [cells9] at h0
  have h1 : DataW.trod enc Tryd.prog w base spare held m 22 ((L.drop 1).take (Tryd.prog.cellsOf 22)) = some x1 := (hel 1 _ rfl).trans e1
  rw [cells22] at h1
  have h2 : DataW.trod enc Tryd.prog w base spare held m 22 ((L.drop 2).take (Tryd.prog.cellsOf 22)) = some x2 := (hel 2 _ rfl).trans e2
  rw [cells22] at h2
  have h3 : DataW.trod enc Tryd.prog w base spare held m 29 ((L.drop 3).take (Tryd.prog.cellsOf 29)) = some x3 := (hel 3 _ rfl).trans e3
  rw [cells29] at h3
  have h4 : DataW.trod enc Tryd.prog w base spare held m 29 ((L.drop 35).take (Tryd.prog.cellsOf 29)) = some x4 := (hel 4 _ rfl).trans e4
  rw [cells29] at h4
  have h5 : DataW.trod enc Tryd.prog w base spare held m 29 ((L.drop 67).take (Tryd.prog.cellsOf 29)) = some x5 := (hel 5 _ rfl).trans e5
  rw [cells29] at h5
  have h6 : DataW.trod enc Tryd.prog w base spare held m 29 ((L.drop 99).take (Tryd.prog.cellsOf 29)) = some x6 := (hel 6 _ rfl).trans e6
  rw [cells29] at h6
  have h7 : DataW.trod enc Tryd.prog w base spare held m 29 ((L.drop 131).take (Tryd.prog.cellsOf 29)) = some x7 := (hel 7 _ rfl).trans e7
  rw [cells29] at h7
  have h8 : DataW.trod enc Tryd.prog w base spare held m 29 ((L.drop 163).take (Tryd.prog.cellsOf 29)) = some x8 := (hel 8 _ rfl).trans e8
  rw [cells29] at h8
  have h9 : DataW.trod enc Tryd.prog w base spare held m 29 ((L.drop 195).take (Tryd.prog.cellsOf 29)) = some x9 := (hel 9 _ rfl).trans e9
  rw [cells29] at h9
  have h10 : DataW.trod enc Tryd.prog w base spare held m 23 ((L.drop 227).take (Tryd.prog.cellsOf 23)) = some x10 := (hel 10 _ rfl).trans e10
  rw [cells23] at h10
  obtain ⟨ch, c0, _⟩ := DataW.trod_string Tryd.underlying9 h0
  obtain ⟨k1, c1, _, w1⟩ := DataW.trod_int Tryd.underlying22 h1
  obtain ⟨k2, c2, _, w2⟩ := DataW.trod_int Tryd.underlying22 h2
  obtain ⟨k10, c10, _, w10⟩ := DataW.trod_int Tryd.underlying23 h10
  obtain ⟨a, rfl, ha⟩ := u64_of w1
  obtain ⟨b, rfl, hb⟩ := u64_of w2
  obtain ⟨c, rfl, hc⟩ := u64_of w10
  obtain ⟨A0, l0, q0⟩ := open_arr Tryd.underlying29 cells29 h3
  obtain ⟨A1, l1, q1⟩ := open_arr Tryd.underlying29 cells29 h4
  obtain ⟨A2, l2, q2⟩ := open_arr Tryd.underlying29 cells29 h5
  obtain ⟨A3, l3, q3⟩ := open_arr Tryd.underlying29 cells29 h6
  obtain ⟨A4, l4, q4⟩ := open_arr Tryd.underlying29 cells29 h7
  obtain ⟨A5, l5, q5⟩ := open_arr Tryd.underlying29 cells29 h8
  obtain ⟨A6, l6, q6⟩ := open_arr Tryd.underlying29 cells29 h9
  refine ⟨⟨ch, a, b, A0, A1, A2, A3, A4, A5, A6, c⟩, ⟨ha, hb, hc, Nat.zero_le _, l0, l1, l2, l3, l4, l5, l6⟩, ?_⟩
  have d : ∀ o, L.drop o = (L.drop o).take 1 ++ L.drop (o + 1) := fun o => by
    rw [← List.drop_drop]
    exact (List.take_append_drop 1 (L.drop o)).symm
  have d32 : ∀ o, L.drop o = (L.drop o).take 32 ++ L.drop (o + 32) := fun o => by
    rw [← List.drop_drop]
    exact (List.take_append_drop 32 (L.drop o)).symm
  have s227 : L.drop 227 = [.int .u64 c] := by
    rw [← c10]
    exact (List.take_of_length_le (by simp; omega)).symm
  have s195 : L.drop 195 = A6.map bv ++ L.drop 227 := by rw [d32 195, q6]
  have s163 : L.drop 163 = A5.map bv ++ L.drop 195 := by rw [d32 163, q5]
  have s131 : L.drop 131 = A4.map bv ++ L.drop 163 := by rw [d32 131, q4]
  have s99 : L.drop 99 = A3.map bv ++ L.drop 131 := by rw [d32 99, q3]
  have s67 : L.drop 67 = A2.map bv ++ L.drop 99 := by rw [d32 67, q2]
  have s35 : L.drop 35 = A1.map bv ++ L.drop 67 := by rw [d32 35, q1]
  have s3 : L.drop 3 = A0.map bv ++ L.drop 35 := by rw [d32 3, q0]
  have s0 : L = (L.drop 0).take 1 ++ ((L.drop 1).take 1 ++ ((L.drop 2).take 1 ++ L.drop 3)) := by
    rw [← d 2, ← d 1, ← d 0]
    rfl
  rw [s0, c0, c1, c2, s3, s35, s67, s99, s131, s163, s195, s227]
  simp [Hd.cs]
theorem open_vo {n : Nat} {L : List Value} {y : DataW H × List MemPlace} (h : DataW.trod enc Tryd.prog w base spare held n 78 L = some y) : ∃ v : Vt, v.fits ∧ L = v.cs := by
  obtain ⟨xs, m, _, _, hlen, hn, hel⟩ := DataW.trod_struct Tryd.underlying78 h
  rw [cells78] at hlen
  have hx : ∀ i, i < 7 → ∃ x, xs[i]? = some x := fun i hi => ⟨xs[i]'(by rw [hn]; exact hi), List.getElem?_eq_getElem _⟩
  obtain ⟨x0, e0⟩ := hx 0 (by omega)
  obtain ⟨x1, e1⟩ := hx 1 (by omega)
  obtain ⟨x2, e2⟩ := hx 2 (by omega)
  obtain ⟨x3, e3⟩ := hx 3 (by omega)
  obtain ⟨x4, e4⟩ := hx 4 (by omega)
  obtain ⟨x5, e5⟩ := hx 5 (by omega)
  obtain ⟨x6, e6⟩ := hx 6 (by omega)
  have h0 : DataW.trod enc Tryd.prog w base spare held m 3 ((L.drop 0).take (Tryd.prog.cellsOf 3)) = some x0 := (hel 0 _ rfl).trans e0
  rw [cells3] at h0
  have h1 : DataW.trod enc Tryd.prog w base spare held m 22 ((L.drop 1).take (Tryd.prog.cellsOf 22)) = some x1 := (hel 1 _ rfl).trans e1
  rw [cells22] at h1
  have h2 : DataW.trod enc Tryd.prog w base spare held m 3 ((L.drop 2).take (Tryd.prog.cellsOf 3)) = some x2 := (hel 2 _ rfl).trans e2
  rw [cells3] at h2
  have h3 : DataW.trod enc Tryd.prog w base spare held m 29 ((L.drop 3).take (Tryd.prog.cellsOf 29)) = some x3 := (hel 3 _ rfl).trans e3
  rw [cells29] at h3
  have h4 : DataW.trod enc Tryd.prog w base spare held m 22 ((L.drop 35).take (Tryd.prog.cellsOf 22)) = some x4 := (hel 4 _ rfl).trans e4
  rw [cells22] at h4
  have h5 : DataW.trod enc Tryd.prog w base spare held m 23 ((L.drop 36).take (Tryd.prog.cellsOf 23)) = some x5 := (hel 5 _ rfl).trans e5
  rw [cells23] at h5
  have h6 : DataW.trod enc Tryd.prog w base spare held m 25 ((L.drop 37).take (Tryd.prog.cellsOf 25)) = some x6 := (hel 6 _ rfl).trans e6
  rw [cells25] at h6
  obtain ⟨k, c0, _, w0⟩ := DataW.trod_int Tryd.underlying3 h0
  obtain ⟨hh, c1, _, w1⟩ := DataW.trod_int Tryd.underlying22 h1
  have q1 := bounds_u64 w1
  obtain ⟨r, c2, _, w2⟩ := DataW.trod_int Tryd.underlying3 h2
  obtain ⟨X, lX, c3⟩ := open_arr Tryd.underlying29 cells29 h3
  obtain ⟨t, c4, _, w4⟩ := DataW.trod_int Tryd.underlying22 h4
  have q4 := bounds_u64 w4
  obtain ⟨f, c5, _, w5⟩ := DataW.trod_int Tryd.underlying23 h5
  have q5 := bounds_u64 w5
  obtain ⟨Y, lY, c6⟩ := open_arr Tryd.underlying25 cells25 h6
  refine ⟨⟨k, hh, r, X, t, f, Y⟩, ⟨⟨lX, lY⟩, ⟨by show 0 ≤ hh; omega, by show hh < _; omega⟩, ⟨by show 0 ≤ t; omega, by show t < _; omega⟩, ⟨by show 0 ≤ f; omega, by show f < _; omega⟩⟩, ?_⟩
  have d : ∀ o, L.drop o = (L.drop o).take 1 ++ L.drop (o + 1) := fun o => by
    rw [← List.drop_drop]
    exact (List.take_append_drop 1 (L.drop o)).symm
  have s3 : L.drop 3 = X.map bv ++ L.drop 35 := by
    rw [← c3, show (35 : Nat) = 3 + 32 from rfl, ← List.drop_drop]
    exact (List.take_append_drop 32 (L.drop 3)).symm
  have s37 : L.drop 37 = Y.map bv := by
    rw [← c6]
    exact (List.take_of_length_le (by simp; omega)).symm
  have s0 : L = (L.drop 0).take 1 ++ ((L.drop 1).take 1 ++ ((L.drop 2).take 1 ++ L.drop 3)) := by
    rw [← d 2, ← d 1, ← d 0]
    rfl
  have s35 : L.drop 35 = (L.drop 35).take 1 ++ ((L.drop 36).take 1 ++ L.drop 37) := by
    rw [← d 36, ← d 35]
  rw [s0, c0, c1, c2, s3, s35, c4, c5, s37]
  simp [Vt.cs]
theorem open_ev {n : Nat} {L : List Value} {y : DataW H × List MemPlace} (h : DataW.trod enc Tryd.prog w base spare held n 80 L = some y) : ∃ v : Ev, v.fits ∧ L = v.cs := by
  obtain ⟨xs, m, _, _, hlen, hn, hel⟩ := DataW.trod_struct Tryd.underlying80 h
  rw [cells80] at hlen
  have hx : ∀ i, i < 2 → ∃ x, xs[i]? = some x := fun i hi => ⟨xs[i]'(by rw [hn]; exact hi), List.getElem?_eq_getElem _⟩
  obtain ⟨x0, e0⟩ := hx 0 (by omega)
  obtain ⟨x1, e1⟩ := hx 1 (by omega)
  have h0 : DataW.trod enc Tryd.prog w base spare held m 78 ((L.drop 0).take (Tryd.prog.cellsOf 78)) = some x0 := (hel 0 _ rfl).trans e0
  have h1 : DataW.trod enc Tryd.prog w base spare held m 78 ((L.drop 53).take (Tryd.prog.cellsOf 78)) = some x1 := (hel 1 _ rfl).trans e1
  rw [cells78] at h0 h1
  obtain ⟨a, fa, ca⟩ := open_vo h0
  obtain ⟨b, fb, cb⟩ := open_vo h1
  refine ⟨⟨a, b⟩, ⟨fa, fb⟩, ?_⟩
  show L = a.cs ++ b.cs
  rw [← ca, ← cb, List.drop_zero, List.take_of_length_le (l := L.drop 53) (by simp; omega)]
  exact (List.take_append_drop 53 L).symm
/-- A list of things, read. -/
theorem open_list {α : Type} (mk : α → El) (ok : α → Prop) (x0 : α) {t e sz : Nat} (hu : Tryd.prog.underlying t = some (.slice e)) (hc : Tryd.prog.cellsOf e = sz) (hsz : 0 < sz)
    (hE : ∀ {n : Nat} {L : List Value} {y : DataW H × List MemPlace}, DataW.trod enc Tryd.prog w base spare held n e L = some y → ∃ x : α, ok x ∧ L = (mk x).cs)
    (hlen : ∀ x, ok x → (mk x).cs.length = sz) (hone : ∀ x, ∀ u ∈ (mk x).cs, u.oneCell' = true)
    {n : Nat} {v : Value} {y : DataW H × List MemPlace} (h : DataW.trod enc Tryd.prog w base spare held n t [v] = some y) :
    ∃ (l : List α) (a : Option Addr) (cap : Nat), (∀ x ∈ l, ok x) ∧ v = .slice a l.length cap ∧ TsAt w sz a cap (l.map mk) ∧ (l = [] ∨ ∃ es sp, y.1 = .slice es sp ∧ l.length ≤ es.length) := by
  rcases open_slice hu h with ⟨hcs, _⟩ | ⟨a, len, cap, m, n', D, Pl, hcs, _, hl, hm, hmm, hx, hel⟩
  · simp at hcs
    exact ⟨[], none, 0, (fun m hm => (by cases hm)), hcs, ⟨by simp, by simp [maxLen], (fun x hx => (by cases hx)), (fun x hx => (by cases hx)), fun j x hj => (by simp at hj)⟩, .inl rfl⟩
  · simp at hcs
    have hlm : len ≤ m := by rw [hmm]; split <;> omega
    have hspot : 0 < len → ∃ b off, a = ⟨b, off, none⟩ := fun h0 => by
      obtain ⟨cs', h1, h2⟩ := hel 0 (by omega)
      rw [hc] at h1
      obtain ⟨_, hl', hc'⟩ := World.cells?_some h1
      obtain ⟨b, off, spot⟩ := a
      have hc0 := World.cell?_spot ((hc' 0 hsz).trans (List.getElem?_eq_getElem (by omega)))
      have hs : spot = none := by simpa [Addr.add] using hc0
      subst hs
      exact ⟨b, off, rfl⟩
    have hex : ∀ i, i < len → ∃ x : α, ok x ∧ ∃ b off, a = ⟨b, off, none⟩ ∧ ∀ k u, (mk x).cs[k]? = some u → w.cell? ⟨b, off + i * sz + k, none⟩ = some u := by
      intro i hi
      obtain ⟨cs', h1, h2⟩ := hel i (by omega)
      rw [hc] at h1
      obtain ⟨x, hok, rfl⟩ := hE h2
      obtain ⟨_, hl', hc'⟩ := World.cells?_some h1
      obtain ⟨b, off, rfl⟩ := hspot (by omega)
      refine ⟨x, hok, b, off, rfl, fun k u hu => ?_⟩
      have hk : k < sz := by have := (List.getElem?_eq_some_iff.1 hu).1; rwa [hlen x hok] at this
      have := hc' k hk
      rw [add3, Addr.add_lit, hu] at this
      simpa [Nat.add_assoc] using this
    obtain ⟨f, hf⟩ := choose_lt0 x0 hex
    have hok : ∀ x ∈ (List.range len).map f, ok x := fun x hx => by
      obtain ⟨i, hi, rfl⟩ := List.mem_map.1 hx
      exact (hf i (by simpa using hi)).1
    refine ⟨(List.range len).map f, some a, cap, hok, by rw [hcs]; simp, ⟨by simpa using hl, hm, fun x hx => ?_, fun x hx => ?_, fun j g hg => ?_⟩, .inr ⟨_, _, by rw [hx], by simp⟩⟩
    · obtain ⟨z, hz, rfl⟩ := List.mem_map.1 hx
      exact hlen z (hok z hz)
    · obtain ⟨z, _, rfl⟩ := List.mem_map.1 hx
      exact hone z
    · rw [List.map_map, List.getElem?_map] at hg
      by_cases hj : j < len
      · rw [List.getElem?_range hj] at hg
        simp at hg
        rw [← hg]
        obtain ⟨_, b, off, rfl, r⟩ := hf j hj
        exact ⟨b, off, rfl, fun i u hu => r i u hu⟩
      · rw [List.getElem?_eq_none (by simpa using hj)] at hg
        cases hg
theorem Tx.oneL (x : Tx) : ∀ u ∈ x.cs, u.oneCell' = true := by
  intro u hu
  simp only [Tx.cs, List.mem_cons, List.mem_map] at hu
  rcases hu with rfl | rfl | rfl | rfl | rfl | rfl | ⟨b, _, rfl⟩ <;> rfl
theorem Hd.oneL (x : Hd) : ∀ u ∈ x.cs, u.oneCell' = true := by
  intro u hu
  simp only [Hd.cs, List.mem_cons, List.mem_append, List.mem_map, List.not_mem_nil, or_false] at hu
  rcases hu with rfl | rfl | rfl | ⟨b, _, rfl⟩ | ⟨b, _, rfl⟩ | ⟨b, _, rfl⟩ | ⟨b, _, rfl⟩ | ⟨b, _, rfl⟩ | ⟨b, _, rfl⟩ | ⟨b, _, rfl⟩ | rfl <;> rfl
/-- A certificate. -/
theorem open_ctz {n : Nat} {L : List Value} {y : DataW H × List MemPlace} (h : DataW.trod enc Tryd.prog w base spare held n 34 L = some y) : ∃ (hh : Nat) (r : Int) (id : List UInt8) (l : List Mk) (a : Option Addr) (cap : Nat), id.length = 32 ∧ (∀ x ∈ l, x.ok) ∧ L = ctL hh r id (.slice a l.length cap) ∧ TsAt w 18 a cap (l.map elM) ∧ (l = [] ∨ ∃ x0 x1 x2 es sp, y.1 = .agg [x0, x1, x2, .slice es sp] ∧ l.length ≤ es.length) := by
  obtain ⟨xs, m, hm, hy, hlen, hn, hel⟩ := DataW.trod_struct Tryd.underlying34 h
  rw [cells34] at hlen
  have hn4 : xs.length = 4 := hn
  obtain ⟨x0, x1, x2, x3, rfl⟩ := four_of hn4
  have h0 : DataW.trod enc Tryd.prog w base spare held m 22 ((L.drop 0).take (Tryd.prog.cellsOf 22)) = some x0 := (hel 0 _ rfl).trans rfl
  have h1 : DataW.trod enc Tryd.prog w base spare held m 3 ((L.drop 1).take (Tryd.prog.cellsOf 3)) = some x1 := (hel 1 _ rfl).trans rfl
  have h2 : DataW.trod enc Tryd.prog w base spare held m 29 ((L.drop 2).take (Tryd.prog.cellsOf 29)) = some x2 := (hel 2 _ rfl).trans rfl
  have h3 : DataW.trod enc Tryd.prog w base spare held m 32 ((L.drop 34).take (Tryd.prog.cellsOf 32)) = some x3 := (hel 3 _ rfl).trans rfl
  rw [cells22] at h0
  rw [cells3] at h1
  rw [cells29] at h2
  rw [cells32] at h3
  obtain ⟨k0, c0, _, w0⟩ := DataW.trod_int Tryd.underlying22 h0
  obtain ⟨k1, c1, _, _⟩ := DataW.trod_int Tryd.underlying3 h1
  obtain ⟨X, hX, eX⟩ := open_arr Tryd.underlying29 cells29 h2
  obtain ⟨a, rfl, ha⟩ := u64_of w0
  obtain ⟨v, ev⟩ := one_of (show ((L.drop 34).take 1).length = 1 by simp; omega)
  rw [ev] at h3
  obtain ⟨l, b, cap, hok, rfl, hT, q⟩ := open_list elM Mk.ok mk0 Tryd.underlying32 cells108 (by decide) (fun h => by obtain ⟨m, e, o⟩ := open_mk h; exact ⟨m, o, e⟩) (fun x h => mkL_len h) (fun x => mkL_one x) (v := v) h3
  refine ⟨a, k1, X, l, b, cap, hX, hok, ?_, hT, ?_⟩
  · have d : ∀ o, L.drop o = (L.drop o).take 1 ++ L.drop (o + 1) := fun o => by
      rw [← List.drop_drop]
      exact (List.take_append_drop 1 (L.drop o)).symm
    have s2 : L.drop 2 = X.map bv ++ L.drop 34 := by
      rw [← eX, show (34 : Nat) = 2 + 32 from rfl, ← List.drop_drop]
      exact (List.take_append_drop 32 (L.drop 2)).symm
    have s34 : L.drop 34 = [.slice b l.length cap] := by
      rw [← ev]
      exact (List.take_of_length_le (by simp; omega)).symm
    have s0 : L = (L.drop 0).take 1 ++ ((L.drop 1).take 1 ++ L.drop 2) := by
      rw [← d 1, ← d 0]
      rfl
    rw [s0, c0, c1, s2, s34]
    rfl
  · rcases q with q | ⟨es, sp, q, r⟩
    · exact .inl q
    · refine .inr ⟨x0.1, x1.1, x2.1, es, sp, ?_, r⟩
      rw [hy]
      simp [q]
/-- A block. -/
theorem open_bk {n : Nat} {L : List Value} {y : DataW H × List MemPlace} (h : DataW.trod enc Tryd.prog w base spare held n 49 L = some y) : ∃ (x : Hd) (ts : List Tx) (a1 : Option Addr) (c1 : Nat) (es : List Ev) (a2 : Option Addr) (c2 : Nat) (hh : Nat) (r : Int) (id : List UInt8) (ms : List Mk) (a3 : Option Addr) (c3 : Nat),
    x.ok ∧ (∀ z ∈ ts, z.ok) ∧ (∀ z ∈ es, z.fits) ∧ (∀ z ∈ ms, z.ok) ∧ id.length = 32 ∧ L = bkL x.cs (.slice a1 ts.length c1) (.slice a2 es.length c2) (ctL hh r id (.slice a3 ms.length c3)) ∧
    TsAt w 22 a1 c1 (ts.map elT) ∧ TsAt w 106 a2 c2 (es.map elV) ∧ TsAt w 18 a3 c3 (ms.map elM) ∧
    ∃ d0 d1 d2 d3, y.1 = .agg [d0, d1, d2, d3] ∧ (ts = [] ∨ ∃ es sp, d1 = .slice es sp ∧ ts.length ≤ es.length) ∧ (es = [] ∨ ∃ es' sp, d2 = .slice es' sp ∧ es.length ≤ es'.length) ∧ (ms = [] ∨ ∃ x0 x1 x2 es sp, d3 = .agg [x0, x1, x2, .slice es sp] ∧ ms.length ≤ es.length) := by
  obtain ⟨xs, m, hm, hy, hlen, hn, hel⟩ := DataW.trod_struct Tryd.underlying49 h
  rw [cells49] at hlen
  have hn4 : xs.length = 4 := hn
  obtain ⟨x0, x1, x2, x3, rfl⟩ := four_of hn4
  have h0 : DataW.trod enc Tryd.prog w base spare held m 31 ((L.drop 0).take (Tryd.prog.cellsOf 31)) = some x0 := (hel 0 _ rfl).trans rfl
  have h1 : DataW.trod enc Tryd.prog w base spare held m 46 ((L.drop 228).take (Tryd.prog.cellsOf 46)) = some x1 := (hel 1 _ rfl).trans rfl
  have h2 : DataW.trod enc Tryd.prog w base spare held m 47 ((L.drop 229).take (Tryd.prog.cellsOf 47)) = some x2 := (hel 2 _ rfl).trans rfl
  have h3 : DataW.trod enc Tryd.prog w base spare held m 34 ((L.drop 230).take (Tryd.prog.cellsOf 34)) = some x3 := (hel 3 _ rfl).trans rfl
  rw [cells31] at h0
  rw [cells46] at h1
  rw [cells47] at h2
  rw [cells34] at h3
  obtain ⟨x, hx, ex⟩ := open_hd h0
  obtain ⟨v1, ev1⟩ := one_of (show ((L.drop 228).take 1).length = 1 by simp; omega)
  obtain ⟨v2, ev2⟩ := one_of (show ((L.drop 229).take 1).length = 1 by simp; omega)
  rw [ev1] at h1
  rw [ev2] at h2
  obtain ⟨ts, a1, c1, o1, rfl, T1, q1⟩ := open_list elT Tx.ok tx0 Tryd.underlying46 cells27 (by decide) open_tx (fun x h => x.len h) (fun x => x.oneL) (v := v1) h1
  obtain ⟨es, a2, c2, o2, rfl, T2, q2⟩ := open_list elV Ev.fits ev0 Tryd.underlying47 cells80 (by decide) open_ev (fun x h => x.len h) (fun x => x.one) (v := v2) h2
  obtain ⟨hh, r, id, ms, a3, c3, hid, o3, e3, T3, q3⟩ := open_ctz h3
  refine ⟨x, ts, a1, c1, es, a2, c2, hh, r, id, ms, a3, c3, hx, o1, o2, o3, hid, ?_, T1, T2, T3, x0.1, x1.1, x2.1, x3.1, by rw [hy]; rfl, q1, q2, q3⟩
  have s230 : L.drop 230 = ctL hh r id (.slice a3 ms.length c3) := by
    rw [← e3]
    exact (List.take_of_length_le (by simp; omega)).symm
  have s229 : L.drop 229 = .slice a2 es.length c2 :: L.drop 230 := by
    rw [show (230 : Nat) = 229 + 1 from rfl, ← List.drop_drop, ← List.singleton_append, ← ev2]
    exact (List.take_append_drop 1 (L.drop 229)).symm
  have s228 : L.drop 228 = .slice a1 ts.length c1 :: L.drop 229 := by
    rw [show (229 : Nat) = 228 + 1 from rfl, ← List.drop_drop, ← List.singleton_append, ← ev1]
    exact (List.take_append_drop 1 (L.drop 228)).symm
  have s0 : L = x.cs ++ L.drop 228 := by
    rw [← ex, List.drop_zero]
    exact (List.take_append_drop 228 L).symm
  rw [s0, s228, s229, s230]
  rfl
end
theorem bk_sized {H : Type} {ts : List TypeId} {ds : List (DataW H)} (hsz : (DataW.weightsEach Tryd.prog ts ds).all (· ≤ reachBytes) = true) {j : Nat} {d0 d1 d2 d3 : DataW H} (ht : ts[j]? = some 49) (hd : ds[j]? = some (.agg [d0, d1, d2, d3])) {n1 n2 n3 : Nat}
    (h1 : n1 = 0 ∨ ∃ es sp, d1 = .slice es sp ∧ n1 ≤ es.length) (h2 : n2 = 0 ∨ ∃ es sp, d2 = .slice es sp ∧ n2 ≤ es.length) (h3 : n3 = 0 ∨ ∃ x0 x1 x2 es sp, d3 = .agg [x0, x1, x2, .slice es sp] ∧ n3 ≤ es.length) :
    n1 * 64 ≤ 140737488351232 ∧ n2 * 176 ≤ 140737488351232 ∧ n3 * 32 ≤ 140737488351232 := by
  refine ⟨?_, ?_, ?_⟩
  · rcases h1 with rfl | ⟨es, sp, rfl, hl⟩
    · simp
    · have := List.all_eq_true.1 hsz _ (DataW.weights_mem_each ht hd ((es.length + sp.length) * Tryd.prog.bytesOf 27) (by simp [DataW.weights, Tryd.underlying49, DataW.weightsEach, Tryd.underlying46]))
      rw [bytes27] at this
      have h2 : (es.length + sp.length) * 64 ≤ 140737488351232 := by
        have := of_decide_eq_true this
        exact this
      omega
  · rcases h2 with rfl | ⟨es, sp, rfl, hl⟩
    · simp
    · have := List.all_eq_true.1 hsz _ (DataW.weights_mem_each ht hd ((es.length + sp.length) * Tryd.prog.bytesOf 80) (by simp [DataW.weights, Tryd.underlying49, DataW.weightsEach, Tryd.underlying47]))
      rw [bytes80] at this
      have h2 : (es.length + sp.length) * 176 ≤ 140737488351232 := by
        have := of_decide_eq_true this
        exact this
      omega
  · rcases h3 with rfl | ⟨x0, x1, x2, es, sp, rfl, hl⟩
    · simp
    · have := List.all_eq_true.1 hsz _ (DataW.weights_mem_each ht hd ((es.length + sp.length) * Tryd.prog.bytesOf 108) (by simp [DataW.weights, Tryd.underlying49, DataW.weightsEach, Tryd.underlying34, Tryd.underlying32]))
      rw [bytes108] at this
      have h2 : (es.length + sp.length) * 32 ≤ 140737488351232 := by
        have := of_decide_eq_true this
        exact this
      omega
end Go.Proofs.YtgimecdmleofeaaDoor
