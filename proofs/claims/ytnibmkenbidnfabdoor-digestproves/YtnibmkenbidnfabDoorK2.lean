/- halves. -/
import Derived.Test.YtnibmkenbidnfabDoorK1
namespace Go.Proofs.YtnibmkenbidnfabDoor
open Go.RowKit
set_option linter.unusedVariables false

theorem txs_take (l : Its) (k : Nat) : txs (l.take k) = (txs l).take k := by simp [txs, List.map_take]
theorem txs_drop (l : Its) (k : Nat) : txs (l.drop k) = (txs l).drop k := by simp [txs, List.map_drop]
theorem okL.take {l : Its} (h : okL l) (k : Nat) : okL (l.take k) := ⟨by have := h.1; simp; omega, fun x hx => h.2 x (List.mem_of_mem_take hx)⟩
theorem okL.drop {l : Its} (h : okL l) (k : Nat) : okL (l.drop k) := ⟨by have := h.1; simp; omega, fun x hx => h.2 x (List.mem_of_mem_drop hx)⟩
theorem top_split (l : Its) (h : 2 ≤ l.length) : topH (txs l) = hashOf (1 :: (topH (txs (l.take (splitN l.length))) ++ topH (txs (l.drop (splitN l.length))))) := by
  have := topH_more (txs l) (by rw [txs_len]; exact h)
  rw [this, txs_len, txs_take, txs_drop]
theorem app32 {A B C D : List UInt8} (ha : A.length = C.length) (h : A ++ B = C ++ D) : A = C ∧ B = D := List.append_inj h ha
theorem clB_inner {L R X Y : List UInt8} (h1 : L.length = X.length) (hne : ¬ (L = X ∧ R = Y)) (h : hashOf (1 :: (L ++ R)) = hashOf (1 :: (X ++ Y))) : clB (1 :: (L ++ R)) (1 :: (X ++ Y)) = true := by
  unfold clB
  have e : ((1 :: (L ++ R)) == (1 :: (X ++ Y))) = false := by
    rw [beq_eq_false_iff_ne]
    intro q
    simp only [List.cons.injEq, true_and] at q
    exact hne (app32 h1 q)
  rw [e, h]
  simp
theorem clB_leaf {x y : List UInt8} (hne : ¬ x = y) (h : hashOf (0 :: x) = hashOf (0 :: y)) : clB (0 :: x) (0 :: y) = true := by
  unfold clB
  have e : ((0 :: x) == (0 :: y)) = false := by
    rw [beq_eq_false_iff_ne]
    intro q
    simp only [List.cons.injEq, true_and] at q
    exact hne q
  rw [e, h]
  simp
/-- The same, or two unlike texts with one digest. -/
def Sc (w : World) (e : Ending) (w' : World) : Prop := ∃ s c : Bool, e = .returned (.tuple #[.bool s, .bool c]) ∧ (s || c) = true ∧ Turn no w w'
theorem Sc.mk {w w' : World} {e : Ending} (s c : Bool) (h : e = .returned (.tuple #[.bool s, .bool c])) (h2 : (s || c) = true) (t : Turn no w w') : Sc w e w' := ⟨s, c, h, h2, t⟩
theorem halves_none (w : World) (a b : Option Addr) (ca cb : Nat) : Calls Tryd.prog 27 #[.slice a 0 ca, .slice b 0 cb] w fun e w' => Sc w e w' := by
  go_enter Tryd.func27, Tryd.ntmps27
  go_wp2_with fail
  go_ret2
  exact Sc.mk true false rfl rfl (Turn.refl _ _)
set_option maxRecDepth 100000 in
set_option maxHeartbeats 8000000 in
theorem halves_one (w : World) (v u : Value) (x y : List UInt8) (b o ca b' o' cb : Nat) (c0 : w.cell? ⟨b, o, none⟩ = some v) (d0 : w.cell? ⟨b', o', none⟩ = some u) (hv1 : Bs w v x) (hu1 : Bs w u y) (hx : x.length ≤ 1048576) (hy : y.length ≤ 1048576) (ht : hashOf (0 :: x) = hashOf (0 :: y)) (hl : Laid0 w) (h2 : 2 ≤ w.heap.size) :
    Calls Tryd.prog 27 #[.slice (some ⟨b, o, none⟩) 1 ca, .slice (some ⟨b', o', none⟩) 1 cb] w fun e w' => Sc w e w' := by
  have HC : Shut (∀ W, Turn no w W → W.cell? ⟨b, o, none⟩ = some v ∧ W.cell? ⟨b', o', none⟩ = some u) := fun W T => ⟨T.keep c0 (fun q => q), T.keep d0 (fun q => q)⟩
  have HT : Shut (∀ W, Turn no w W → (convert 35 9 v).run Tryd.prog W = .ok (.string ⟨x.toArray⟩) W ∧ (convert 35 9 u).run Tryd.prog W = .ok (.string ⟨y.toArray⟩) W) := fun W T => ⟨bytes_text (hv1.turn_no T), bytes_text (hu1.turn_no T)⟩
  have hq : Shut (((⟨x.toArray⟩ : ByteArray).toList == (⟨y.toArray⟩ : ByteArray).toList) = (x == y)) := by show _ = _; rw [text_list, text_list]
  have L1 : Shut (∀ W, Turn no w W → Calls Tryd.prog 44 #[v] W fun e w' => ∃ z, e = .returned z ∧ Bs w' z (0 :: x) ∧ Turn no W w') := fun W T => (leafText_any W v x (hv1.turn_no T) (by omega)).mono (fun e w' ⟨z, e1, o, t⟩ => ⟨z, e1, o.bs, t⟩)
  have L2 : Shut (∀ W, Turn no w W → Calls Tryd.prog 44 #[u] W fun e w' => ∃ z, e = .returned z ∧ Bs w' z (0 :: y) ∧ Turn no W w') := fun W T => (leafText_any W u y (hu1.turn_no T) (by omega)).mono (fun e w' ⟨z, e1, o, t⟩ => ⟨z, e1, o.bs, t⟩)
  have CL : Shut (∀ W, Turn no w W → ∀ z z', Bs W z (0 :: x) → Bs W z' (0 :: y) → Calls Tryd.prog 26 #[z, z'] W fun e w' => e = .returned (.bool (clB (0 :: x) (0 :: y))) ∧ Turn no W w') := fun W T z z' h1 h2' => clash26 W z z' _ _ h1 h2' (by simp; omega) (by simp; omega) (hl.turn T (fun q => q)) (by have := T.size; omega)
  obtain ⟨xa, xc, hv⟩ := hv1.slice
  obtain ⟨ya, yc, hu⟩ := hu1.slice
  have hcl : Shut ((x == y) = false → clB (0 :: x) (0 :: y) = true) := fun q => clB_leaf (by simpa using q) ht
  generalize clB (0 :: x) (0 :: y) = cl at *
  generalize (⟨x.toArray⟩ : ByteArray) = tx at *
  generalize (⟨y.toArray⟩ : ByteArray) = ty at *
  generalize (x == y) = q1 at *
  generalize 0 :: x = TX at *
  generalize 0 :: y = TY at *
  subst hv hu
  generalize x.length = nx at *
  generalize y.length = ny at *
  clear c0 d0 hv1 hu1 ht
  go_enter Tryd.func27, Tryd.ntmps27
  go_upto_region 4 with fail
  refine wp_region_held_drew (S := fun W => Turn no w W) (by kernel_rfl) (Turn.refl no w).drew (fun hHeld => ?_)
  refine' wpAnyH_take (i := 0) (v := .slice (some ⟨b, o, none⟩) 1 ca) rfl (by kernel_rfl) (by kernel_rfl) (by kernel_rfl) (fun _ _ _ h => h) (Or.inl ⟨by kernel_rfl, fun W hW => ?y1⟩) hHeld ?r1
  · go_simp
  refine' wpAnyH_take (i := 1) (v := .pointer (some ⟨b, o, none⟩)) rfl (by kernel_rfl) (by kernel_rfl) (by kernel_rfl) (fun _ _ _ h => h) (Or.inl ⟨by kernel_rfl, fun W hW => ?y2⟩) hHeld ?r2
  · go_simp
  refine' wpAnyH_take (i := 2) (v := .slice xa nx xc) rfl (by kernel_rfl) (by kernel_rfl) (by kernel_rfl) (fun _ _ _ h => h) (Or.inl ⟨by kernel_rfl, fun W hW => ?y3⟩) hHeld ?r3
  · have z := (HC.out W hW).1
    go_simp
  refine' wpAnyH_take (i := 3) (v := .string tx) rfl (by kernel_rfl) (by kernel_rfl) (by kernel_rfl) (fun _ _ _ h => h) (Or.inl ⟨by kernel_rfl, fun W hW => ?y4⟩) hHeld ?r4
  · have z := (HT.out W hW).1
    go_simp
  refine' wpAnyH_take (i := 4) (v := .slice (some ⟨b', o', none⟩) 1 cb) rfl (by kernel_rfl) (by kernel_rfl) (by kernel_rfl) (fun _ _ _ h => h) (Or.inl ⟨by kernel_rfl, fun W hW => ?y5⟩) hHeld ?r5
  · go_simp
  refine' wpAnyH_take (i := 5) (v := .pointer (some ⟨b', o', none⟩)) rfl (by kernel_rfl) (by kernel_rfl) (by kernel_rfl) (fun _ _ _ h => h) (Or.inl ⟨by kernel_rfl, fun W hW => ?y6⟩) hHeld ?r6
  · go_simp
  refine' wpAnyH_take (i := 6) (v := .slice ya ny yc) rfl (by kernel_rfl) (by kernel_rfl) (by kernel_rfl) (fun _ _ _ h => h) (Or.inl ⟨by kernel_rfl, fun W hW => ?y7⟩) hHeld ?r7
  · have z := (HC.out W hW).2
    go_simp
  refine' wpAnyH_take (i := 7) (v := .string ty) rfl (by kernel_rfl) (by kernel_rfl) (by kernel_rfl) (fun _ _ _ h => h) (Or.inl ⟨by kernel_rfl, fun W hW => ?y8⟩) hHeld ?r8
  · have z := (HT.out W hW).2
    go_simp
  refine' wpAnyH_take (i := 8) (v := .bool q1) rfl (by kernel_rfl) (by kernel_rfl) (by kernel_rfl) (fun _ _ _ h => h) (Or.inl ⟨by kernel_rfl, fun W hW => ?y9⟩) hHeld ?r9
  · have z := hq.out
    go_simp
  refine wpAnyH_done (by kernel_rfl) ?_ _
  go_simp
  have HT1 := shut hHeld
  clear hHeld
  cases q1 with
  | true =>
    go_wp2_with fail
    go_ret2
    exact Sc.mk true false rfl rfl HT1.out
  | false =>
    have hc1 := shut (hcl.out rfl)
    go_upto_region 6 with fail
    refine wp_region_held_drew (S := fun W => Turn no w W) (by kernel_rfl) HT1.out.drew (fun hHeld => ?_)
    refine' wpAnyH_take (i := 0) (v := .slice (some ⟨b, o, none⟩) 1 ca) rfl (by kernel_rfl) (by kernel_rfl) (by kernel_rfl) (fun _ _ _ h => h) (Or.inl ⟨by kernel_rfl, fun W hW => ?y10⟩) hHeld ?r10
    · go_simp
    refine' wpAnyH_take (i := 1) (v := .pointer (some ⟨b, o, none⟩)) rfl (by kernel_rfl) (by kernel_rfl) (by kernel_rfl) (fun _ _ _ h => h) (Or.inl ⟨by kernel_rfl, fun W hW => ?y11⟩) hHeld ?r11
    · go_simp
    refine' wpAnyH_take (i := 2) (v := .slice xa nx xc) rfl (by kernel_rfl) (by kernel_rfl) (by kernel_rfl) (fun _ _ _ h => h) (Or.inl ⟨by kernel_rfl, fun W hW => ?y12⟩) hHeld ?r12
    · have z := (HC.out W hW).1
      go_simp
    refine' wpAnyH_take (i := 4) (v := .slice (some ⟨b', o', none⟩) 1 cb) rfl (by kernel_rfl) (by kernel_rfl) (by kernel_rfl) (fun _ _ _ h => h) (Or.inl ⟨by kernel_rfl, fun W hW => ?y13⟩) hHeld ?r13
    · go_simp
    refine' wpAnyH_take (i := 5) (v := .pointer (some ⟨b', o', none⟩)) rfl (by kernel_rfl) (by kernel_rfl) (by kernel_rfl) (fun _ _ _ h => h) (Or.inl ⟨by kernel_rfl, fun W hW => ?y14⟩) hHeld ?r14
    · go_simp
    refine' wpAnyH_take (i := 6) (v := .slice ya ny yc) rfl (by kernel_rfl) (by kernel_rfl) (by kernel_rfl) (fun _ _ _ h => h) (Or.inl ⟨by kernel_rfl, fun W hW => ?y15⟩) hHeld ?r15
    · have z := (HC.out W hW).2
      go_simp
    refine wpAnyH_ready (rs := [3]) (by kernel_rfl) (by simp) ?_
    refine AllReadyH.cons rfl (fun K hK => ?_) AllReadyH.nil
    go_simp
    refine (L1.out _ hHeld).mono ?_
    rintro e w3 ⟨z3, rfl, b3, t3⟩
    refine hK.out _ _ (hHeld.then_no t3) (fun hHeld => ?_)
    clear hK
    refine wpAnyH_ready (rs := [7]) (by kernel_rfl) (by simp) ?_
    refine AllReadyH.cons rfl (fun K hK => ?_) AllReadyH.nil
    go_simp
    refine (L2.out _ hHeld).mono ?_
    rintro e w4 ⟨z4, rfl, b4, t4⟩
    refine hK.out _ _ (hHeld.then_no t4) (fun hHeld => ?_)
    clear hK
    refine wpAnyH_ready (rs := [8]) (by kernel_rfl) (by simp) ?_
    refine AllReadyH.cons rfl (fun K hK => ?_) AllReadyH.nil
    go_simp
    refine (CL.out _ hHeld z3 z4 (b3.turn_no t4) b4).mono ?_
    rintro e w5 ⟨rfl, t5⟩
    refine hK.out _ _ (hHeld.then_no t5) (fun hHeld => ?_)
    clear hK
    refine' wpAnyH_take (i := 9) (v := .bool cl) rfl (by kernel_rfl) (by kernel_rfl) (by kernel_rfl) (fun _ _ _ h => h) (Or.inl ⟨by kernel_rfl, fun W hW => ?y16⟩) hHeld ?r16
    · go_simp
    refine wpAnyH_done (by kernel_rfl) ?_ _
    go_simp
    have HT5 := shut hHeld
    clear hHeld
    go_wp2_with fail
    go_ret2
    exact Sc.mk false cl rfl (by rw [hc1.out]; rfl) HT5.out
end Go.Proofs.YtnibmkenbidnfabDoor
