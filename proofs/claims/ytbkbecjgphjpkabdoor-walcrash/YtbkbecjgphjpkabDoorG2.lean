/- A log's Append and Sync. -/
import Derived.Test.YtbkbecjgphjpkabDoorG1
namespace Go.Proofs.YtbkbecjgphjpkabDoor
open Go.RowKit Go.Maps
set_option linter.unusedVariables false

/-- What an Append of a record does to the disk, and its error. -/
def apdS (s : St) (nm : Nm) (rec : List UInt8) : St × Int := if 262400 < rec.length then (s, 4) else appS s nm (frameB rec)

section
variable {w : World} {q p : Nat} {M : Nat → Prop} {s : St} {nm : Nm} {c y : Nat}

/-- What the closures leave. -/
def Lf (w : World) (q p : Nat) (M : Nat → Prop) (nm : Nm) (s' : St) (c0 y0 : Nat) (w' : World) (c' y' : Nat) : Prop :=
  c' = c0 ∧ y' = y0 ∧ ∃ M', Dk w' p M' s' ∧ From w M M' ∧ Turn (fun k => M k ∨ k = q) w w'

theorem Dk.klt (h : Dk w p M s) : ∀ k, M k → k < w.heap.size := by
  obtain ⟨bf, bt, V, h⟩ := h
  exact h.klt

set_option maxRecDepth 100000 in
set_option maxHeartbeats 4000000 in
theorem app43 (hk : Dk w p M s) (hn : s.n < 4611686018427387904) (hg : Lg w q p nm c y false) (hq : ¬ M q) (hnm : nm.length ≤ maxLen) (hc : c < 4611686018427387904) (a0 a1 : Nat) (v : Value) (rec : List UInt8)
    (b0 : w.cell? ⟨a0, 0, none⟩ = some v) (b1 : w.cell? ⟨a1, 0, none⟩ = some (ptr q)) (k0 : ¬ M a0) (k1 : ¬ M a1) (n1 : a1 ≠ q) (hb : Bs w v rec) (hL : LaidT w) :
    Calls Tryd.prog 43 #[ptr a0, ptr a1] w fun e w' => e = .returned (.int .i64 (apdS s nm rec).2) ∧ ∃ c' y', Lg w' q p nm c' y' false ∧ Lf w q p M nm (apdS s nm rec).1 (if (apdS s nm rec).2 = 0 then c + 1 else c) y w' c' y' := by
  have hKlt := hk.klt
  obtain ⟨R, hR⟩ : ∃ R, apdS s nm rec = R := ⟨_, rfl⟩
  obtain ⟨C1, hC1⟩ : ∃ C1, (if (apdS s nm rec).2 = 0 then c + 1 else c) = C1 := ⟨_, rfl⟩
  rw [hC1]
  rw [hR] at hC1 ⊢
  by_cases hbig : 262400 < rec.length
  · have e : apdS s nm rec = (s, 4) := by unfold apdS; rw [if_pos hbig]
    obtain rfl : R = (s, 4) := hR.symm.trans e
    obtain rfl : c = C1 := hC1
    simp only
    have c1 := frame_big w v rec hb hbig
    obtain ⟨va, vc, rfl⟩ := hb.slice
    have hfin : Hid (∃ c' y', Lg w q p nm c' y' false ∧ Lf w q p M nm s c y w c' y') := ⟨c, y, hg, rfl, rfl, M, hk, From.refl w M, Turn.refl _ _⟩
    unfold ptr at *
    clear hL hb e hk hg hR
    go_enter Tryd.func43, Tryd.ntmps43
    go_wp2_with fail
    refine c1.mono ?_
    rintro e' w1 ⟨rfl, hww⟩
    rw [hww]
    go_wp2_with fail
    go_ret
    exact ⟨rfl, hfin.out⟩
  · have e : apdS s nm rec = appS s nm (frameB rec) := by unfold apdS; rw [if_neg hbig]
    have c1 := frame_good w v rec hb hL (by omega)
    obtain ⟨va, vc, rfl⟩ := hb.slice
    have hgc1 := hg.c1
    have hgc2 := hg.c2
    unfold ptr strV at *
    go_enter Tryd.func43, Tryd.ntmps43
    go_wp2_with fail
    refine c1.mono ?_
    rintro e' w1 ⟨fv, rfl, F, ff, t1⟩
    have D1 : ∀ W, Turn M w1 W → W.cell? ⟨a1, 0, none⟩ = some (.pointer (some ⟨q, 0, none⟩)) := fun W t => t.keep (t1.keep b1 (fun z => z)) k1
    have D2 : ∀ W, Turn M w1 W → W.cell? ⟨q, 1, none⟩ = some (.pointer (some ⟨p, 0, none⟩)) := fun W t => t.keep (t1.keep hgc1 (fun z => z)) hq
    have D3 : ∀ W, Turn M w1 W → W.cell? ⟨q, 2, none⟩ = some (.string ⟨nm.toArray⟩) := fun W t => t.keep (t1.keep hgc2 (fun z => z)) hq
    have hk1 := hk.turn_no t1
    have hg1 := hg.turn_no t1
    have s1 := t1.size
    have hqlt := hg.lt
    have hF : ∀ g, fv.ownBlock = some g → ¬ M g := fun g hg' hK => by have := ff g hg'; have := hKlt g hK; omega
    have cA : ∀ W, Turn no w1 W → Calls Tryd.prog 45 #[.pointer (some ⟨p, 0, none⟩), .string ⟨nm.toArray⟩, fv] W (Ans W p M (appS s nm (frameB rec))) := fun W t => append12 (hk1.turn_no t) hn nm hnm fv (frameB rec) (F.bs.turn_no t) (fun _ => hF)
    obtain ⟨fa, fn, fc, rfl⟩ := F.form
    rw [← e, hR] at cA
    have cA := Hid.mk' cA
    clear c1 hL hb hR e hk hg b0 b1 hgc1 hgc2
    go_wp2_with fail
    refine wp_region_held_drew (S := fun W => Turn M w1 W) (by kernel_rfl) (Turn.refl _ w1).drew (fun hHeld => ?_)
    refine' wpAnyH_take (i := 0) (v := .pointer (some ⟨q, 0, none⟩)) rfl (by kernel_rfl) (by kernel_rfl) (by kernel_rfl) (fun _ _ _ h => h) (Or.inl ⟨by kernel_rfl, fun W hW => ?y1⟩) hHeld ?r1
    · have z := D1 W hW
      go_simp
    refine' wpAnyH_take (i := 1) (v := .pointer (some ⟨q, 0, none⟩)) rfl (by kernel_rfl) (by kernel_rfl) (by kernel_rfl) (fun _ _ _ h => h) (Or.inl ⟨by kernel_rfl, fun W hW => ?y2⟩) hHeld ?r2
    · go_simp
    refine' wpAnyH_take (i := 2) (v := .pointer (some ⟨q, 1, none⟩)) rfl (by kernel_rfl) (by kernel_rfl) (by kernel_rfl) (fun _ _ _ h => h) (Or.inl ⟨by kernel_rfl, fun W hW => ?y3⟩) hHeld ?r3
    · go_simp
    refine' wpAnyH_take (i := 3) (v := .pointer (some ⟨p, 0, none⟩)) rfl (by kernel_rfl) (by kernel_rfl) (by kernel_rfl) (fun _ _ _ h => h) (Or.inl ⟨by kernel_rfl, fun W hW => ?y4⟩) hHeld ?r4
    · have z := D2 W hW
      go_simp
    refine' wpAnyH_take (i := 4) (v := .pointer (some ⟨q, 0, none⟩)) rfl (by kernel_rfl) (by kernel_rfl) (by kernel_rfl) (fun _ _ _ h => h) (Or.inl ⟨by kernel_rfl, fun W hW => ?y5⟩) hHeld ?r5
    · have z := D1 W hW
      go_simp
    refine' wpAnyH_take (i := 5) (v := .pointer (some ⟨q, 0, none⟩)) rfl (by kernel_rfl) (by kernel_rfl) (by kernel_rfl) (fun _ _ _ h => h) (Or.inl ⟨by kernel_rfl, fun W hW => ?y6⟩) hHeld ?r6
    · go_simp
    refine' wpAnyH_take (i := 6) (v := .pointer (some ⟨q, 2, none⟩)) rfl (by kernel_rfl) (by kernel_rfl) (by kernel_rfl) (fun _ _ _ h => h) (Or.inl ⟨by kernel_rfl, fun W hW => ?y7⟩) hHeld ?r7
    · go_simp
    refine' wpAnyH_take (i := 7) (v := .string ⟨nm.toArray⟩) rfl (by kernel_rfl) (by kernel_rfl) (by kernel_rfl) (fun _ _ _ h => h) (Or.inl ⟨by kernel_rfl, fun W hW => ?y8⟩) hHeld ?r8
    · have z := D3 W hW
      go_simp
    refine' wpAnyH_take (i := 8) (v := .slice fa fn fc) rfl (by kernel_rfl) (by kernel_rfl) (by kernel_rfl) (fun _ _ _ h => h) (Or.inl ⟨by kernel_rfl, fun W hW => ?y9⟩) hHeld ?r9
    · go_simp
    refine wpAnyH_ready (rs := [9]) (by kernel_rfl) (by simp) ?_
    refine AllReadyH.cons rfl (fun K hK => ?_) AllReadyH.nil
    go_simp
    refine (cA.out _ (Turn.refl no w1).drew).mono ?_
    rintro e' w2 ⟨rfl, M', hk2, hfr, t2⟩
    have t12 : Turn M w1 w2 := (Turn.of_no (Turn.refl no w1).drew).trans t2 (fun _ _ z => z)
    have hg2 := hg1.turn t12 hq
    have hfr2 : From w M M' := fun k z => by
      rcases hfr k z with z | z
      · exact Or.inl z
      · refine Or.inr ?_
        have : w1.drew.heap.size = w1.heap.size := rfl
        omega
    have T2 : Turn (fun k => M k ∨ k = q) w w2 := (Turn.of_no t1).trans t12 (fun _ _ z => Or.inl z)
    refine hK.out _ _ t12 (fun hHeld => ?_)
    clear hK
    refine wpAnyH_ready (rs := [10]) (by kernel_rfl) (by simp) ?_
    refine AllReadyH.cons rfl (fun K hK => ?_) AllReadyH.nil
    go_simp
    refine hK.out _ _ t12 (fun hHeld => ?_)
    clear hK
    refine wpAnyH_done (by kernel_rfl) ?_ _
    have b1' := D1 w2 t12
    clear hHeld D1 D2 D3 cA t2 t12 hfr hk1 hg1 F ff hF
    obtain ⟨r1, r2⟩ := R
    simp only at hk2 hC1 ⊢
    replace hC1 := Hid.mk' hC1
    by_cases h0 : r2 = 0
    · subst h0
      have hCc : Hid (C1 = c + 1) := by show C1 = c + 1; rw [← hC1.out]; rfl
      have g3 := hg2.c3
      have f3 := hg2.f 3
      have hc' : (c : Int) < 4611686018427387904 := by omega
      go_wp2_with fail
      go_ret
      refine ⟨rfl, c + 1, y, ?_, hCc.out.symm, rfl, M', ?_, hfr2, T2.setCell (fun _ => Or.inr rfl) _⟩
      · have := hg2.setCount (c + 1)
        simpa using this
      · refine hk2.turn (S := fun k => k = q) ((Turn.refl (fun k => k = q) w2).setCell (p := ⟨q, 3, none⟩) (fun _ => rfl) _) (fun k hk' hq' => ?_)
        subst hq'
        rcases hfr2 k hk' with z | z
        · exact hq z
        · omega
    · have h0' : (r2 != 0) = true := by simpa using h0
      have hif : Hid (C1 = c) := by show C1 = c; rw [← hC1.out, if_neg h0]
      go_wp2_with fail
      go_ret
      exact ⟨rfl, c, y, hg2, hif.out.symm, rfl, M', hk2, hfr2, T2⟩
end
end Go.Proofs.YtbkbecjgphjpkabDoor
