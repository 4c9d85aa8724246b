/- byBond, and a sort by it. -/
import Derived.Test.YtbhimedajfkioaaM1
import Derived.Test.YtbhimedajfkioaaLB3
import Derived.Deep.RegionHeld3
import Derived.Sort.Grow
namespace Go.Proofs.Ytbhimedajfkioaa
open Go.RowKit
set_option linter.unusedVariables false

set_option maxRecDepth 100000 in
theorem nan52 (w : World) (a : Nat) : Calls Try.prog 49 #[.int .u64 a] w fun e w' => e = .returned (.bool false) ∧ w' = w := by
  have h : ((a : Int) != (a : Int)) = false := by simp
  go_enter Try.func49, Try.ntmps49
  go_wp2_with fail
  go_ret
  exact ⟨rfl, rfl⟩
set_option maxRecDepth 100000 in
theorem nan53 (w : World) (a : Nat) : Calls Try.prog 112 #[.int .u64 a] w fun e w' => e = .returned (.bool false) ∧ w' = w := by
  have h : ((a : Int) != (a : Int)) = false := by simp
  go_enter Try.func112, Try.ntmps112
  go_wp2_with fail
  go_ret
  exact ⟨rfl, rfl⟩
set_option maxRecDepth 100000 in
theorem cmp37 (w : World) (a b : Nat) : Calls Try.prog 22 #[.int .u64 a, .int .u64 b] w fun e w' => e = .returned (.int .i64 (cN a b)) ∧ w' = w := by
  rcases Nat.lt_trichotomy a b with h | h | h
  · have e : cN a b = -1 := if_pos h
    have HE := shut' e
    have h1 : (a : Int) < (b : Int) := by omega
    clear e h
    go_enter Try.func22, Try.ntmps22
    go_wp2_with (go_at_call 49; refine (nan52 _ _).mono ?_; rintro e w' ⟨rfl, rfl⟩)
    go_ret
    exact ⟨by rw [HE.out]; rfl, rfl⟩
  · subst h
    have e : cN a a = 0 := by simp [cN]
    have HE := shut' e
    have h1 : ¬ (a : Int) < (a : Int) := by omega
    clear e
    go_enter Try.func22, Try.ntmps22
    go_wp2_with (go_at_call 49; refine (nan52 _ _).mono ?_; rintro e w' ⟨rfl, rfl⟩)
    go_ret
    exact ⟨by rw [HE.out]; rfl, rfl⟩
  · have e : cN a b = 1 := by unfold cN; rw [if_neg (by omega), if_pos h]
    have HE := shut' e
    have h1 : ¬ (a : Int) < (b : Int) := by omega
    have h2 : (b : Int) < (a : Int) := by omega
    clear e h
    go_enter Try.func22, Try.ntmps22
    go_wp2_with (go_at_call 49; refine (nan52 _ _).mono ?_; rintro e w' ⟨rfl, rfl⟩)
    go_ret
    exact ⟨by rw [HE.out]; rfl, rfl⟩
set_option maxRecDepth 100000 in
theorem cmp38 (w : World) (a b : Nat) : Calls Try.prog 90 #[.int .u64 a, .int .u64 b] w fun e w' => e = .returned (.int .i64 (cN a b)) ∧ w' = w := by
  rcases Nat.lt_trichotomy a b with h | h | h
  · have e : cN a b = -1 := if_pos h
    have HE := shut' e
    have h1 : (a : Int) < (b : Int) := by omega
    clear e h
    go_enter Try.func90, Try.ntmps90
    go_wp2_with (go_at_call 112; refine (nan53 _ _).mono ?_; rintro e w' ⟨rfl, rfl⟩)
    go_ret
    exact ⟨by rw [HE.out]; rfl, rfl⟩
  · subst h
    have e : cN a a = 0 := by simp [cN]
    have HE := shut' e
    have h1 : ¬ (a : Int) < (a : Int) := by omega
    clear e
    go_enter Try.func90, Try.ntmps90
    go_wp2_with (go_at_call 112; refine (nan53 _ _).mono ?_; rintro e w' ⟨rfl, rfl⟩)
    go_ret
    exact ⟨by rw [HE.out]; rfl, rfl⟩
  · have e : cN a b = 1 := by unfold cN; rw [if_neg (by omega), if_pos h]
    have HE := shut' e
    have h1 : ¬ (a : Int) < (b : Int) := by omega
    have h2 : (b : Int) < (a : Int) := by omega
    clear e h
    go_enter Try.func90, Try.ntmps90
    go_wp2_with (go_at_call 112; refine (nan53 _ _).mono ?_; rintro e w' ⟨rfl, rfl⟩)
    go_ret
    exact ⟨by rw [HE.out]; rfl, rfl⟩
def orN (a b : Int) : Int := if a = 0 then b else a
set_option maxRecDepth 100000 in
set_option maxHeartbeats 1000000 in
theorem or36 (w : World) (g : Nat) (a b : Int) (h0 : w.cell? ⟨g, 0, none⟩ = some (.int .i64 a)) (h1 : w.cell? ⟨g, 1, none⟩ = some (.int .i64 b)) : Calls Try.prog 89 #[.slice (some ⟨g, 0, none⟩) 2 2] w fun e w' => e = .returned (.int .i64 (orN a b)) ∧ w' = w := by
  go_enter Try.func89, Try.ntmps89
  go_wp2_with fail
  go_loopw [8] (fun c wr => wr = w ∧ (c = .int .i64 0 ∨ (c = .int .i64 1 ∧ a = 0) ∨ (c = .int .i64 2 ∧ a = 0 ∧ b = 0))) (fun c _ => 2 - (intOf c).toNat)
  case atStart => exact ⟨rfl, .inl rfl⟩
  case round =>
    rcases hrel with ⟨rfl, rfl | ⟨rfl, ha⟩ | ⟨rfl, ha, hb⟩⟩
    · by_cases hz : a = 0
      · have hz' : (a != 0) = false := by simp [hz]
        have HZ := shut' hz
        clear hz
        go_wp2_with fail
        exact ⟨⟨(by trivial), .inr (.inl ⟨rfl, HZ.out⟩)⟩, by simp [intOf]⟩
      · have hz' : (a != 0) = true := by simp [hz]
        have HZ := shut' (show orN a b = a from if_neg hz)
        clear hz
        go_wp2_with fail
        go_ret
        exact ⟨by rw [HZ.out]; rfl, rfl⟩
    · have HA := shut' ha
      have HX := shut' (show orN a b = b from if_pos ha)
      clear ha
      by_cases hz : b = 0
      · have hz' : (b != 0) = false := by simp [hz]
        have HZ := shut' hz
        clear hz
        go_wp2_with fail
        exact ⟨⟨(by trivial), .inr (.inr ⟨rfl, HA.out, HZ.out⟩)⟩, by simp [intOf]⟩
      · have hz' : (b != 0) = true := by simp [hz]
        clear hz
        go_wp2_with fail
        go_ret
        exact ⟨by rw [HX.out]; rfl, rfl⟩
    · have HX := shut' (show orN a b = 0 by simp [orN, ha, hb])
      clear ha hb
      go_wp2_with fail
      go_ret
      exact ⟨by rw [HX.out]; rfl, rfl⟩
/-- The greatest bond first, of equal ones the least address. -/
def bondC (x y : Ac) : Int := orN (cN y.bond x.bond) (cN x.ad y.ad)
def ac5 (m : Ac) : List Value := [.int .u64 m.ad, .int .u64 m.bal, .int .u64 m.bond, .int .u64 m.nonce, .bool m.jail]
set_option maxRecDepth 100000 in
set_option maxHeartbeats 4000000 in
theorem bond26 (w : World) (x y : Ac) : Calls Try.prog 62 #[.agg #[.int .u64 x.ad, .int .u64 x.bal, .int .u64 x.bond, .int .u64 x.nonce, .bool x.jail], .agg #[.int .u64 y.ad, .int .u64 y.bal, .int .u64 y.bond, .int .u64 y.nonce, .bool y.jail]] w fun e w' => e = .returned (.int .i64 (bondC x y)) ∧ Gw w w' := by
  obtain ⟨w1, hw1⟩ : ∃ w1, w.alloc (.cells #[.int .u64 x.ad, .int .u64 x.bal, .int .u64 x.bond, .int .u64 x.nonce, .bool x.jail] 58) = w1 := ⟨_, rfl⟩
  have s1 : w1.heap.size = w.heap.size + 1 := by rw [← hw1]; simp
  obtain ⟨w2, hw2⟩ : ∃ w2, w1.alloc (.cells #[.int .u64 y.ad, .int .u64 y.bal, .int .u64 y.bond, .int .u64 y.nonce, .bool y.jail] 58) = w2 := ⟨_, rfl⟩
  have G2 : Gw w w2 := by rw [← hw2, ← hw1]; exact ((Gw.refl w).alloc _).alloc _
  have R1 : w2.heap[w.heap.size]? = some (.cells #[.int .u64 x.ad, .int .u64 x.bal, .int .u64 x.bond, .int .u64 x.nonce, .bool x.jail] 58 (0, 0)) := by
    have t : Turn no w1 w2 := by rw [← hw2]; exact (Turn.refl no w1).alloc _
    exact t.obj (by rw [← hw1]; exact heap_alloc_new w _) (fun q => q)
  have R2 : w2.heap[w.heap.size + 1]? = some (.cells #[.int .u64 y.ad, .int .u64 y.bal, .int .u64 y.bond, .int .u64 y.nonce, .bool y.jail] 58 (0, 0)) := by
    rw [← s1, ← hw2]
    exact heap_alloc_new w1 _
  have D : ∀ W, Gw w2 W → W.cell? ⟨w.heap.size, 0, none⟩ = some (.int .u64 x.ad) ∧ W.cell? ⟨w.heap.size, 2, none⟩ = some (.int .u64 x.bond) ∧ W.cell? ⟨w.heap.size + 1, 0, none⟩ = some (.int .u64 y.ad) ∧ W.cell? ⟨w.heap.size + 1, 2, none⟩ = some (.int .u64 y.bond) := fun W g =>
    ⟨g.turn.keep (cell_of_row _ _ 0 _ 58 (0, 0) R1) (fun q => q), g.turn.keep (cell_of_row _ _ 2 _ 58 (0, 0) R1) (fun q => q), g.turn.keep (cell_of_row _ _ 0 _ 58 (0, 0) R2) (fun q => q), g.turn.keep (cell_of_row _ _ 2 _ 58 (0, 0) R2) (fun q => q)⟩
  have HD := shut' D
  have HG := shut' G2
  have HB : Shut (bondC x y = orN (cN y.bond x.bond) (cN x.ad y.ad)) := rfl
  have c1 := cmp37 w2.drew y.bond x.bond
  have c2 := cmp38 w2.drew x.ad y.ad
  clear D R1 R2 G2
  generalize cN y.bond x.bond = A at *
  generalize cN x.ad y.ad = B at *
  have g0 : Gw w2 w2.drew := (Gw.refl w2).drew
  have R3 : (w2.drew.alloc (.cells #[.int .i64 A, .int .i64 B] 3)).heap[w2.heap.size]? = some (.cells #[.int .i64 A, .int .i64 B] 3 (0, 0)) := heap_alloc_new w2.drew _
  have c3 := or36 (w2.drew.alloc (.cells #[.int .i64 A, .int .i64 B] 3)) w2.heap.size A B (cell_of_row _ _ 0 _ 3 (0, 0) R3) (cell_of_row _ _ 1 _ 3 (0, 0) R3)
  generalize orN A B = C at *
  clear R3
  go_enter Try.func62, Try.ntmps62
  go_upto_region 1 with fail
  refine wp_region_held_drew (S := fun W => Gw w2 W) (by kernel_rfl) g0 (fun hHeld => ?_)
  refine' wpAnyH_take (i := 0) (v := .pointer (some ⟨w.heap.size + 1, 2, none⟩)) rfl (by kernel_rfl) (by kernel_rfl) (by kernel_rfl) (fun _ _ _ h => h) (Or.inl ⟨by kernel_rfl, fun W hW => ?y1⟩) hHeld ?r1
  · go_simp
  refine' wpAnyH_take (i := 1) (v := .int .u64 y.bond) rfl (by kernel_rfl) (by kernel_rfl) (by kernel_rfl) (fun _ _ _ h => h) (Or.inl ⟨by kernel_rfl, fun W hW => ?y2⟩) hHeld ?r2
  · obtain ⟨z0, z1, z2, z3⟩ := HD.out W hW
    go_simp
  refine' wpAnyH_take (i := 2) (v := .pointer (some ⟨w.heap.size, 2, none⟩)) rfl (by kernel_rfl) (by kernel_rfl) (by kernel_rfl) (fun _ _ _ h => h) (Or.inl ⟨by kernel_rfl, fun W hW => ?y3⟩) hHeld ?r3
  · go_simp
  refine' wpAnyH_take (i := 3) (v := .int .u64 x.bond) rfl (by kernel_rfl) (by kernel_rfl) (by kernel_rfl) (fun _ _ _ h => h) (Or.inl ⟨by kernel_rfl, fun W hW => ?y4⟩) hHeld ?r4
  · obtain ⟨z0, z1, z2, z3⟩ := HD.out W hW
    go_simp
  refine' wpAnyH_take (i := 5) (v := .pointer (some ⟨w.heap.size, 0, none⟩)) rfl (by kernel_rfl) (by kernel_rfl) (by kernel_rfl) (fun _ _ _ h => h) (Or.inl ⟨by kernel_rfl, fun W hW => ?y5⟩) hHeld ?r5
  · go_simp
  refine' wpAnyH_take (i := 6) (v := .int .u64 x.ad) rfl (by kernel_rfl) (by kernel_rfl) (by kernel_rfl) (fun _ _ _ h => h) (Or.inl ⟨by kernel_rfl, fun W hW => ?y6⟩) hHeld ?r6
  · obtain ⟨z0, z1, z2, z3⟩ := HD.out W hW
    go_simp
  refine' wpAnyH_take (i := 7) (v := .pointer (some ⟨w.heap.size + 1, 0, none⟩)) rfl (by kernel_rfl) (by kernel_rfl) (by kernel_rfl) (fun _ _ _ h => h) (Or.inl ⟨by kernel_rfl, fun W hW => ?y7⟩) hHeld ?r7
  · go_simp
  refine' wpAnyH_take (i := 8) (v := .int .u64 y.ad) rfl (by kernel_rfl) (by kernel_rfl) (by kernel_rfl) (fun _ _ _ h => h) (Or.inl ⟨by kernel_rfl, fun W hW => ?y8⟩) hHeld ?r8
  · obtain ⟨z0, z1, z2, z3⟩ := HD.out W hW
    go_simp
  refine wpAnyH_ready (rs := [4]) (by kernel_rfl) (by simp) ?_
  refine AllReadyH.cons rfl (fun K hK => ?_) AllReadyH.nil
  go_simp
  refine c1.mono ?_
  rintro e w' ⟨rfl, rfl⟩
  refine hK.out _ _ g0 (fun hHeld => ?_)
  clear hK
  refine wpAnyH_ready (rs := [9]) (by kernel_rfl) (by simp) ?_
  refine AllReadyH.cons rfl (fun K hK => ?_) AllReadyH.nil
  go_simp
  refine c2.mono ?_
  rintro e w' ⟨rfl, rfl⟩
  refine hK.out _ _ g0 (fun hHeld => ?_)
  clear hK
  refine wpAnyH_ready (rs := [10]) (by kernel_rfl) (by simp) ?_
  refine AllReadyH.cons rfl (fun K hK => ?_) AllReadyH.nil
  go_simp
  refine hK.out _ _ (g0.alloc _) (fun hHeld => ?_)
  clear hK
  refine wpAnyH_ready (rs := [11]) (by kernel_rfl) (by simp) ?_
  refine AllReadyH.cons rfl (fun K hK => ?_) AllReadyH.nil
  go_simp
  refine c3.mono ?_
  rintro e w' ⟨rfl, rfl⟩
  refine hK.out _ _ (g0.alloc _) (fun hHeld => ?_)
  clear hK
  refine' wpAnyH_take (i := 12) (v := .int .i64 C) rfl (by kernel_rfl) (by kernel_rfl) (by kernel_rfl) (fun _ _ _ h => h) (Or.inl ⟨by kernel_rfl, fun W hW => ?y9⟩) hHeld ?r9
  · go_simp
  refine wpAnyH_done (by kernel_rfl) ?_ _
  go_wp2_with fail
  go_ret
  refine ⟨by rw [HB.out]; rfl, ?_⟩
  obtain ⟨q, os, e⟩ := HG.out
  obtain ⟨q2, os2, e2⟩ := g0.alloc (.cells #[.int .i64 A, .int .i64 B] 3)
  exact ⟨q + q2, os ++ os2, by rw [e2, e]; simp [Go.Sort.grow, World.drewN, Nat.add_assoc]⟩
end Go.Proofs.Ytbhimedajfkioaa
