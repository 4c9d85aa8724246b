/- Texts in one. -/
import Derived.Test.YtgbcdjjnpadddaaGreatDoorSy
import Derived.Deep.RegionHeld3
import Derived.Sort.Grow
import Derived.Test.YtgbcdjjnpadddaaGreatDoorLf
import Derived.Shelf.SlSortCmp.WholeK
import Derived.Ground.SlsfProg
/- byHeight: the order of pairs. -/
namespace Go.Proofs.YtgbcdjjnpadddaaGreatDoor
open Go.RowKit
set_option linter.unusedVariables false

/-- Draws on, blocks behind, nothing else. -/
def Gw (w W : World) : Prop := ∃ (q : Nat) (os : Array Obj), W = Go.Sort.grow (w.drewN q) os
theorem Gw.refl (w : World) : Gw w w := ⟨0, #[], by simp [Go.Sort.grow, World.drewN]⟩
theorem Gw.alloc {w W : World} (h : Gw w W) (o : Obj) : Gw w (W.alloc o) := by
  obtain ⟨q, os, rfl⟩ := h
  exact ⟨q, os.push o, by simp [Go.Sort.grow, World.drewN, World.alloc]⟩
theorem Gw.drew {w W : World} (h : Gw w W) : Gw w W.drew := by
  obtain ⟨q, os, rfl⟩ := h
  exact ⟨q + 1, os, by simp [Go.Sort.grow, World.drewN, World.drew, Nat.add_assoc]⟩
theorem Gw.turn {w W : World} (h : Gw w W) : Turn no w W := by
  obtain ⟨q, os, rfl⟩ := h
  exact ⟨rfl, rfl, rfl, by simp [Go.Sort.grow, World.drewN], fun k hk _ => by simp [Go.Sort.grow, World.drewN, Array.getElem?_append, hk]⟩
def cN (a b : Nat) : Int := if a < b then -1 else if b < a then 1 else 0
set_option maxRecDepth 100000 in
theorem nan92 (w : World) (a : Nat) : Calls Tryz.prog 92 #[.int .u64 a] w fun e w' => e = .returned (.bool false) ∧ w' = w := by
  have h : ((a : Int) != (a : Int)) = false := by simp
  go_enter Tryz.func92, Tryz.ntmps92
  go_wp2_with fail
  go_ret
  exact ⟨rfl, rfl⟩
set_option maxRecDepth 100000 in
theorem nan93 (w : World) (a : Nat) : Calls Tryz.prog 93 #[.int .u64 a] w fun e w' => e = .returned (.bool false) ∧ w' = w := by
  have h : ((a : Int) != (a : Int)) = false := by simp
  go_enter Tryz.func93, Tryz.ntmps93
  go_wp2_with fail
  go_ret
  exact ⟨rfl, rfl⟩
set_option maxRecDepth 100000 in
theorem cmp60 (w : World) (a b : Nat) : Calls Tryz.prog 60 #[.int .u64 a, .int .u64 b] w fun e w' => e = .returned (.int .i64 (cN a b)) ∧ w' = w := by
  rcases Nat.lt_trichotomy a b with h | h | h
  · have e : cN a b = -1 := if_pos h
    have HE := shut e
    have h1 : (a : Int) < (b : Int) := by omega
    clear e h
    go_enter Tryz.func60, Tryz.ntmps60
    go_wp2_with (go_at_call 92; refine (nan92 _ _).mono ?_; rintro e w' ⟨rfl, rfl⟩)
    go_ret
    exact ⟨by rw [HE.out]; rfl, rfl⟩
  · subst h
    have e : cN a a = 0 := by simp [cN]
    have HE := shut e
    have h1 : ¬ (a : Int) < (a : Int) := by omega
    clear e
    go_enter Tryz.func60, Tryz.ntmps60
    go_wp2_with (go_at_call 92; refine (nan92 _ _).mono ?_; rintro e w' ⟨rfl, rfl⟩)
    go_ret
    exact ⟨by rw [HE.out]; rfl, rfl⟩
  · have e : cN a b = 1 := by unfold cN; rw [if_neg (by omega), if_pos h]
    have HE := shut e
    have h1 : ¬ (a : Int) < (b : Int) := by omega
    have h2 : (b : Int) < (a : Int) := by omega
    clear e h
    go_enter Tryz.func60, Tryz.ntmps60
    go_wp2_with (go_at_call 92; refine (nan92 _ _).mono ?_; rintro e w' ⟨rfl, rfl⟩)
    go_ret
    exact ⟨by rw [HE.out]; rfl, rfl⟩
set_option maxRecDepth 100000 in
theorem cmp61 (w : World) (a b : Nat) : Calls Tryz.prog 61 #[.int .u64 a, .int .u64 b] w fun e w' => e = .returned (.int .i64 (cN a b)) ∧ w' = w := by
  rcases Nat.lt_trichotomy a b with h | h | h
  · have e : cN a b = -1 := if_pos h
    have HE := shut e
    have h1 : (a : Int) < (b : Int) := by omega
    clear e h
    go_enter Tryz.func61, Tryz.ntmps61
    go_wp2_with (go_at_call 93; refine (nan93 _ _).mono ?_; rintro e w' ⟨rfl, rfl⟩)
    go_ret
    exact ⟨by rw [HE.out]; rfl, rfl⟩
  · subst h
    have e : cN a a = 0 := by simp [cN]
    have HE := shut e
    have h1 : ¬ (a : Int) < (a : Int) := by omega
    clear e
    go_enter Tryz.func61, Tryz.ntmps61
    go_wp2_with (go_at_call 93; refine (nan93 _ _).mono ?_; rintro e w' ⟨rfl, rfl⟩)
    go_ret
    exact ⟨by rw [HE.out]; rfl, rfl⟩
  · have e : cN a b = 1 := by unfold cN; rw [if_neg (by omega), if_pos h]
    have HE := shut e
    have h1 : ¬ (a : Int) < (b : Int) := by omega
    have h2 : (b : Int) < (a : Int) := by omega
    clear e h
    go_enter Tryz.func61, Tryz.ntmps61
    go_wp2_with (go_at_call 93; refine (nan93 _ _).mono ?_; rintro e w' ⟨rfl, rfl⟩)
    go_ret
    exact ⟨by rw [HE.out]; rfl, rfl⟩
def orN (a b : Int) : Int := if a = 0 then b else a
set_option maxRecDepth 100000 in
set_option maxHeartbeats 1000000 in
theorem or59 (w : World) (g : Nat) (a b : Int) (h0 : w.cell? ⟨g, 0, none⟩ = some (.int .i64 a)) (h1 : w.cell? ⟨g, 1, none⟩ = some (.int .i64 b)) : Calls Tryz.prog 59 #[.slice (some ⟨g, 0, none⟩) 2 2] w fun e w' => e = .returned (.int .i64 (orN a b)) ∧ w' = w := by
  go_enter Tryz.func59, Tryz.ntmps59
  go_wp2_with fail
  go_loopw [8] (fun c wr => wr = w ∧ (c = .int .i64 0 ∨ (c = .int .i64 1 ∧ a = 0) ∨ (c = .int .i64 2 ∧ a = 0 ∧ b = 0))) (fun c _ => 2 - (intOf c).toNat)
  case atStart => exact ⟨rfl, .inl rfl⟩
  case round =>
    rcases hrel with ⟨rfl, rfl | ⟨rfl, ha⟩ | ⟨rfl, ha, hb⟩⟩
    · by_cases hz : a = 0
      · have hz' : (a != 0) = false := by simp [hz]
        have HZ := shut hz
        clear hz
        go_wp2_with fail
        exact ⟨⟨(by trivial), .inr (.inl ⟨rfl, HZ.out⟩)⟩, by simp [intOf]⟩
      · have hz' : (a != 0) = true := by simp [hz]
        have HZ := shut (show orN a b = a from if_neg hz)
        clear hz
        go_wp2_with fail
        go_ret
        exact ⟨by rw [HZ.out]; rfl, rfl⟩
    · have HA := shut ha
      have HX := shut (show orN a b = b from if_pos ha)
      clear ha
      by_cases hz : b = 0
      · have hz' : (b != 0) = false := by simp [hz]
        have HZ := shut hz
        clear hz
        go_wp2_with fail
        exact ⟨⟨(by trivial), .inr (.inr ⟨rfl, HA.out, HZ.out⟩)⟩, by simp [intOf]⟩
      · have hz' : (b != 0) = true := by simp [hz]
        clear hz
        go_wp2_with fail
        go_ret
        exact ⟨by rw [HX.out]; rfl, rfl⟩
    · have HX := shut (show orN a b = 0 by simp [orN, ha, hb])
      clear ha hb
      go_wp2_with fail
      go_ret
      exact ⟨by rw [HX.out]; rfl, rfl⟩
/-- By height, then member. -/
def offC (x y : Nat × Nat) : Int := orN (cN x.1 y.1) (cN x.2 y.2)
def of2 (m : Nat × Nat) : List Value := [.int .u64 m.1, .int .u64 m.2]
set_option maxRecDepth 100000 in
set_option maxHeartbeats 4000000 in
theorem off34 (w : World) (x y : Nat × Nat) : Calls Tryz.prog 34 #[.agg #[.int .u64 x.1, .int .u64 x.2], .agg #[.int .u64 y.1, .int .u64 y.2]] w fun e w' => e = .returned (.int .i64 (offC x y)) ∧ Gw w w' := by
  obtain ⟨w1, hw1⟩ : ∃ w1, w.alloc (.cells #[.int .u64 x.1, .int .u64 x.2] 101) = w1 := ⟨_, rfl⟩
  have s1 : w1.heap.size = w.heap.size + 1 := by rw [← hw1]; simp
  obtain ⟨w2, hw2⟩ : ∃ w2, w1.alloc (.cells #[.int .u64 y.1, .int .u64 y.2] 101) = w2 := ⟨_, rfl⟩
  have G2 : Gw w w2 := by rw [← hw2, ← hw1]; exact ((Gw.refl w).alloc _).alloc _
  have R1 : w2.heap[w.heap.size]? = some (.cells #[.int .u64 x.1, .int .u64 x.2] 101 (0, 0)) := by
    have t : Turn no w1 w2 := by rw [← hw2]; exact (Turn.refl no w1).alloc _
    exact t.obj (by rw [← hw1]; exact heap_alloc_new w _) (fun q => q)
  have R2 : w2.heap[w.heap.size + 1]? = some (.cells #[.int .u64 y.1, .int .u64 y.2] 101 (0, 0)) := by
    rw [← s1, ← hw2]
    exact heap_alloc_new w1 _
  have D : ∀ W, Gw w2 W → W.cell? ⟨w.heap.size, 0, none⟩ = some (.int .u64 x.1) ∧ W.cell? ⟨w.heap.size, 1, none⟩ = some (.int .u64 x.2) ∧ W.cell? ⟨w.heap.size + 1, 0, none⟩ = some (.int .u64 y.1) ∧ W.cell? ⟨w.heap.size + 1, 1, none⟩ = some (.int .u64 y.2) := fun W g =>
    ⟨g.turn.keep (cell_of_row _ _ 0 _ 101 (0, 0) R1) (fun q => q), g.turn.keep (cell_of_row _ _ 1 _ 101 (0, 0) R1) (fun q => q), g.turn.keep (cell_of_row _ _ 0 _ 101 (0, 0) R2) (fun q => q), g.turn.keep (cell_of_row _ _ 1 _ 101 (0, 0) R2) (fun q => q)⟩
  have HD := shut D
  have HG := shut G2
  have HB : Shut (offC x y = orN (cN x.1 y.1) (cN x.2 y.2)) := rfl
  have c1 := cmp60 w2.drew x.1 y.1
  have c2 := cmp61 w2.drew x.2 y.2
  clear D R1 R2 G2
  generalize cN x.1 y.1 = A at *
  generalize cN x.2 y.2 = B at *
  have g0 : Gw w2 w2.drew := (Gw.refl w2).drew
  have R3 : (w2.drew.alloc (.cells #[.int .i64 A, .int .i64 B] 3)).heap[w2.heap.size]? = some (.cells #[.int .i64 A, .int .i64 B] 3 (0, 0)) := heap_alloc_new w2.drew _
  have c3 := or59 (w2.drew.alloc (.cells #[.int .i64 A, .int .i64 B] 3)) w2.heap.size A B (cell_of_row _ _ 0 _ 3 (0, 0) R3) (cell_of_row _ _ 1 _ 3 (0, 0) R3)
  generalize orN A B = C at *
  clear R3
  go_enter Tryz.func34, Tryz.ntmps34
  go_upto_region 1 with fail
  refine wp_region_held_drew (S := fun W => Gw w2 W) (by kernel_rfl) g0 (fun hHeld => ?_)
  refine' wpAnyH_take (i := 0) (v := .pointer (some ⟨w.heap.size, 0, none⟩)) rfl (by kernel_rfl) (by kernel_rfl) (by kernel_rfl) (fun _ _ _ h => h) (Or.inl ⟨by kernel_rfl, fun W hW => ?y1⟩) hHeld ?r1
  · go_simp
  refine' wpAnyH_take (i := 1) (v := .int .u64 x.1) rfl (by kernel_rfl) (by kernel_rfl) (by kernel_rfl) (fun _ _ _ h => h) (Or.inl ⟨by kernel_rfl, fun W hW => ?y2⟩) hHeld ?r2
  · obtain ⟨z0, z1, z2, z3⟩ := HD.out W hW
    go_simp
  refine' wpAnyH_take (i := 2) (v := .pointer (some ⟨w.heap.size + 1, 0, none⟩)) rfl (by kernel_rfl) (by kernel_rfl) (by kernel_rfl) (fun _ _ _ h => h) (Or.inl ⟨by kernel_rfl, fun W hW => ?y3⟩) hHeld ?r3
  · go_simp
  refine' wpAnyH_take (i := 3) (v := .int .u64 y.1) rfl (by kernel_rfl) (by kernel_rfl) (by kernel_rfl) (fun _ _ _ h => h) (Or.inl ⟨by kernel_rfl, fun W hW => ?y4⟩) hHeld ?r4
  · obtain ⟨z0, z1, z2, z3⟩ := HD.out W hW
    go_simp
  refine' wpAnyH_take (i := 5) (v := .pointer (some ⟨w.heap.size, 1, none⟩)) rfl (by kernel_rfl) (by kernel_rfl) (by kernel_rfl) (fun _ _ _ h => h) (Or.inl ⟨by kernel_rfl, fun W hW => ?y5⟩) hHeld ?r5
  · go_simp
  refine' wpAnyH_take (i := 6) (v := .int .u64 x.2) rfl (by kernel_rfl) (by kernel_rfl) (by kernel_rfl) (fun _ _ _ h => h) (Or.inl ⟨by kernel_rfl, fun W hW => ?y6⟩) hHeld ?r6
  · obtain ⟨z0, z1, z2, z3⟩ := HD.out W hW
    go_simp
  refine' wpAnyH_take (i := 7) (v := .pointer (some ⟨w.heap.size + 1, 1, none⟩)) rfl (by kernel_rfl) (by kernel_rfl) (by kernel_rfl) (fun _ _ _ h => h) (Or.inl ⟨by kernel_rfl, fun W hW => ?y7⟩) hHeld ?r7
  · go_simp
  refine' wpAnyH_take (i := 8) (v := .int .u64 y.2) rfl (by kernel_rfl) (by kernel_rfl) (by kernel_rfl) (fun _ _ _ h => h) (Or.inl ⟨by kernel_rfl, fun W hW => ?y8⟩) hHeld ?r8
  · obtain ⟨z0, z1, z2, z3⟩ := HD.out W hW
    go_simp
  refine wpAnyH_ready (rs := [4]) (by kernel_rfl) (by simp) ?_
  refine AllReadyH.cons rfl (fun K hK => ?_) AllReadyH.nil
  go_simp
  refine c1.mono ?_
  rintro e w' ⟨rfl, rfl⟩
  refine hK.out _ _ g0 (fun hHeld => ?_)
  clear hK
  refine wpAnyH_ready (rs := [9]) (by kernel_rfl) (by simp) ?_
  refine AllReadyH.cons rfl (fun K hK => ?_) AllReadyH.nil
  go_simp
  refine c2.mono ?_
  rintro e w' ⟨rfl, rfl⟩
  refine hK.out _ _ g0 (fun hHeld => ?_)
  clear hK
  refine wpAnyH_ready (rs := [10]) (by kernel_rfl) (by simp) ?_
  refine AllReadyH.cons rfl (fun K hK => ?_) AllReadyH.nil
  go_simp
  refine hK.out _ _ (g0.alloc _) (fun hHeld => ?_)
  clear hK
  refine wpAnyH_ready (rs := [11]) (by kernel_rfl) (by simp) ?_
  refine AllReadyH.cons rfl (fun K hK => ?_) AllReadyH.nil
  go_simp
  refine c3.mono ?_
  rintro e w' ⟨rfl, rfl⟩
  refine hK.out _ _ (g0.alloc _) (fun hHeld => ?_)
  clear hK
  refine' wpAnyH_take (i := 12) (v := .int .i64 C) rfl (by kernel_rfl) (by kernel_rfl) (by kernel_rfl) (fun _ _ _ h => h) (Or.inl ⟨by kernel_rfl, fun W hW => ?y9⟩) hHeld ?r9
  · go_simp
  refine wpAnyH_done (by kernel_rfl) ?_ _
  go_wp2_with fail
  go_ret
  refine ⟨by rw [HB.out]; rfl, ?_⟩
  obtain ⟨q, os, e⟩ := HG.out
  obtain ⟨q2, os2, e2⟩ := g0.alloc (.cells #[.int .i64 A, .int .i64 B] 3)
  exact ⟨q + q2, os ++ os2, by rw [e2, e]; simp [Go.Sort.grow, World.drewN, Nat.add_assoc]⟩
end Go.Proofs.YtgbcdjjnpadddaaGreatDoor

/- A sort of pairs by byHeight, of whatever length. -/
namespace Go.Proofs.YtgbcdjjnpadddaaGreatDoor
open Go.RowKit Go.Shelf Go.Lib Go.Sort
set_option linter.unusedVariables false

set_option maxRecDepth 100000 in
theorem len127_0 (w : World) : Calls Tryz.prog 127 #[.int .u64 0] w fun e w' => e = .returned (.int .i64 0) ∧ w' = w := by
  go_enter Tryz.func127, Tryz.ntmps127
  go_wp2_with fail
  go_ret
  exact ⟨by kernel_rfl, rfl⟩
set_option maxRecDepth 100000 in
theorem len91_0 (w : World) : Calls Tryz.prog 91 #[.int .u64 0] w fun e w' => e = .returned (.int .i64 0) ∧ w' = w := by
  go_enter Tryz.func91, Tryz.ntmps91
  go_wp2_with fail
  refine (len127_0 w).mono ?_
  rintro e w' ⟨rfl, rfl⟩
  go_wp2_with fail
  go_ret
  exact ⟨rfl, rfl⟩
set_option maxRecDepth 100000 in
theorem ins118_0 (w : World) (v f : Value) : Calls Tryz.prog 118 #[v, .int .i64 0, .int .i64 0, f] w fun e w' => e = .returned (.tuple #[]) ∧ w' = w := by
  go_enter Tryz.func118, Tryz.ntmps118
  go_wp2_with fail
  go_loopw [8] (fun x wr => x = .int .i64 1 ∧ wr = w) (fun _ _ => 0)
  case atStart => exact ⟨rfl, rfl⟩
  case round =>
    obtain ⟨rfl, rfl⟩ := hrel
    go_wp2_with fail
    exact ⟨rfl, _, results_none rfl _ _ _, rfl, rfl⟩
set_option maxRecDepth 100000 in
theorem pdq90_0 (w : World) (v f : Value) : Calls Tryz.prog 90 #[v, .int .i64 0, .int .i64 0, .int .i64 0, f] w fun e w' => e = .returned (.tuple #[]) ∧ w' = w := by
  go_enter Tryz.func90, Tryz.ntmps90
  go_wp2_with fail
  go_loopw [1, 2, 3, 10, 11] (fun a b l x y wr => a = .int .i64 0 ∧ b = .int .i64 0 ∧ l = .int .i64 0 ∧ x = .bool true ∧ y = .bool true ∧ wr = w) (fun _ _ _ _ _ _ => 0)
  case atStart => exact ⟨rfl, rfl, rfl, rfl, rfl, rfl⟩
  case round =>
    obtain ⟨rfl, rfl, rfl, rfl, rfl, rfl⟩ := hrel
    go_wp2_with fail
    refine (ins118_0 _ _ _).mono ?_
    rintro e w' ⟨rfl, rfl⟩
    go_wp2_with fail
    exact ⟨rfl, _, results_none rfl _ _ _, rfl, rfl⟩
set_option maxRecDepth 100000 in
theorem sort57_0 (w : World) (a : Option Addr) (cap : Nat) (f : Value) : Calls Tryz.prog 57 #[.slice a 0 cap, f] w fun e w' => e = .returned (.tuple #[]) ∧ w' = w := by
  go_enter Tryz.func57, Tryz.ntmps57
  go_wp2_with fail
  refine (len91_0 w).mono ?_
  rintro e w' ⟨rfl, rfl⟩
  go_wp2_with fail
  refine (pdq90_0 _ _ _).mono ?_
  rintro e w' ⟨rfl, rfl⟩
  go_wp2_with fail
  exact ⟨rfl, _, results_none rfl _ _ _, rfl, rfl⟩



def offL (x y : Nat × Nat) : Bool := decide (x.1 < y.1 ∨ (x.1 = y.1 ∧ x.2 < y.2))
theorem ltOff (x y : Nat × Nat) : ltOf offC x y = offL x y := by
  unfold ltOf offL offC orN cN
  rcases Nat.lt_trichotomy x.1 y.1 with h | h | h
  · have : ¬ y.1 < x.1 := by omega
    simp [h]
  · have h1 : ¬ x.1 < y.1 := by omega
    have h2 : ¬ y.1 < x.1 := by omega
    rw [if_neg h1, if_neg h2]
    rcases Nat.lt_trichotomy x.2 y.2 with k | k | k
    · simp [k, h]
    · have k1 : ¬ x.2 < y.2 := by omega
      have k2 : ¬ y.2 < x.2 := by omega
      simp [k1, k2, h1]
    · have k1 : ¬ x.2 < y.2 := by omega
      simp [k, k1, h1]
  · have h1 : ¬ x.1 < y.1 := by omega
    have h2 : ¬ x.1 = y.1 := by omega
    simp [h, h1, h2]
theorem swoOff : SWO (ltOf offC) where
  irrefl x := by rw [ltOff]; simp [offL]
  trans x y z h1 h2 := by rw [ltOff] at *; simp only [offL, decide_eq_true_eq] at *; omega
  ntrans x y z h1 h2 := by rw [ltOff] at *; simp only [offL, decide_eq_false_iff_not] at *; omega
theorem cmpLays34 (blk off size : Nat) (w : World) : CmpLays Tryz.prog 34 #[] of2 2 offC blk off size w :=
  fun _ _ _ _ x y => off34 _ x y
/-- The cells of a list of pairs. -/
def ofC (l : List (Nat × Nat)) : List Value := l.flatMap of2
theorem ofC_len (l : List (Nat × Nat)) : (ofC l).length = l.length * 2 := by
  induction l with
  | nil => rfl
  | cons m r ih => simp only [ofC, of2, List.flatMap_cons, List.length_append, List.length_cons, List.length_nil] at ih ⊢; omega
theorem ofC_at : ∀ (l : List (Nat × Nat)) (j : Nat) (m : Nat × Nat), l[j]? = some m → ∀ i, i < 2 → (ofC l)[j * 2 + i]? = (of2 m)[i]?
  | x :: r, 0, m, h, i, hi => by
    simp at h
    subst h
    rw [ofC, List.flatMap_cons, Nat.zero_mul, Nat.zero_add, List.getElem?_append_left (by simpa [of2] using hi)]
  | x :: r, j + 1, m, h, i, hi => by
    rw [ofC, List.flatMap_cons, List.getElem?_append_right (by simp [of2]; omega)]
    have := ofC_at r j m (by simpa using h) i hi
    rw [ofC] at this
    rw [← this]
    congr 1
    simp [of2]
    omega
theorem getD_toArray (l : List (Nat × Nat)) (i : Nat) (m : Nat × Nat) (h : l[i]? = some m) : l.toArray[i]! = m := by
  simp [getElem!_def, h]
theorem holdsOf {w : World} {g cap : Nat} {cur : Array Value} {l : List (Nat × Nat)} (hl : (ofC l).length = l.length * 2) (hg : w.heap[g]? = some (.cells cur 101 (0, 0))) (ht : cur.toList.take (l.length * 2) = ofC l) : HoldsK of2 2 w g 0 l.toArray := by
  intro j hj
  rw [size_flatK] at hj
  have hj' : j < l.length * 2 := by simpa using hj
  rw [get_flatK _ _ _ _ hj]
  have hm : l[j / 2]? = some (l[j / 2]'(by omega)) := List.getElem?_eq_getElem (by omega)
  rw [getD_toArray l _ _ hm]
  have hx := ofC_at l (j / 2) _ hm (j % 2) (by omega)
  rw [show j / 2 * 2 + j % 2 = j by omega, ← ht, List.getElem?_take_of_lt hj'] at hx
  have h5 : j % 2 < 2 := by omega
  have hv : cur[j]? = some ((of2 (l[j / 2]'(by omega)))[j % 2]!) := by
    rw [← Array.getElem?_toList, hx]
    have : j % 2 < (of2 (l[j / 2]'(by omega))).length := by simpa [of2] using h5
    have e : ∀ (q : List Value) (i : Nat), i < q.length → q[i]? = some (q[i]!) := fun q i h => by rw [List.getElem?_eq_getElem h]; simp [h]
    exact e _ _ this
  rw [Nat.zero_add]
  exact ⟨(cell_of_row _ _ j _ 101 (0, 0) hg).trans hv, frozen_of_row _ _ j _ 101 hg⟩
theorem turn_sort {w : World} {g n : Nat} {d : Array (Nat × Nat)} {os : Array Obj} : Turn (fun k => k = g) w (sortWorldK of2 2 w g 0 n d os) := by
  refine ⟨rfl, rfl, rfl, ?_, fun k hk hs => ?_⟩
  · simp [sortWorldK, grow, putRowK, putRow, mapBlock]
  · have hk' : ¬ g = k := fun e => hs e.symm
    show (w.heap.modify g (onCells (putCells id 0 (flatK of2 2 d))) ++ os)[k]? = w.heap[k]?
    rw [Array.getElem?_append_left (by simpa using hk), Array.getElem?_modify, if_neg hk']
/-- Sorted by height, then member. -/
def ByOff (l : List (Nat × Nat)) : Prop := ∀ (i j : Nat) (x y : Nat × Nat), i < j → l[i]? = some x → l[j]? = some y → offL y x = false
theorem ofs_nil (w : World) (a : Option Addr) (cap : Nat) (hc : cap ≤ maxLen) : Ofs w (.slice a 0 cap) [] := ⟨a, cap, rfl, ⟨by simp, hc, fun j m hj => by simp at hj⟩⟩
set_option maxRecDepth 100000 in
theorem sort57 (w : World) (v : Value) (l : List (Nat × Nat)) (O : OwnN w 101 2 v l.length (ofC l)) (hbig : l.length ≤ 140737488355328) : Calls Tryz.prog 57 #[v, .func (.func 34) #[] #[]] w fun e w' =>
    e = .returned (.tuple #[]) ∧ ∃ l', l'.Perm l ∧ ByOff l' ∧ Ofs w' v l' ∧ Turn (fun k => v.ownBlock = some k) w w' := by
  rcases O.2 with ⟨rfl, h0⟩ | ⟨g, cap, cur, rfl, _, hg, h1, h2, h3, h4⟩
  · refine (sort57_0 w none 0 _).mono ?_
    rintro e w' ⟨rfl, rfl⟩
    have : l = [] := List.length_eq_zero_iff.1 h0
    subst this
    exact ⟨rfl, [], List.Perm.refl _, (fun i j x y _ hx _ => by simp at hx), ofs_nil _ _ _ (by simp [maxLen]), Turn.refl _ _⟩
  · have hH : HoldsK of2 2 w g 0 l.toArray := holdsOf (cap := cap) O.1 hg h4
    have hblk : g < w.heap.size := (Array.getElem?_eq_some_iff.1 hg).1
    have eg : ∀ args w, (callFunc 34 args).run Tryz.prog w = .ok (.enter 34 args) w := enters_of Tryz.func34 (by kernel_rfl) rfl
    have hcon := AnyQ.slices_SortFunc sortOf 2 Tryz.isAgg101 Tryz.sizeOf101 of2 (fun _ => rfl) (fun x v hv => by simp [of2] at hv; rcases hv with rfl | rfl <;> rfl) offC swoOff 34 #[] g 0 cap l.toArray w eg (cmpLays34 g 0 _ w) hH hblk (by simp; omega)
    have hcon : Calls Tryz.prog 57 #[.slice (some ⟨g, 0, none⟩) l.length cap, .func (.func 34) #[] #[]] w _ := hcon
    refine hcon.mono ?_
    rintro e w' ⟨rfl, d', n, os, hp, hs, rfl⟩
    have hsz : d'.size = l.length := by have := hp.1; simpa using this
    have hperm : d'.toList.Perm l := by
      have := hp.2.2
      simp only [List.size_toArray] at this
      rw [Array.extract_eq_self_of_le (by omega), Array.extract_eq_self_of_le (by simp)] at this
      exact this
    refine ⟨rfl, d'.toList, hperm, ?_, ⟨some ⟨g, 0, none⟩, cap, by simp [hsz], ?_, h2, fun j m hj => ?_⟩, turn_sort.mono (fun k _ e => by rw [e]; rfl)⟩
    · intro i j x y hij hx hy
      have hj : j < d'.size := by have := (List.getElem?_eq_some_iff.1 hy).1; simpa using this
      have := hs i j (Nat.zero_le _) hij (by simpa [hsz] using hj)
      rw [ltOff] at this
      have ex : d'[i]! = x := by simp at hx; simp [getElem!_def, hx]
      have ey : d'[j]! = y := by simp at hy; simp [getElem!_def, hy]
      rwa [ex, ey] at this
    · simp [hsz]; omega
    · have hjd : j < d'.size := by have := (List.getElem?_eq_some_iff.1 hj).1; simpa using this
      have em : d'[j]! = m := by simp at hj; simp [getElem!_def, hj]
      have hh := holdsK_sortWorldK_c of2 2 w g 0 l.toArray d' n os hH hblk (by simp [hsz])
      have c := fun (c : Nat) (hc : c < 2) => (hh.cell hjd hc).1
      rw [em] at c
      exact ⟨g, 0, rfl, c 0 (by omega), c 1 (by omega)⟩
end Go.Proofs.YtgbcdjjnpadddaaGreatDoor

/- Pairs as keys of a map. -/
namespace Go.Proofs.YtgbcdjjnpadddaaGreatDoor
open Go.RowKit Go.Maps
set_option linter.unusedVariables false

theorem row101 : (101 : TypeId) < Tryz.prog.types.size := of_decide_eq_true (by kernel_rfl)
theorem cellsO : Tryz.prog.cellsOf 101 = 2 := by kernel_rfl
theorem cells22' : Tryz.prog.cellsOf 22 = 1 := by kernel_rfl
theorem cells46' : Tryz.prog.cellsOf 46 = 1 := by kernel_rfl
theorem wide101 : (match Tryz.prog.underlying 101 with | some (.array _ _) | some (.struct _) => true | _ => false) = true := by rw [Tryz.underlying101]
theorem key101 : Tryz.prog.keyType 101 = true := by kernel_rfl
set_option maxRecDepth 100000 in
theorem law101 : Keyed Tryz.prog 101 := Keyed.of_law (deep_law_laid laidOut (m := 2) (by omega) row101 (by kernel_rfl) wide101)
/-- A pair, as the program has it. -/
def offV (x : Nat × Nat) : Value := .agg #[.int .u64 x.1, .int .u64 x.2]
def Off64 (x : Nat × Nat) : Prop := x.1 < 18446744073709551616 ∧ x.2 < 18446744073709551616
theorem wf_u64 {a : Nat} (h : a < 18446744073709551616) : (Lit.int .u64 (a : Int)).wf = true := by
  simp only [Lit.wf, Bool.and_eq_true, decide_eq_true_eq]
  constructor
  · rw [show IntKind.u64.min = 0 by decide]; omega
  · rw [show IntKind.u64.max = 18446744073709551615 by decide]; omega
theorem of_wf_u64 {a : Int} (h : (Lit.int .u64 a).wf = true) : ∃ n : Nat, a = n ∧ n < 18446744073709551616 := by
  simp only [Lit.wf, Bool.and_eq_true, decide_eq_true_eq] at h
  rw [show IntKind.u64.min = 0 by decide, show IntKind.u64.max = 18446744073709551615 by decide] at h
  exact ⟨a.toNat, by omega, by omega⟩
theorem keyOf_uu {P : Program} {t k1 k2 : TypeId} {fs : Array Field} {f1 f2 : Field} (ht : P.underlying t = some (.struct fs)) (hfs : fs = #[f1, f2]) (h1 : f1.type = k1) (h2 : f2.type = k2) (o1 : f1.offset = 0) (o2 : f2.offset = 1) (n1 : f1.name ≠ "_") (n2 : f2.name ≠ "_")
    (hk1 : P.underlying k1 = some (.int .u64)) (hk2 : P.underlying k2 = some (.int .u64)) (hc : P.cellsOf t = 2) (hc1 : P.cellsOf k1 = 1) (hc2 : P.cellsOf k2 = 1) (hk : P.keyType t = true) (hn : 1 ≤ P.types.size) (a b : Int) (ha : (Lit.int .u64 a).wf = true) (hb : (Lit.int .u64 b).wf = true) :
    ∃ kl, keyOf P t (.agg #[.int .u64 a, .int .u64 b]) = some kl := by
  obtain ⟨m, hm⟩ : ∃ m, P.types.size = m + 1 := ⟨P.types.size - 1, by omega⟩
  subst hfs
  unfold keyOf
  rw [ht]
  simp only [hk, Bool.true_and]
  rw [if_pos (by simp [Value.formed, ht, hc]), hm]
  simp [Value.cells, Program.keyLits, ht, hk1, hk2, hc, hc1, hc2, h1, h2, o1, o2, n1, n2, ha, hb]
theorem keyLits_u {P : Program} {k : TypeId} (hk : P.underlying k = some (.int .u64)) {d : Nat} {u : Value} {ls : List Lit} (h : P.keyLits (d + 1) k [u] = some ls) : ∃ n : Nat, u = .int .u64 n ∧ n < 18446744073709551616 := by
  unfold Program.keyLits at h
  rw [hk] at h
  cases u <;> simp at h
  obtain ⟨⟨rfl, ha⟩, _⟩ := h
  obtain ⟨n, rfl, hn⟩ := of_wf_u64 ha
  exact ⟨n, rfl, hn⟩
theorem keyOf_uu_inv {P : Program} {t k1 k2 : TypeId} {fs : Array Field} {f1 f2 : Field} (ht : P.underlying t = some (.struct fs)) (hfs : fs = #[f1, f2]) (h1 : f1.type = k1) (h2 : f2.type = k2) (o1 : f1.offset = 0) (o2 : f2.offset = 1) (n1 : f1.name ≠ "_") (n2 : f2.name ≠ "_")
    (hk1 : P.underlying k1 = some (.int .u64)) (hk2 : P.underlying k2 = some (.int .u64)) (hc : P.cellsOf t = 2) (hc1 : P.cellsOf k1 = 1) (hc2 : P.cellsOf k2 = 1) (hn : 1 ≤ P.types.size) {key : Value} {kl : Lit} (h : keyOf P t key = some kl) :
    ∃ x : Nat × Nat, key = .agg #[.int .u64 x.1, .int .u64 x.2] ∧ Off64 x := by
  obtain ⟨m, hm⟩ : ∃ m, P.types.size = m + 1 := ⟨P.types.size - 1, by omega⟩
  subst hfs
  unfold keyOf at h
  rw [ht] at h
  simp only at h
  split at h
  case isFalse => cases h
  case isTrue hc0 =>
    simp only [Bool.and_eq_true] at hc0
    obtain ⟨_, hf⟩ := hc0
    obtain ⟨ls, hl, _⟩ := Option.map_eq_some_iff.1 h
    clear h
    cases key <;> simp [Value.formed, ht] at hf
    rename_i cs
    rw [hc] at hf
    obtain ⟨l⟩ := cs
    match l, hf with
    | [u, v], _ =>
      rw [show (Value.agg { toList := [u, v] }).cells.toList = [u, v] from rfl] at hl
      unfold Program.keyLits at hl
      rw [ht] at hl
      simp only at hl
      rw [if_pos ⟨by simp [hc], by simp [n1, n2]⟩] at hl
      obtain ⟨q, hq, _⟩ := Option.map_eq_some_iff.1 hl
      clear hl
      rw [hm] at hq
      simp only [List.mapM_cons, List.mapM_nil, h1, h2, o1, o2, hc1, hc2, List.drop_zero, List.take_succ_cons, List.take_zero, List.drop_succ_cons] at hq
      cases e1 : P.keyLits (m + 1) k1 [u] with
      | none => rw [e1] at hq; simp at hq
      | some l1 =>
        cases e2 : P.keyLits (m + 1) k2 [v] with
        | none => rw [e1, e2] at hq; simp at hq
        | some l2 =>
          obtain ⟨n, rfl, hn1⟩ := keyLits_u hk1 e1
          obtain ⟨k, rfl, hn2⟩ := keyLits_u hk2 e2
          exact ⟨(n, k), rfl, hn1, hn2⟩
set_option maxRecDepth 100000 in
theorem offKey_is (x : Nat × Nat) (h : Off64 x) : ∃ kl, keyOf Tryz.prog 101 (offV x) = some kl :=
  keyOf_uu Tryz.underlying101 rfl rfl rfl rfl rfl (by decide) (by decide) Tryz.underlying22 Tryz.underlying46 cellsO cells22' cells46' key101 (by have : 101 < Tryz.prog.types.size := row101; omega) _ _ (wf_u64 h.1) (wf_u64 h.2)
set_option maxRecDepth 100000 in
theorem offKey_inv {key : Value} {kl : Lit} (h : keyOf Tryz.prog 101 key = some kl) : ∃ x : Nat × Nat, key = offV x ∧ Off64 x :=
  keyOf_uu_inv Tryz.underlying101 rfl rfl rfl rfl rfl (by decide) (by decide) Tryz.underlying22 Tryz.underlying46 cellsO cells22' cells46' (by have : 101 < Tryz.prog.types.size := row101; omega) h
def offKey (P : Program) (x : Nat × Nat) : Lit := (keyOf P 101 (offV x)).getD (.bool true)
theorem offKey_of (x : Nat × Nat) (h : Off64 x) : keyOf Tryz.prog 101 (offV x) = some (offKey Tryz.prog x) := by
  obtain ⟨kl, h⟩ := offKey_is x h
  rw [offKey, h]; rfl
theorem offV_inj {x y : Nat × Nat} (h : offV x = offV y) : x = y := by
  simp [offV] at h
  exact Prod.ext (by omega) (by omega)
theorem offKey_inj {x y : Nat × Nat} (hx : Off64 x) (hy : Off64 y) (h : offKey Tryz.prog x = offKey Tryz.prog y) : x = y := by
  have k1 := offKey_of x hx
  have k2 := offKey_of y hy
  rw [← h] at k2
  exact offV_inj (law101.inj k1 k2)
set_option maxRecDepth 100000 in
theorem offKey_key (x : Nat × Nat) (h : Off64 x) : WideAt.IsKeyLit (offKey Tryz.prog x) := law101.key (offKey_of x h)
end Go.Proofs.YtgbcdjjnpadddaaGreatDoor
