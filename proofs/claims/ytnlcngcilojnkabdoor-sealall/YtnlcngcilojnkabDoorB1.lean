/- spoil of the law. -/
import Derived.Test.YtnlcngcilojnkabDoorA5
namespace Go.Proofs.YtnlcngcilojnkabDoor
open Go.RowKit Go.Maps Go.MuLone
set_option linter.unusedVariables false
theorem Own.setAt {w : World} {e : TypeId} {g n cap : Nat} {xs : List Value} (h : Own w e (.slice (some ⟨g, 0, none⟩) n cap) xs) (k : Nat) (u : Value) : Own (w.setCell ⟨g, k, none⟩ u) e (.slice (some ⟨g, 0, none⟩) n cap) (xs.set k u) := by
  rcases h.shape with ⟨e1, _⟩ | ⟨g', cap', cur, e1, hg, h1, h2, h3, h4⟩
  · cases e1
  · cases e1
    have := Own.of (w := w.setCell ⟨g, k, none⟩ u) (e := e) (xs := xs.set k u) (g := g) (cap := cap) (cur := cur.setIfInBounds k u) (heap_setCell_same w g k cur e u hg) (by simpa using h1) h2 (by simpa using h3) (by
      rw [Array.toList_setIfInBounds, List.length_set, List.take_set, h4])
    simpa using this
theorem xor_b (b : UInt8) (k : Int) : ∃ c : UInt8, bits .xor .u8 (b.toNat : Int) k = (c.toNat : Int) := by
  have h : ∃ m : Nat, m < 256 ∧ bits .xor .u8 (b.toNat : Int) k = (m : Int) := by
    have e : ∃ z : Int, bits .xor .u8 (b.toNat : Int) k = IntKind.u8.wrap z := ⟨_, rfl⟩
    obtain ⟨z, e⟩ := e
    rw [e, IntKind.wrap_u8]
    exact ⟨(z % 256).toNat, by omega, by omega⟩
  obtain ⟨m, hm, e⟩ := h
  exact ⟨UInt8.ofNat m, by rw [e]; simp; omega⟩
set_option maxRecDepth 100000 in
set_option maxHeartbeats 2000000 in
theorem spoil44 (w : World) (g n cap : Nat) (xs : List UInt8) (h : Own w 5 (.slice (some ⟨g, 0, none⟩) n cap) (xs.map bv)) (hxl : xs.length = n) (hn : n ≤ 9223372036854775807) : Calls Tryd.prog 44 #[.slice (some ⟨g, 0, none⟩) n cap] w fun e w' => e = .returned (.tuple #[]) ∧ Turn (fun k => k = g) w w' := by
  have hx : Shut (xs.length = n) := hxl
  clear hxl
  go_enter Tryd.func44, Tryd.ntmps44
  go_wp2_with fail
  go_loopw [2] (fun c wr => ∃ (i : Nat) (ys : List UInt8), i ≤ n ∧ c = .int .i64 i ∧ Shut (ys.length = n) ∧ Own wr 5 (.slice (some ⟨g, 0, none⟩) n cap) (ys.map bv) ∧ Turn (fun k => k = g) w wr) (fun c _ => n - (intOf c).toNat)
  case atStart => exact ⟨0, xs, Nat.zero_le _, rfl, hx, h, Turn.refl _ _⟩
  case round =>
    clear h
    obtain ⟨i, ys, hi, rfl, hy, O, T⟩ := hrel
    by_cases hlt : i < n
    · have hlt' : (i : Int) < (n : Int) := by omega
      obtain ⟨b, hb⟩ : ∃ b, ys[i]? = some b := ⟨ys[i]'(by rw [hy.out]; exact hlt), List.getElem?_eq_getElem _⟩
      have cb : wr.cell? ⟨g, i, none⟩ = some (.int .u8 b.toNat) := O.cell i (bv b) (by simp [hb])
      have fb : wr.frozen? ⟨g, i, none⟩ = false := by
        obtain ⟨c, ho⟩ := O.obj rfl
        exact frozen_of_row wr g i c 5 ho
      obtain ⟨c, hc⟩ := xor_b b 90
      have O2 := O.setAt i (bv c)
      have e2 : (ys.map bv).set i (bv c) = (ys.set i c).map bv := by rw [List.map_set]
      rw [e2] at O2
      have T2 := T.setCell (p := ⟨g, i, none⟩) (fun _ => rfl) (bv c)
      have y2 : Shut ((ys.set i c).length = n) := (by rw [List.length_set]; exact hy : (ys.set i c).length = n)
      unfold bv at T2
      have O3 : Own (wr.setCell ⟨g, i, none⟩ (.int .u8 c.toNat)) 5 (.slice (some ⟨g, 0, none⟩) n cap) ((ys.set i c).map bv) := O2
      clear O O2 T e2 hb
      go_wp2_with fail
      go_roundw
      case rel => exact ⟨i + 1, ys.set i c, by omega, by go_num, y2, O3, T2⟩
      case measure => simp [intOf]; omega
    · have hin : i = n := by omega
      subst hin
      have hlt' : ¬ (i : Int) < (i : Int) := by omega
      go_wp2_with fail
      go_end0
      exact ⟨rfl, T⟩
end Go.Proofs.YtnlcngcilojnkabDoor
