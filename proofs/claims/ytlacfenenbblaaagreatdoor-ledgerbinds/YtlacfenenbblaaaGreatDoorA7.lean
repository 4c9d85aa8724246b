/- The document's sum. -/
import Derived.Test.YtlacfenenbblaaaGreatDoorA6
namespace Go.Proofs.YtlacfenenbblaaaGreatDoor
open Go.RowKit
set_option linter.unusedVariables false

def addN (x y : Nat) : Nat := if 1152921504606846975 < x ∨ 1152921504606846975 < y then 1152921504606846976 else x + y
set_option maxRecDepth 100000 in
set_option maxHeartbeats 1000000 in
theorem add33 (w : World) (x y : Nat) : Calls Tryz.prog 89 #[.int .u64 x, .int .u64 y] w fun e w' => e = .returned (.int .u64 (addN x y)) ∧ w' = w := by
  by_cases hx : 1152921504606846975 < x
  · have hx' : (1152921504606846975 : Int) < (x : Int) := by omega
    have he : addN x y = 1152921504606846976 := if_pos (.inl hx)
    have HE := shut' he
    clear he
    go_enter Tryz.func89, Tryz.ntmps89
    go_wp2_with fail
    go_ret
    exact ⟨by rw [HE.out]; rfl, rfl⟩
  have hx' : ¬ (1152921504606846975 : Int) < (x : Int) := by omega
  by_cases hy : 1152921504606846975 < y
  · have hy' : (1152921504606846975 : Int) < (y : Int) := by omega
    have he : addN x y = 1152921504606846976 := if_pos (.inr hy)
    have HE := shut' he
    clear he
    go_enter Tryz.func89, Tryz.ntmps89
    go_wp2_with fail
    go_ret
    exact ⟨by rw [HE.out]; rfl, rfl⟩
  have hy' : ¬ (1152921504606846975 : Int) < (y : Int) := by omega
  have he : addN x y = x + y := if_neg (by omega)
  have HE := shut' he
  have hw : IntKind.u64.wrap ((x : Int) + (y : Int)) = ((x + y : Nat) : Int) := by rw [IntKind.wrap_u64]; omega
  clear he
  go_enter Tryz.func89, Tryz.ntmps89
  go_wp2_with fail
  go_ret
  exact ⟨by rw [HE.out]; rfl, rfl⟩
/-- What the document's sum reckons. -/
def sumA (S : Nat) (m : Ac) : Nat := addN (addN S m.bal) m.bond
def sumN (b : Nat) (l : List Ac) (r : List Rl) : Nat := r.foldl (fun S m => addN S m.amt) (l.foldl sumA (addN 0 b))
set_option maxRecDepth 100000 in
set_option maxHeartbeats 4000000 in
theorem sum23_nil (w : World) (va : Value) (l : List Ac) (ha : As w va l) (b s : Nat) : Calls Tryz.prog 63 #[.agg #[va, .slice none 0 0, .int .u64 b, .int .u64 s]] w fun e w' => e = .returned (.int .u64 (sumN b l [])) ∧ Turn no w w' := by
  obtain ⟨a, cap, rfl, h⟩ := ha
  have hle : l.length ≤ 9223372036854775807 := by have := h.le; have := h.cap; simp only [maxLen] at this; omega
  obtain ⟨w1, hw1⟩ : ∃ w1, w1 = w.alloc (.cells #[.slice a l.length cap, .slice none 0 0, .int .u64 b, .int .u64 s] 26) := ⟨_, rfl⟩
  have t1 : Turn no w w1 := by rw [hw1]; exact (Turn.refl no w).alloc _
  have R1 : w1.heap[w.heap.size]? = some (.cells #[.slice a l.length cap, .slice none 0 0, .int .u64 b, .int .u64 s] 26 (0, 0)) := by rw [hw1]; exact heap_alloc_new w _
  have d0 : w1.cell? ⟨w.heap.size, 0, none⟩ = some (.slice a l.length cap) := cell_of_row _ _ 0 _ 26 (0, 0) R1
  have d1 : w1.cell? ⟨w.heap.size, 1, none⟩ = some (.slice none 0 0) := cell_of_row _ _ 1 _ 26 (0, 0) R1
  have d2 : w1.cell? ⟨w.heap.size, 2, none⟩ = some (.int .u64 b) := cell_of_row _ _ 2 _ 26 (0, 0) R1
  have hcells := (h.turn_no t1).cells
  have c0 : Calls Tryz.prog 89 #[.int .u64 0, .int .u64 b] w1 fun e w' => e = .returned (.int .u64 (addN 0 b)) ∧ w' = w1 := add33 w1 0 b
  obtain ⟨n, hn⟩ : ∃ n, Hid (l.length = n) := ⟨_, rfl⟩
  have hn' : l.length = n := hn.out
  rw [hn'] at hle d0 hw1
  rw [hn']
  clear hn' h R1
  go_enter Tryz.func63, Tryz.ntmps63
  go_wp2_with fail
  try rw [← hw1]
  refine c0.mono ?_
  rintro e w2 ⟨rfl, rfl⟩
  clear hw1 c0
  go_wp2_with fail
  go_loopw [3, 4] (fun x c wr => ∃ k : Nat, k ≤ n ∧ c = .int .i64 k ∧ x = .int .u64 ((l.take k).foldl sumA (addN 0 b) : Nat) ∧ wr = w2) (fun _ c _ => n - (intOf c).toNat)
  case atStart => exact ⟨0, by omega, rfl, rfl, rfl⟩
  case round =>
    obtain ⟨k, hk, rfl, rfl, rfl⟩ := hrel
    by_cases hlt : k < n
    · obtain ⟨m, hm⟩ : ∃ m, l[k]? = some m := ⟨l[k]'(by rw [hn.out]; exact hlt), List.getElem?_eq_getElem _⟩
      obtain ⟨bb, off, rfl, _, c1, c2, _⟩ := hcells k m hm
      have hlt' : (k : Int) < (n : Int) := by omega
      have hk1 : Hid (k + 1 ≤ n) := hlt
      have hst := shut' (foldl_take sumA (addN 0 b) l k m hm)
      generalize (l.take k).foldl sumA (addN 0 b) = S at *
      clear hcells hm
      go_wp2_with fail
      refine (add33 _ S m.bal).mono ?_
      rintro e w3 ⟨rfl, rfl⟩
      go_wp2_with fail
      refine (add33 _ (addN S m.bal) m.bond).mono ?_
      rintro e w3 ⟨rfl, rfl⟩
      go_wp2_with fail
      go_roundw
      case rel => exact ⟨k + 1, hk1.out, by go_num, by rw [hst.out]; rfl, by trivial⟩
      case measure => have := hk1.out; simp [intOf]; omega
    · have hlt' : ¬ (k : Int) < (n : Int) := by omega
      have hfull : l.take k = l := List.take_of_length_le (by have := hn.out; omega)
      rw [hfull]
      have HE : Hid (l.foldl sumA (addN 0 b) = sumN b l []) := rfl
      generalize l.foldl sumA (addN 0 b) = S at *
      clear hcells hfull
      go_wp2_with fail
      go_loopw [3, 5] (fun x c wq => x = .int .u64 (S : Nat) ∧ c = .int .i64 0 ∧ wq = wr) (fun _ _ _ => 0)
      case atStart => exact ⟨rfl, rfl, rfl⟩
      case round =>
        obtain ⟨rfl, rfl, rfl⟩ := hrel
        go_wp2_with fail
        go_ret
        exact ⟨by rw [← HE.out]; rfl, t1⟩
end Go.Proofs.YtlacfenenbblaaaGreatDoor


