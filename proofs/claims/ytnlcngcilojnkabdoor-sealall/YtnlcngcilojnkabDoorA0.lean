/- Around. -/
import Derived.Test.YtnlcngcilojnkabDoorBaseN
import Derived.Test.YtnlcngcilojnkabDoorRows
import Derived.Deep.RegionHeld3
namespace Go.Proofs.YtnlcngcilojnkabDoor
open Go.RowKit
set_option linter.unusedVariables false

def around (x : Int) (n : Nat) : Nat := (x % (n : Int)).toNat
theorem around_lt (x : Int) (n : Nat) (h : 1 ≤ n) : around x n < n := by
  have h1 := Int.emod_lt_of_pos x (show (0 : Int) < n by omega)
  have h2 := Int.emod_nonneg x (show (n : Int) ≠ 0 by omega)
  unfold around
  omega
theorem around_pos (x : Int) (n : Nat) (h : 1 ≤ n) (hx : ¬ x.tmod n < 0) : x.tmod n = (around x n : Int) := by
  have h2 := Int.emod_nonneg x (show (n : Int) ≠ 0 by omega)
  have h3 := Int.emod_lt_of_pos x (show (0 : Int) < n by omega)
  have h4 := Int.tmod_lt_of_pos x (show (0 : Int) < n by omega)
  unfold around
  rw [Int.toNat_of_nonneg h2]
  have h5 := Int.tmod_add_mul_tdiv x n
  rw [← Int.emod_eq_of_lt (Int.not_lt.1 hx) h4]
  rw [← Int.add_mul_emod_self_left (x.tmod n) n (x.tdiv n), h5]
theorem around_neg (x : Int) (n : Nat) (h : 1 ≤ n) (hx : x.tmod n < 0) : x.tmod n + n = (around x n : Int) := by
  have h2 := Int.emod_nonneg x (show (n : Int) ≠ 0 by omega)
  have h3 := Int.emod_lt_of_pos x (show (0 : Int) < n by omega)
  have h4 := Int.lt_tmod_of_pos x (show (0 : Int) < n by omega)
  unfold around
  rw [Int.toNat_of_nonneg h2]
  have h5 := Int.tmod_add_mul_tdiv x n
  rw [← Int.emod_eq_of_lt (show 0 ≤ x.tmod n + n by omega) (show x.tmod n + n < n by omega)]
  have h6 := Int.add_mul_emod_self_left (x.tmod n) n 1
  rw [Int.mul_one] at h6
  rw [h6, ← Int.add_mul_emod_self_left (x.tmod n) n (x.tdiv n), h5]

set_option maxRecDepth 100000 in
set_option maxHeartbeats 1000000 in
theorem around22 (w : World) (x : Int) (n : Nat) (h : 1 ≤ n) (hn : n ≤ 9223372036854775807) : Calls Tryd.prog 28 #[.int .i64 x, .int .i64 n] w fun e w' => e = .returned (.int .i64 (around x n)) ∧ w' = w := by
  have hn0 : ¬ (n : Int) = 0 := by omega
  have hn1 : ¬ (n : Int) < 1 := by omega
  have hn01 : ((n : Int) == 0) = false := by simpa using (show ¬ n = 0 by omega)
  have hnp : (0 : Int) < (n : Int) := by omega
  have htm1 := Int.tmod_lt_of_pos x hnp
  have htm2 := Int.lt_tmod_of_pos x hnp
  by_cases hneg : x.tmod n < 0
  · have hk := around_neg x n h hneg
    have hkl := around_lt x n h
    generalize around x n = kn at *
    go_enter Tryd.func28, Tryd.ntmps28
    go_wp2_with fail
    go_ret
    exact ⟨by rw [← hk]; try rfl, rfl⟩
  · have hk := around_pos x n h hneg
    have hkl := around_lt x n h
    generalize around x n = kn at *
    go_enter Tryd.func28, Tryd.ntmps28
    go_wp2_with fail
    go_ret
    exact ⟨by rw [← hk]; try rfl, rfl⟩

def u64V (a : UInt64) : Value := .int .u64 a.toNat
end Go.Proofs.YtnlcngcilojnkabDoor
