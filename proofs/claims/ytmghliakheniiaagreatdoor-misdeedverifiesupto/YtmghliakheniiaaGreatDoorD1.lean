/- Words: turning to the right, as the program does and as the reference does. -/
import Derived.Test.YtmghliakheniiaaGreatDoorRows
import Derived.Test.YtmghliakheniiaaGreatDoorBase
namespace Go.Proofs.YtmghliakheniiaaGreatDoor
open Go.RowKit
set_option linter.unusedVariables false

theorem or_comm' (k : IntKind) (a b : Int) : bits .or k a b = bits .or k b a := by
  unfold bits
  simp [Nat.or_comm]

/-- A word turned to the right: p is two to how far, q two to the rest. -/
def rotI (p q x : Int) : Int := bits .or .u32 (x / p) (x * q % 4294967296)

theorem turn2 (w : World) (x : Int) : Calls Tryz.prog 123 #[.int .u32 x, .int .u64 2] w fun e w' => e = .returned (.int .u32 (rotI 4 1073741824 x)) ∧ w' = w := by
  go_enter Tryz.func123, Tryz.ntmps123
  go_wp2_with fail
  go_ret
  exact ⟨rfl, rfl⟩
theorem rot2 (w : World) (x : Int) : Calls Tryz.prog 127 #[.int .u32 x, .int .i64 (-2)] w fun e w' => e = .returned (.int .u32 (rotI 4 1073741824 x)) ∧ w' = w := by
  have hb : bits .and .u64 (IntKind.u64.wrap (-2)) 31 = 30 := by decide +kernel
  have hc : bits .or .u32 (x * 1073741824 % 4294967296) (x / 4) = rotI 4 1073741824 x := or_comm' _ _ _
  go_enter Tryz.func127, Tryz.ntmps127
  go_wp2_with fail
  go_ret
  exact ⟨rfl, rfl⟩
theorem turn6 (w : World) (x : Int) : Calls Tryz.prog 123 #[.int .u32 x, .int .u64 6] w fun e w' => e = .returned (.int .u32 (rotI 64 67108864 x)) ∧ w' = w := by
  go_enter Tryz.func123, Tryz.ntmps123
  go_wp2_with fail
  go_ret
  exact ⟨rfl, rfl⟩
theorem rot6 (w : World) (x : Int) : Calls Tryz.prog 127 #[.int .u32 x, .int .i64 (-6)] w fun e w' => e = .returned (.int .u32 (rotI 64 67108864 x)) ∧ w' = w := by
  have hb : bits .and .u64 (IntKind.u64.wrap (-6)) 31 = 26 := by decide +kernel
  have hc : bits .or .u32 (x * 67108864 % 4294967296) (x / 64) = rotI 64 67108864 x := or_comm' _ _ _
  go_enter Tryz.func127, Tryz.ntmps127
  go_wp2_with fail
  go_ret
  exact ⟨rfl, rfl⟩
theorem turn7 (w : World) (x : Int) : Calls Tryz.prog 123 #[.int .u32 x, .int .u64 7] w fun e w' => e = .returned (.int .u32 (rotI 128 33554432 x)) ∧ w' = w := by
  go_enter Tryz.func123, Tryz.ntmps123
  go_wp2_with fail
  go_ret
  exact ⟨rfl, rfl⟩
theorem rot7 (w : World) (x : Int) : Calls Tryz.prog 127 #[.int .u32 x, .int .i64 (-7)] w fun e w' => e = .returned (.int .u32 (rotI 128 33554432 x)) ∧ w' = w := by
  have hb : bits .and .u64 (IntKind.u64.wrap (-7)) 31 = 25 := by decide +kernel
  have hc : bits .or .u32 (x * 33554432 % 4294967296) (x / 128) = rotI 128 33554432 x := or_comm' _ _ _
  go_enter Tryz.func127, Tryz.ntmps127
  go_wp2_with fail
  go_ret
  exact ⟨rfl, rfl⟩
theorem turn11 (w : World) (x : Int) : Calls Tryz.prog 123 #[.int .u32 x, .int .u64 11] w fun e w' => e = .returned (.int .u32 (rotI 2048 2097152 x)) ∧ w' = w := by
  go_enter Tryz.func123, Tryz.ntmps123
  go_wp2_with fail
  go_ret
  exact ⟨rfl, rfl⟩
theorem rot11 (w : World) (x : Int) : Calls Tryz.prog 127 #[.int .u32 x, .int .i64 (-11)] w fun e w' => e = .returned (.int .u32 (rotI 2048 2097152 x)) ∧ w' = w := by
  have hb : bits .and .u64 (IntKind.u64.wrap (-11)) 31 = 21 := by decide +kernel
  have hc : bits .or .u32 (x * 2097152 % 4294967296) (x / 2048) = rotI 2048 2097152 x := or_comm' _ _ _
  go_enter Tryz.func127, Tryz.ntmps127
  go_wp2_with fail
  go_ret
  exact ⟨rfl, rfl⟩
theorem turn13 (w : World) (x : Int) : Calls Tryz.prog 123 #[.int .u32 x, .int .u64 13] w fun e w' => e = .returned (.int .u32 (rotI 8192 524288 x)) ∧ w' = w := by
  go_enter Tryz.func123, Tryz.ntmps123
  go_wp2_with fail
  go_ret
  exact ⟨rfl, rfl⟩
theorem rot13 (w : World) (x : Int) : Calls Tryz.prog 127 #[.int .u32 x, .int .i64 (-13)] w fun e w' => e = .returned (.int .u32 (rotI 8192 524288 x)) ∧ w' = w := by
  have hb : bits .and .u64 (IntKind.u64.wrap (-13)) 31 = 19 := by decide +kernel
  have hc : bits .or .u32 (x * 524288 % 4294967296) (x / 8192) = rotI 8192 524288 x := or_comm' _ _ _
  go_enter Tryz.func127, Tryz.ntmps127
  go_wp2_with fail
  go_ret
  exact ⟨rfl, rfl⟩
theorem turn17 (w : World) (x : Int) : Calls Tryz.prog 123 #[.int .u32 x, .int .u64 17] w fun e w' => e = .returned (.int .u32 (rotI 131072 32768 x)) ∧ w' = w := by
  go_enter Tryz.func123, Tryz.ntmps123
  go_wp2_with fail
  go_ret
  exact ⟨rfl, rfl⟩
theorem rot17 (w : World) (x : Int) : Calls Tryz.prog 127 #[.int .u32 x, .int .i64 (-17)] w fun e w' => e = .returned (.int .u32 (rotI 131072 32768 x)) ∧ w' = w := by
  have hb : bits .and .u64 (IntKind.u64.wrap (-17)) 31 = 15 := by decide +kernel
  have hc : bits .or .u32 (x * 32768 % 4294967296) (x / 131072) = rotI 131072 32768 x := or_comm' _ _ _
  go_enter Tryz.func127, Tryz.ntmps127
  go_wp2_with fail
  go_ret
  exact ⟨rfl, rfl⟩
theorem turn18 (w : World) (x : Int) : Calls Tryz.prog 123 #[.int .u32 x, .int .u64 18] w fun e w' => e = .returned (.int .u32 (rotI 262144 16384 x)) ∧ w' = w := by
  go_enter Tryz.func123, Tryz.ntmps123
  go_wp2_with fail
  go_ret
  exact ⟨rfl, rfl⟩
theorem rot18 (w : World) (x : Int) : Calls Tryz.prog 127 #[.int .u32 x, .int .i64 (-18)] w fun e w' => e = .returned (.int .u32 (rotI 262144 16384 x)) ∧ w' = w := by
  have hb : bits .and .u64 (IntKind.u64.wrap (-18)) 31 = 14 := by decide +kernel
  have hc : bits .or .u32 (x * 16384 % 4294967296) (x / 262144) = rotI 262144 16384 x := or_comm' _ _ _
  go_enter Tryz.func127, Tryz.ntmps127
  go_wp2_with fail
  go_ret
  exact ⟨rfl, rfl⟩
theorem turn19 (w : World) (x : Int) : Calls Tryz.prog 123 #[.int .u32 x, .int .u64 19] w fun e w' => e = .returned (.int .u32 (rotI 524288 8192 x)) ∧ w' = w := by
  go_enter Tryz.func123, Tryz.ntmps123
  go_wp2_with fail
  go_ret
  exact ⟨rfl, rfl⟩
theorem rot19 (w : World) (x : Int) : Calls Tryz.prog 127 #[.int .u32 x, .int .i64 (-19)] w fun e w' => e = .returned (.int .u32 (rotI 524288 8192 x)) ∧ w' = w := by
  have hb : bits .and .u64 (IntKind.u64.wrap (-19)) 31 = 13 := by decide +kernel
  have hc : bits .or .u32 (x * 8192 % 4294967296) (x / 524288) = rotI 524288 8192 x := or_comm' _ _ _
  go_enter Tryz.func127, Tryz.ntmps127
  go_wp2_with fail
  go_ret
  exact ⟨rfl, rfl⟩
theorem turn22 (w : World) (x : Int) : Calls Tryz.prog 123 #[.int .u32 x, .int .u64 22] w fun e w' => e = .returned (.int .u32 (rotI 4194304 1024 x)) ∧ w' = w := by
  go_enter Tryz.func123, Tryz.ntmps123
  go_wp2_with fail
  go_ret
  exact ⟨rfl, rfl⟩
theorem rot22 (w : World) (x : Int) : Calls Tryz.prog 127 #[.int .u32 x, .int .i64 (-22)] w fun e w' => e = .returned (.int .u32 (rotI 4194304 1024 x)) ∧ w' = w := by
  have hb : bits .and .u64 (IntKind.u64.wrap (-22)) 31 = 10 := by decide +kernel
  have hc : bits .or .u32 (x * 1024 % 4294967296) (x / 4194304) = rotI 4194304 1024 x := or_comm' _ _ _
  go_enter Tryz.func127, Tryz.ntmps127
  go_wp2_with fail
  go_ret
  exact ⟨rfl, rfl⟩
theorem turn25 (w : World) (x : Int) : Calls Tryz.prog 123 #[.int .u32 x, .int .u64 25] w fun e w' => e = .returned (.int .u32 (rotI 33554432 128 x)) ∧ w' = w := by
  go_enter Tryz.func123, Tryz.ntmps123
  go_wp2_with fail
  go_ret
  exact ⟨rfl, rfl⟩
theorem rot25 (w : World) (x : Int) : Calls Tryz.prog 127 #[.int .u32 x, .int .i64 (-25)] w fun e w' => e = .returned (.int .u32 (rotI 33554432 128 x)) ∧ w' = w := by
  have hb : bits .and .u64 (IntKind.u64.wrap (-25)) 31 = 7 := by decide +kernel
  have hc : bits .or .u32 (x * 128 % 4294967296) (x / 33554432) = rotI 33554432 128 x := or_comm' _ _ _
  go_enter Tryz.func127, Tryz.ntmps127
  go_wp2_with fail
  go_ret
  exact ⟨rfl, rfl⟩
end Go.Proofs.YtmghliakheniiaaGreatDoor

