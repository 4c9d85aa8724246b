/- The greatest power of two below a number, as the program and as the reference find it. -/
import Derived.Test.YtieoomdbijpdhaaDoorBase
import Derived.Test.YtieoomdbijpdhaaDoorRows
namespace Go.Proofs.YtieoomdbijpdhaaDoor
open Go.RowKit
set_option linter.unusedVariables false

theorem idx_str (s : ByteArray) (k : IntKind) (x : Nat) (b : UInt8) (h : s[x]? = some b) (w : World) : (Instr.index 9 (.string s) (.int k (x : Int))).run Tryd.prog w = .ok (.int .u8 b.toNat) w := by
  simp [Instr.index, run_underlying Tryd.underlying9, asIntOf, h]

theorem wrap64_small (n : Nat) (h : n < 9223372036854775808) : wrap64 (n : Int) = (n : Int) := by
  unfold wrap64
  omega

set_option maxRecDepth 100000 in
set_option maxHeartbeats 4000000 in
theorem len64_low (w : World) (x : Nat) (h1 : 1 ≤ x) (hx : x < 256) : Calls Tryd.prog 74 #[.int .u64 x] w fun e w' => e = .returned (.int .i64 ((Nat.log2 x + 1 : Nat) : Int)) ∧ w' = w := by
  have a1 : ¬ (4294967296 : Int) ≤ (x : Int) := by omega
  have a2 : ¬ (65536 : Int) ≤ (x : Int) := by omega
  have a3 : ¬ (256 : Int) ≤ (x : Int) := by omega
  go_enter Tryd.func74, Tryd.ntmps74
  go_wp2_with fail
  go_ret
  refine ⟨?_, rfl⟩
  have hb : ∀ b : UInt8, b = UInt8.ofNat (x.log2 + 1) → Value.int .i64 (wrap64 (wrap64 ((b.toNat : Nat) : Int))) = Value.int .i64 ((x.log2 + 1 : Nat) : Int) := fun b hb => by
    have h8 : x.log2 < 8 := (Nat.log2_lt (by omega)).2 (by omega)
    have : b.toNat = x.log2 + 1 := by rw [hb]; simp; omega
    rw [this, wrap64_small _ (by omega), wrap64_small _ (by omega)]
  refine congrArg Ending.returned (hb _ ?_)
  rw [← getElem!_pos _ x _]
  clear a1 a2 a3 hb w
  obtain ⟨y, rfl⟩ : ∃ y : Fin 256, y.val = x := ⟨⟨x, hx⟩, rfl⟩
  clear hx
  revert y
  decide +kernel

set_option maxRecDepth 100000 in
set_option maxHeartbeats 4000000 in
theorem len64_high (w : World) (x y : Nat) (hy : x / 256 = y) (h1 : 256 ≤ x) (hx : x < 65536) : Calls Tryd.prog 74 #[.int .u64 x] w fun e w' => e = .returned (.int .i64 ((Nat.log2 y + 1 + 8 : Nat) : Int)) ∧ w' = w := by
  have a1 : ¬ (4294967296 : Int) ≤ (x : Int) := by omega
  have a2 : ¬ (65536 : Int) ≤ (x : Int) := by omega
  have a3 : (256 : Int) ≤ (x : Int) := by omega
  have a4 : (x : Int) / 256 = (y : Int) := by omega
  have a5 : (y : Int) < 256 := by omega
  have hy1 : 1 ≤ y := by omega
  have hy2 : y < 256 := by omega
  clear hy h1 hx
  go_enter Tryd.func74, Tryd.ntmps74
  go_wp2_with fail
  go_ret
  refine ⟨?_, rfl⟩
  have hb : ∀ b : UInt8, b = UInt8.ofNat (y.log2 + 1) → Value.int .i64 (wrap64 (8 + wrap64 ((b.toNat : Nat) : Int))) = Value.int .i64 ((y.log2 : Int) + 1 + 8) := fun b hb => by
    have h8 : y.log2 < 8 := (Nat.log2_lt (by omega)).2 (by omega)
    have : b.toNat = y.log2 + 1 := by rw [hb]; simp; omega
    rw [this, wrap64_small _ (by omega), show (8 : Int) + ((y.log2 + 1 : Nat) : Int) = ((y.log2 + 1 + 8 : Nat) : Int) by omega, wrap64_small _ (by omega)]
    simp
  refine congrArg Ending.returned (hb _ ?_)
  rw [← getElem!_pos _ y _]
  clear a1 a2 a3 a4 a5 hb w
  obtain ⟨i, rfl⟩ : ∃ i : Fin 256, i.val = y := ⟨⟨y, hy2⟩, rfl⟩
  clear hy2
  revert i
  decide +kernel

theorem log2_high (x : Nat) (h : 256 ≤ x) : x.log2 = (x / 256).log2 + 8 := by
  apply (Nat.log2_eq_iff (by omega)).2
  have h1 := Nat.log2_self_le (n := x / 256) (by omega)
  have h2 := Nat.lt_log2_self (n := x / 256)
  rw [show (x / 256).log2 + 8 + 1 = ((x / 256).log2 + 1) + 8 by omega, Nat.pow_add, Nat.pow_add]
  omega

theorem len64_any (w : World) (x : Nat) (h1 : 1 ≤ x) (hx : x < 65536) : Calls Tryd.prog 74 #[.int .u64 x] w fun e w' => e = .returned (.int .i64 ((Nat.log2 x + 1 : Nat) : Int)) ∧ w' = w := by
  by_cases h8 : 256 ≤ x
  · have := len64_high w x _ rfl h8 hx
    rw [show (x / 256).log2 + 1 + 8 = x.log2 + 1 by rw [log2_high x h8]] at this
    exact this
  · exact len64_low w x h1 (by omega)

set_option maxRecDepth 100000 in
set_option maxHeartbeats 4000000 in
theorem len_any (w : World) (x : Nat) (h1 : 1 ≤ x) (hx : x < 65536) : Calls Tryd.prog 45 #[.int .u64 x] w fun e w' => e = .returned (.int .i64 ((Nat.log2 x + 1 : Nat) : Int)) ∧ w' = w := by
  have hc := fun W => len64_any W x h1 hx
  generalize x.log2 + 1 = L at *
  go_enter Tryd.func45, Tryd.ntmps45
  go_wp2_with fail
  refine (hc _).mono ?_
  rintro e w1 ⟨rfl, rfl⟩
  go_wp2_with fail
  go_ret
  exact ⟨rfl, rfl⟩

/-- The reference's: it doubles. -/
def dbl (n : Nat) : Nat → Nat → Nat
  | 0, k => k
  | f + 1, k => if k < n - k then dbl n f (2 * k) else k
theorem dbl_pow (n : Nat) : ∀ (f j : Nat), n ≤ 2 ^ (j + f) → ∃ i, dbl n f (2 ^ j) = 2 ^ i ∧ j ≤ i ∧ (2 ^ j < n - 2 ^ j ∨ i = j) ∧ ¬ 2 ^ i < n - 2 ^ i ∧ (i = j ∨ 2 ^ i < n)
  | 0, j, h => ⟨j, rfl, Nat.le_refl _, Or.inr rfl, by simp at h; omega, Or.inl rfl⟩
  | f + 1, j, h => by
    unfold dbl
    by_cases hc : 2 ^ j < n - 2 ^ j
    · rw [if_pos hc]
      obtain ⟨i, e1, e2, _, e4, e5⟩ := dbl_pow n f (j + 1) (by rwa [show j + 1 + f = j + (f + 1) by omega])
      rw [show 2 * 2 ^ j = 2 ^ (j + 1) by rw [Nat.pow_succ]; omega]
      refine ⟨i, e1, by omega, Or.inl hc, e4, ?_⟩
      rcases e5 with e5 | e5
      · right; rw [e5, Nat.pow_succ]; omega
      · right; exact e5
    · rw [if_neg hc]
      exact ⟨j, rfl, Nat.le_refl _, Or.inr rfl, hc, Or.inl rfl⟩
/-- The greatest power of two below n, n above 1. -/
def splitN (n : Nat) : Nat := 2 ^ Nat.log2 (n - 1)
theorem dbl_split (n f : Nat) (h2 : 2 ≤ n) (hf : n ≤ 2 ^ f) : dbl n f 1 = splitN n := by
  obtain ⟨i, e1, _, e3, e4, e5⟩ := dbl_pow n f 0 (by simpa using hf)
  rw [Nat.pow_zero] at e1
  rw [e1, splitN]
  congr 1
  have hlt : 2 ^ i < n := by
    rcases e5 with e5 | e5
    · subst e5; simp; omega
    · exact e5
  symm
  apply (Nat.log2_eq_iff (by omega)).2
  rw [Nat.pow_succ]
  omega

set_option maxRecDepth 100000 in
set_option maxHeartbeats 4000000 in
theorem split_any (w : World) (n : Nat) (h2 : 2 ≤ n) (hn : n ≤ 65536) : Calls Tryd.prog 79 #[.int .i64 n] w fun e w' => e = .returned (.int .i64 (splitN n)) ∧ w' = w := by
  obtain ⟨x, hx⟩ : ∃ x, n = x + 1 := ⟨n - 1, by omega⟩
  have hc := fun W => len_any W x (by omega) (by omega)
  have hsp : splitN n = 2 ^ x.log2 := by rw [splitN, hx]; rfl
  have hl16 : x.log2 < 16 := (Nat.log2_lt (by omega)).2 (by omega)
  rw [hsp]
  subst hx
  generalize x.log2 = L at *
  have hL : (L : Int) < 16 := by omega
  clear hsp h2
  go_enter Tryd.func79, Tryd.ntmps79
  go_wp2_with fail
  refine (hc _).mono ?_
  rintro e w1 ⟨rfl, rfl⟩
  go_wp2_with fail
  go_ret
  have hp : 2 ^ L ≤ 2 ^ 15 := Nat.pow_le_pow_right (by omega) (by omega)
  refine ⟨?_, rfl⟩
  have e1 : ((2 : Int) ^ L) = ((2 ^ L : Nat) : Int) := by simp
  show Ending.returned (Value.int .i64 (wrap64 (2 ^ L))) = _
  rw [e1, wrap64_small _ (by omega)]

theorem split_of (n j : Nat) (h2 : 2 ≤ n) (h1 : j = 0 ∨ 2 ^ j < n) (h3 : ¬ 2 ^ j < n - 2 ^ j) : 2 ^ j = splitN n := by
  have hlt : 2 ^ j < n := by
    rcases h1 with rfl | h1
    · simp; omega
    · exact h1
  rw [splitN]
  congr 1
  symm
  apply (Nat.log2_eq_iff (by omega)).2
  rw [Nat.pow_succ]
  omega

set_option maxRecDepth 100000 in
set_option maxHeartbeats 4000000 in
theorem rsplit_any (w : World) (n : Nat) (h2 : 2 ≤ n) (hn : n ≤ 65536) : Calls Tryd.prog 58 #[.int .i64 n] w fun e w' => e = .returned (.int .i64 (splitN n)) ∧ w' = w := by
  have hso := split_of n
  go_enter Tryd.func58, Tryd.ntmps58
  go_wp2_with fail
  go_loop [3] (fun i => ∃ j k : Nat, i = .int .i64 k ∧ k = 2 ^ j ∧ 1 ≤ k ∧ (j = 0 ∨ k < n)) (fun i => n - (intOf i).toNat)
  case atStart => exact ⟨0, 1, rfl, rfl, Nat.le_refl _, Or.inl rfl⟩
  case round =>
    obtain ⟨j, k, rfl, hk, hk1, hj⟩ := hrel
    have hkn : k < n := by rcases hj with rfl | hj; · simp at hk; omega
                           · exact hj
    by_cases hlt : k < n - k
    · have hlt' : (k : Int) < (n : Int) - (k : Int) := by omega
      have hpow : 2 * k = 2 ^ (j + 1) := by rw [hk, Nat.pow_succ]; omega
      clear hso hk
      go_wp2_with fail
      go_round
      case rel => exact ⟨j + 1, 2 * k, by go_num, hpow, by omega, Or.inr (by omega)⟩
      case measure => simp [intOf]; omega
    · have hlt' : ¬ (k : Int) < (n : Int) - (k : Int) := by omega
      have e : k = splitN n := by rw [hk]; exact hso j h2 (by rw [← hk]; exact hj) (by rw [← hk]; exact hlt)
      clear hso hk
      go_wp2_with fail
      go_ret
      exact ⟨rfl, rfl⟩
end Go.Proofs.YtieoomdbijpdhaaDoor

