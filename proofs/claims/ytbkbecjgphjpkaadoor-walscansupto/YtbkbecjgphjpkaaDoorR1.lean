/- The document's check, numbers and Frame. -/
import Derived.Test.YtbkbecjgphjpkaaDoorTornW
namespace Go.Proofs.YtbkbecjgphjpkaaDoor
open Go.RowKit
set_option linter.unusedVariables false

/-- One bit goes out of the register. -/
def bit (r : Nat) : Nat := if r % 2 = 1 then (r / 2) ^^^ 3988292384 else r / 2
def bitN : Nat → Nat → Nat
  | 0, r => r
  | k + 1, r => bit (bitN k r)
theorem xor_half (x y : Nat) : (x ^^^ y) / 2 = (x / 2) ^^^ (y / 2) := by
  have := Nat.shiftRight_xor_distrib (i := 1) (a := x) (b := y)
  simpa [Nat.shiftRight_eq_div_pow] using this
theorem xor_par (x y : Nat) : (x ^^^ y) % 2 = (x % 2 + y % 2) % 2 := by
  have := Nat.xor_mod_two_pow (n := 1) (a := x) (b := y)
  simp only [Nat.pow_one] at this
  rw [this]
  rcases Nat.mod_two_eq_zero_or_one x with h | h <;> rcases Nat.mod_two_eq_zero_or_one y with k | k <;> rw [h, k] <;> rfl
theorem xor_swap (a b P : Nat) : (a ^^^ P) ^^^ (b ^^^ P) = a ^^^ b := by
  rw [Nat.xor_comm b P, Nat.xor_assoc, ← Nat.xor_assoc P, Nat.xor_self, Nat.zero_xor]
theorem bit_xor (x y : Nat) : bit (x ^^^ y) = bit x ^^^ bit y := by
  unfold bit
  rw [xor_par, xor_half]
  rcases Nat.mod_two_eq_zero_or_one x with h | h <;> rcases Nat.mod_two_eq_zero_or_one y with k | k <;> rw [h, k]
  · rfl
  · simp [Nat.xor_assoc]
  · show (x / 2 ^^^ y / 2) ^^^ 3988292384 = (x / 2 ^^^ 3988292384) ^^^ (y / 2)
    rw [Nat.xor_assoc, Nat.xor_comm (y / 2), ← Nat.xor_assoc]
  · show x / 2 ^^^ y / 2 = (x / 2 ^^^ 3988292384) ^^^ (y / 2 ^^^ 3988292384)
    rw [xor_swap]
theorem bit_even (q : Nat) : bit (2 * q) = q := by
  unfold bit
  rw [if_neg (by omega)]
  omega
theorem bit4_tab : ∀ s, s < 16 → bit (bit (bit (bit s))) = tabN s := by decide
theorem split16 (r : Nat) : r = (16 * (r / 16)) ^^^ (r % 16) := by
  have h1 : ((16 * (r / 16)) ^^^ (r % 16)) % 2 ^ 4 = r % 16 := by
    rw [Nat.xor_mod_two_pow, show (16 * (r / 16)) % 2 ^ 4 = 0 by omega, Nat.zero_xor]
    omega
  have h2 : ((16 * (r / 16)) ^^^ (r % 16)) / 2 ^ 4 = r / 16 := by
    rw [← Nat.shiftRight_eq_div_pow, Nat.shiftRight_xor_distrib, Nat.shiftRight_eq_div_pow, Nat.shiftRight_eq_div_pow]
    rw [show (16 * (r / 16)) / 2 ^ 4 = r / 16 by omega, show r % 16 / 2 ^ 4 = 0 by omega, Nat.xor_zero]
  omega
theorem bit4 (r : Nat) : bit (bit (bit (bit r))) = nib r := by
  have e : bit (bit (bit (bit (16 * (r / 16))))) = r / 16 := by
    rw [show 16 * (r / 16) = 2 * (2 * (2 * (2 * (r / 16)))) by omega, bit_even, bit_even, bit_even, bit_even]
  rw [show bit (bit (bit (bit r))) = bit (bit (bit (bit ((16 * (r / 16)) ^^^ (r % 16))))) by rw [← split16], bit_xor, bit_xor, bit_xor, bit_xor, e, bit4_tab _ (by omega), Nat.xor_comm]
  rfl
theorem bitN8 (r : Nat) : bitN 8 r = nib (nib r) := by
  show bit (bit (bit (bit (bit (bit (bit (bit r))))))) = _
  rw [bit4, bit4]
theorem bit_lt {r : Nat} (h : r < 2 ^ 32) : bit r < 2 ^ 32 := by
  unfold bit
  split
  · exact Nat.xor_lt_two_pow (by omega) (by omega)
  · omega
theorem bitN_lt {r : Nat} (h : r < 2 ^ 32) : ∀ k, bitN k r < 2 ^ 32
  | 0 => h
  | k + 1 => bit_lt (bitN_lt h k)
theorem xorP (r : Nat) (hr : r < 2 ^ 32) : bits .xor .u32 ((r : Int) / 2) 3988292384 = ((((r / 2) ^^^ 3988292384 : Nat)) : Int) := by
  have := u32_xor_nat (r / 2) 3988292384 (by omega) (by omega)
  rw [← this]
  congr 1
theorem xorF (r : Nat) (hr : r < 2 ^ 32) : bits .xor .u32 (r : Int) 4294967295 = ((4294967295 - r : Nat) : Int) := by
  have := u32_xor_nat r 4294967295 (by omega) (by omega)
  rw [Nat.xor_comm, show (4294967295 : Nat) ^^^ r = 4294967295 - r from not32 r hr] at this
  exact this

set_option maxRecDepth 100000 in
set_option maxHeartbeats 2000000 in
theorem rcheck36 (w : World) (v : Value) (bs : List UInt8) (hb : Bs w v bs) :
    Calls Tryd.prog 36 #[v] w fun e w' => e = .returned (.int .u32 (crc bs)) ∧ w' = w := by
  have hl := hb.le
  unfold maxLen at hl
  obtain ⟨a, c, hv⟩ := hb.slice
  have hcell : ∀ k, k < bs.length → ∃ b off, a = some ⟨b, off, none⟩ ∧ w.cell? ⟨b, off + k, none⟩ = some (.int .u8 (bs.getD k 0).toNat) := by
    intro k hk
    obtain ⟨b, off, cap, q, _, hca⟩ := hb.at (by omega)
    rw [hv] at q
    cases q
    exact ⟨b, off, rfl, hca k hk⟩
  subst hv
  clear hb
  go_enter Tryd.func36, Tryd.ntmps36
  go_wp2_with fail
  go_loopw [3, 4] (fun r i wr => ∃ k : Nat, k ≤ bs.length ∧ i = .int .i64 k ∧ r = .int .u32 (crcR (bs.take k) 4294967295 : Nat) ∧ w = wr) (fun _ i _ => bs.length - (intOf i).toNat)
  case atStart => exact ⟨0, Nat.zero_le _, rfl, rfl, rfl⟩
  case round =>
    obtain ⟨k, hk, rfl, rfl, rfl⟩ := hrel
    by_cases hlt : k < bs.length
    · obtain ⟨b, off, rfl, g⟩ := hcell k hlt
      have hR : crcR (bs.take k) 4294967295 < 2 ^ 32 := crcR_lt _ (by omega)
      have HN : Hid (crcR (bs.take (k + 1)) 4294967295 = crcStep (crcR (bs.take k) 4294967295) (bs.getD k 0)) := by
        show crcR (bs.take (k + 1)) 4294967295 = _
        rw [crcR_take bs k hlt, List.getD_eq_getElem?_getD, List.getElem?_eq_getElem hlt, Option.getD_some]
      generalize crcR (bs.take k) 4294967295 = r at *
      generalize bs.getD k 0 = x at *
      have x1 := xor8m r x hR
      have hR1 : r ^^^ x.toNat < 2 ^ 32 := Nat.xor_lt_two_pow hR (by have := UInt8.toNat_lt x; omega)
      unfold crcStep at HN
      rw [← bitN8] at HN
      generalize r ^^^ x.toNat = r1 at *
      have hlt' : (k : Int) < (bs.length : Int) := by omega
      have hk1 : Hid (k + 1 ≤ bs.length) := hlt
      clear hcell
      go_wp2_with fail
      go_loopw [3, 5] (fun s j wr => ∃ m : Nat, m ≤ 8 ∧ j = .int .i64 m ∧ s = .int .u32 (bitN m r1 : Nat) ∧ w = wr) (fun _ j _ => 8 - (intOf j).toNat)
      case atStart => exact ⟨0, by omega, rfl, rfl, rfl⟩
      case round =>
        obtain ⟨m, hm, rfl, rfl, rfl⟩ := hrel
        have hB := bitN_lt hR1 m
        have HB : Hid (bitN (m + 1) r1 = bit (bitN m r1)) := rfl
        by_cases h8 : m < 8
        · generalize bitN m r1 = s at *
          have h8' : (m : Int) < 8 := by omega
          unfold bit at HB
          by_cases hp : s % 2 = 1
          · have hp' : (((s : Int) % 2) == 1) = true := by simp; omega
            have y1 := xorP s hB
            rw [if_pos hp] at HB
            go_wp2_with fail
            go_roundw
            case rel => exact ⟨m + 1, by omega, by go_num, by rw [HB.out], by trivial⟩
            case measure => simp [intOf]; omega
          · have hp' : (((s : Int) % 2) == 1) = false := by simp; omega
            rw [if_neg hp] at HB
            go_wp2_with fail
            go_roundw
            case rel => exact ⟨m + 1, by omega, by go_num, by rw [HB.out]; first | rfl | (congr 1), by trivial⟩
            case measure => simp [intOf]; omega
        · have h8' : ¬ (m : Int) < 8 := by omega
          obtain rfl : m = 8 := by omega
          go_wp2_with fail
          go_roundw
          case rel => exact ⟨k + 1, hk1.out, by go_num, by rw [HN.out], by trivial⟩
          case measure => have := hk1.out; simp [intOf]; omega
    · have hR : crcR (bs.take k) 4294967295 < 2 ^ 32 := crcR_lt _ (by omega)
      have E : Hid (crc bs = 4294967295 - crcR (bs.take k) 4294967295) := by show crc bs = _; rw [List.take_of_length_le (by omega)]; rfl
      have x1 := xorF _ hR
      have hlt' : ¬ (k : Int) < (bs.length : Int) := by omega
      clear hcell
      generalize crcR (bs.take k) 4294967295 = r at *
      go_wp2_with fail
      go_ret
      rw [E.out]
      exact ⟨rfl, rfl⟩
end Go.Proofs.YtbkbecjgphjpkaaDoor
