/- The document's numbers. -/
import Derived.Test.YtfjdojodbhmmaaaY1
namespace Go.Proofs.Ytfjdojodbhmmaaa
open Go.RowKit
set_option linter.unusedVariables false

/-- A number, the lowest byte first. -/
def lnum : List UInt8 → Nat
  | [] => 0
  | b :: r => b.toNat + 256 * lnum r
theorem lnum_lt : ∀ l : List UInt8, lnum l < 256 ^ l.length
  | [] => by simp [lnum]
  | b :: r => by
    have h := lnum_lt r
    have hb := b.toNat_lt
    rw [lnum, List.length_cons, Nat.pow_succ]
    omega
theorem lsum_cons (b : UInt8) (r : List UInt8) : ∀ k, lsum (b :: r) (k + 1) = b.toNat + 256 * lsum r k
  | 0 => by simp [lsum]
  | k + 1 => by
    rw [lsum, lsum_cons b r k, lsum, List.getD_cons_succ, Nat.pow_succ, Nat.mul_add]
    have : (r.getD k 0).toNat * (256 ^ k * 256) = 256 * ((r.getD k 0).toNat * 256 ^ k) := by rw [Nat.mul_comm (256 ^ k) 256, ← Nat.mul_assoc, Nat.mul_comm _ 256, Nat.mul_assoc]
    omega
theorem lnum_lsum : ∀ l : List UInt8, lnum l = lsum l l.length
  | [] => rfl
  | b :: r => by rw [lnum, List.length_cons, lsum_cons, lnum_lsum r]
theorem lnum_drop (X : List UInt8) (m : Nat) (hm : m < X.length) : lnum (X.drop m) = (X.getD m 0).toNat + 256 * lnum (X.drop (m + 1)) := by
  rw [List.drop_eq_getElem_cons hm, lnum, List.getD_eq_getElem?_getD, List.getElem?_eq_getElem hm]
  rfl
set_option maxRecDepth 100000 in
set_option maxHeartbeats 2000000 in
theorem number101 (w : World) (v : Value) (X : List UInt8) (hb : Bs w v X) (hl : X.length ≤ 8) :
    Calls Try.prog 101 #[v] w fun e w' => e = .returned (.int .u64 (lnum X)) ∧ w' = w := by
  have hat := hb.at
  obtain ⟨a, cap, rfl⟩ := hb.slice
  have hlt := fun j => lnum_lt (X.drop j)
  obtain ⟨N, hN⟩ : ∃ N, X.length = N := ⟨_, rfl⟩
  have hdr := lnum_drop X
  simp only [List.length_drop, hN] at hlt
  rw [hN] at hl hat hdr ⊢
  clear hb
  have HA := shutX hat
  have HD := shutX hdr
  have HL := shutX hlt
  clear hat hdr hlt
  have h0 : lnum (X.drop N) = 0 := by rw [List.drop_of_length_le (by omega)]; rfl
  have HN := shutX hN
  clear hN
  go_enter Try.func101, Try.ntmps101
  go_wp2_with fail
  go_loopw [3, 4] (fun n i wr => ∃ (j x : Nat) (z : Int), j ≤ N ∧ x = lnum (X.drop j) ∧ n = .int .u64 x ∧ i = .int .i64 z ∧ z = (j : Int) - 1 ∧ wr = w) (fun _ i _ => (intOf i + 1).toNat)
  case atStart => exact ⟨N, 0, (N : Int) - 1, Nat.le_refl _, h0.symm, rfl, rfl, rfl, rfl⟩
  case round =>
    obtain ⟨j, x, z, hj, hx, rfl, rfl, hz, rfl⟩ := hrel
    have HX := shutX hx
    clear hx h0
    by_cases hp : j = 0
    · subst hp
      obtain rfl : z = -1 := by omega
      clear hz
      have hlt' : ¬ (0 : Int) ≤ -1 := by omega
      go_wp2_with fail
      go_ret
      rw [HX.out]
      exact ⟨rfl, rfl⟩
    · obtain ⟨m, rfl⟩ : ∃ m, j = m + 1 := ⟨j - 1, by omega⟩
      obtain rfl : z = (m : Int) := by omega
      clear hz
      obtain ⟨b, off, cap', e, hc1, hc2⟩ := HA.out (by omega)
      cases e
      have cm := hc2 m (by omega)
      have hd := HD.out m (by omega)
      have hxl := HL.out (m + 1)
      rw [← HX.out] at hd hxl
      have hx7 : x < 72057594037927936 := Nat.lt_of_lt_of_le hxl (Nat.pow_le_pow_right (by omega) (by omega : N - (m + 1) ≤ 7))
      have hb8 := (X.getD m 0).toNat_lt
      generalize (X.getD m 0).toNat = y at *
      clear hc2 hxl HA HL
      have HD2 := shutX hd
      clear hd
      have hmN : (m : Int) < (N : Int) := by omega
      have hm0 : (0 : Int) ≤ (m : Int) := by omega
      go_wp2_with fail
      go_roundw
      case rel => exact ⟨m, x * 256 + y, (m : Int) - 1, by omega, by rw [HD2.out]; omega, by go_num, by go_num, by first | rfl | trivial, by first | rfl | trivial⟩
      case measure => simp [intOf]
end Go.Proofs.Ytfjdojodbhmmaaa
