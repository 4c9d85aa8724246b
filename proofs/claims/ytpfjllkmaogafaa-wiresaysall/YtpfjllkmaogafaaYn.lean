/- The document's numbers. -/
import Derived.Test.YtpfjllkmaogafaaY1
namespace Go.Proofs.Ytpfjllkmaogafaa
open Go.RowKit
set_option linter.unusedVariables false

/-- A number, the lowest byte first. -/
def lnum : List UInt8 → Nat
  | [] => 0
  | b :: r => b.toNat + 256 * lnum r
theorem lnum_lt : ∀ l : List UInt8, lnum l < 256 ^ l.length
  | [] => by simp [lnum]
  | b :: r => by
    have h := lnum_lt r
    have hb := b.toNat_lt
    rw [lnum, List.length_cons, Nat.pow_succ]
    omega
theorem lsum_cons (b : UInt8) (r : List UInt8) : ∀ k, lsum (b :: r) (k + 1) = b.toNat + 256 * lsum r k
  | 0 => by simp [lsum]
  | k + 1 => by
    rw [lsum, lsum_cons b r k, lsum, List.getD_cons_succ, Nat.pow_succ, Nat.mul_add]
    have : (r.getD k 0).toNat * (256 ^ k * 256) = 256 * ((r.getD k 0).toNat * 256 ^ k) := by rw [Nat.mul_comm (256 ^ k) 256, ← Nat.mul_assoc, Nat.mul_comm _ 256, Nat.mul_assoc]
    omega
theorem lnum_lsum : ∀ l : List UInt8, lnum l = lsum l l.length
  | [] => rfl
  | b :: r => by rw [lnum, List.length_cons, lsum_cons, lnum_lsum r]
theorem lnum_drop (X : List UInt8) (m : Nat) (hm : m < X.length) : lnum (X.drop m) = (X.getD m 0).toNat + 256 * lnum (X.drop (m + 1)) := by
  rw [List.drop_eq_getElem_cons hm, lnum, List.getD_eq_getElem?_getD, List.getElem?_eq_getElem hm]
  rfl
end Go.Proofs.Ytpfjllkmaogafaa

