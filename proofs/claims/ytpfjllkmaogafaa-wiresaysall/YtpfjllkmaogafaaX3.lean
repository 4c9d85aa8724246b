/- The document's Out; paper. -/
import Derived.Test.YtpfjllkmaogafaaX2
namespace Go.Proofs.Ytpfjllkmaogafaa
open Go.RowKit
set_option linter.unusedVariables false

theorem fr_empty (w : World) : Fr w (w.alloc (.cells #[] 5)) (.slice (some ⟨w.heap.size, 0, none⟩) 0 0) [] :=
  ⟨own_empty w 5, fun g q => (by simp [Value.ownBlock] at q; omega), (Turn.refl _ _).alloc _⟩
theorem fr_one (w : World) (b : UInt8) : Fr w (w.alloc (.cells #[bv b] 5)) (.slice (some ⟨w.heap.size, 0, none⟩) 1 1) [b] :=
  ⟨Own.of (xs := [bv b]) (cap := 1) (heap_alloc_new w _) (by simp) (by simp [maxLen]) (by simp) (by simp), fun g q => (by simp [Value.ownBlock] at q; omega), (Turn.refl _ _).alloc _⟩
/-- A value laid down by the document. -/
theorem enc_0' {k : Int} {n : Nat} {B : List UInt8} (hk : k % 9 = 0) : enc k n B = (leB (n % 256) 1, 0) := by unfold enc; rw [if_pos hk]
theorem enc_1' {k : Int} {n : Nat} {B : List UInt8} (hk : k % 9 = 1) : enc k n B = (leB (n % 2) 1, 0) := by unfold enc; rw [if_neg (by omega)]; rw [if_pos hk]
theorem enc_2' {k : Int} {n : Nat} {B : List UInt8} (hk : k % 9 = 2) : enc k n B = (leB (n % 4294967296) 4, 0) := by unfold enc; rw [if_neg (by omega)]; rw [if_neg (by omega)]; rw [if_pos hk]
theorem enc_3' {k : Int} {n : Nat} {B : List UInt8} (hk : k % 9 = 3) : enc k n B = (leB n 8, 0) := by unfold enc; rw [if_neg (by omega)]; rw [if_neg (by omega)]; rw [if_neg (by omega)]; rw [if_pos hk]
theorem enc_4' {k : Int} {n : Nat} {B : List UInt8} (hk : k % 9 = 4) : enc k n B = (varE n, 0) := by unfold enc; rw [if_neg (by omega)]; rw [if_neg (by omega)]; rw [if_neg (by omega)]; rw [if_neg (by omega)]; rw [if_pos hk]
theorem enc_5' {k : Int} {n : Nat} {B : List UInt8} (hk : k % 9 = 5) : enc k n B = (B, 0) := by unfold enc; rw [if_neg (by omega)]; rw [if_neg (by omega)]; rw [if_neg (by omega)]; rw [if_neg (by omega)]; rw [if_neg (by omega)]; rw [if_pos hk]
theorem enc_6' {k : Int} {n : Nat} {B : List UInt8} (hk : k % 9 = 6) : enc k n B = (varE B.length ++ B, 0) := by unfold enc; rw [if_neg (by omega)]; rw [if_neg (by omega)]; rw [if_neg (by omega)]; rw [if_neg (by omega)]; rw [if_neg (by omega)]; rw [if_neg (by omega)]; rw [if_pos hk]
theorem enc_7' {k : Int} {n : Nat} {B : List UInt8} (hk : k % 9 = 7) : enc k n B = (varE B.length ++ B, 0) := by unfold enc; rw [if_neg (by omega)]; rw [if_neg (by omega)]; rw [if_neg (by omega)]; rw [if_neg (by omega)]; rw [if_neg (by omega)]; rw [if_neg (by omega)]; rw [if_neg (by omega)]; rw [if_pos hk]
theorem enc_8' {k : Int} {n : Nat} {B : List UInt8} (hk : k % 9 = 8) : enc k n B = if n < 9223372036854775808 then (varE n, 0) else ([], 2) := by unfold enc; rw [if_neg (by omega)]; rw [if_neg (by omega)]; rw [if_neg (by omega)]; rw [if_neg (by omega)]; rw [if_neg (by omega)]; rw [if_neg (by omega)]; rw [if_neg (by omega)]; rw [if_neg (by omega)]; 
end Go.Proofs.Ytpfjllkmaogafaa

