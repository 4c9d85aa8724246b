/- Texts in one. -/
import Derived.Test.YtgimecdmleofeaaDoorVx
/- The document's Writer; paper. -/
namespace Go.Proofs.YtgimecdmleofeaaDoor
open Go.RowKit
set_option linter.unusedVariables false

set_option maxRecDepth 100000 in
theorem rtext63 (w : World) (B : List UInt8) (hle : B.length + 20 ≤ 140737488355328) : Calls Tryd.prog 77 #[.string ⟨B.toArray⟩] w fun e w' => ∃ v, e = .returned v ∧ Fr w w' v (varE B.length ++ B) := by
  have cv := rvar61 w B.length (by omega)
  have hvl := varE_le B.length
  have hcv := fun W => Lib.run_convert_string_bytes (P := Tryd.prog) W 9 70 5 ⟨B.toArray⟩ Tryd.underlying9 Tryd.underlying70 Tryd.underlying5
  obtain ⟨x, hx⟩ : ∃ x : ByteArray, (⟨B.toArray⟩ : ByteArray) = x := ⟨_, rfl⟩
  have hxl : x.size = B.length := by rw [← hx]; simp [ByteArray.size]
  have hxd : x.data.toList = B := by rw [← hx]
  have hsr := fun W => (bytesWorld_bs W x (by rw [hxl]; unfold maxLen; omega)).src (P := Tryd.prog) Tryd.underlying70
  rw [hxd] at hsr
  have hbt := fun W => bytesWorld_turn W 5 x
  rw [hx] at hcv ⊢
  obtain ⟨N, hN⟩ : ∃ N, B.length = N := ⟨_, rfl⟩
  rw [hN] at hsr cv hle hvl hxl ⊢
  simp only [hxl] at hsr hcv
  have Hsr := shutX hsr
  have Hbt := shutX hbt
  clear hsr hN hbt hxd hx
  have hN63 : (N : Int) < 18446744073709551616 := by omega
  have hxi : (x.size : Int) = (N : Int) := by omega
  clear hxl
  generalize varE N = E at *
  go_enter Tryd.func77, Tryd.ntmps77
  go_wp2_with (first | (go_at_call 99; refine cv.mono ?_; rintro e w1 ⟨v, rfl, F⟩; obtain ⟨ad, ln, cp, rfl⟩ := F.form) | (at_builtin; refine wpList_append_src rfl (.tmp 6) (.tmp 8) rfl Tryd.underlying70 Tryd.info5 rfl _ (E.map bv) rfl (F.own.turn_no (Hbt.out w1)) _ N (B.map bv) rfl (Hsr.out w1) ?b ?m ?_; rotate_left 2; intro v1 w1' o1 g1 _))
  case b => first | omega | (simp; omega)
  case m => first | (unfold maxLen; omega) | (simp [maxLen]; omega)
  have F1 := F.append (Hbt.out _) o1 g1
  obtain ⟨ad, ln, cp, rfl⟩ := o1.form
  go_wp2_with fail
  go_ret
  exact ⟨_, rfl, F1⟩

section
variable {w : World} {q : Nat} {v : Value} {bs : List UInt8} {e : Int}
end
end Go.Proofs.YtgimecdmleofeaaDoor



/- The document's Out; paper. -/
namespace Go.Proofs.YtgimecdmleofeaaDoor
open Go.RowKit
set_option linter.unusedVariables false

theorem fr_empty (w : World) : Fr w (w.alloc (.cells #[] 5)) (.slice (some ⟨w.heap.size, 0, none⟩) 0 0) [] :=
  ⟨own_empty w 5, fun g q => (by simp [Value.ownBlock] at q; omega), (Turn.refl _ _).alloc _⟩
theorem fr_one (w : World) (b : UInt8) : Fr w (w.alloc (.cells #[bv b] 5)) (.slice (some ⟨w.heap.size, 0, none⟩) 1 1) [b] :=
  ⟨Own.of (xs := [bv b]) (cap := 1) (heap_alloc_new w _) (by simp) (by simp [maxLen]) (by simp) (by simp), fun g q => (by simp [Value.ownBlock] at q; omega), (Turn.refl _ _).alloc _⟩
/-- A value laid down by the document. -/
theorem enc_0' {k : Int} {n : Nat} {B : List UInt8} (hk : k % 9 = 0) : enc k n B = (leB (n % 256) 1, 0) := by unfold enc; rw [if_pos hk]
theorem enc_1' {k : Int} {n : Nat} {B : List UInt8} (hk : k % 9 = 1) : enc k n B = (leB (n % 2) 1, 0) := by unfold enc; rw [if_neg (by omega)]; rw [if_pos hk]
theorem enc_2' {k : Int} {n : Nat} {B : List UInt8} (hk : k % 9 = 2) : enc k n B = (leB (n % 4294967296) 4, 0) := by unfold enc; rw [if_neg (by omega)]; rw [if_neg (by omega)]; rw [if_pos hk]
theorem enc_3' {k : Int} {n : Nat} {B : List UInt8} (hk : k % 9 = 3) : enc k n B = (leB n 8, 0) := by unfold enc; rw [if_neg (by omega)]; rw [if_neg (by omega)]; rw [if_neg (by omega)]; rw [if_pos hk]
theorem enc_4' {k : Int} {n : Nat} {B : List UInt8} (hk : k % 9 = 4) : enc k n B = (varE n, 0) := by unfold enc; rw [if_neg (by omega)]; rw [if_neg (by omega)]; rw [if_neg (by omega)]; rw [if_neg (by omega)]; rw [if_pos hk]
theorem enc_5' {k : Int} {n : Nat} {B : List UInt8} (hk : k % 9 = 5) : enc k n B = (B, 0) := by unfold enc; rw [if_neg (by omega)]; rw [if_neg (by omega)]; rw [if_neg (by omega)]; rw [if_neg (by omega)]; rw [if_neg (by omega)]; rw [if_pos hk]
theorem enc_6' {k : Int} {n : Nat} {B : List UInt8} (hk : k % 9 = 6) : enc k n B = (varE B.length ++ B, 0) := by unfold enc; rw [if_neg (by omega)]; rw [if_neg (by omega)]; rw [if_neg (by omega)]; rw [if_neg (by omega)]; rw [if_neg (by omega)]; rw [if_neg (by omega)]; rw [if_pos hk]
theorem enc_7' {k : Int} {n : Nat} {B : List UInt8} (hk : k % 9 = 7) : enc k n B = (varE B.length ++ B, 0) := by unfold enc; rw [if_neg (by omega)]; rw [if_neg (by omega)]; rw [if_neg (by omega)]; rw [if_neg (by omega)]; rw [if_neg (by omega)]; rw [if_neg (by omega)]; rw [if_neg (by omega)]; rw [if_pos hk]
theorem enc_8' {k : Int} {n : Nat} {B : List UInt8} (hk : k % 9 = 8) : enc k n B = if n < 9223372036854775808 then (varE n, 0) else ([], 2) := by unfold enc; rw [if_neg (by omega)]; rw [if_neg (by omega)]; rw [if_neg (by omega)]; rw [if_neg (by omega)]; rw [if_neg (by omega)]; rw [if_neg (by omega)]; rw [if_neg (by omega)]; rw [if_neg (by omega)]; 
end Go.Proofs.YtgimecdmleofeaaDoor


