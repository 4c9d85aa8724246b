/- The document's Writer; paper. -/
import Derived.Test.YtpfjllkmaogafaaX1
namespace Go.Proofs.Ytpfjllkmaogafaa
open Go.RowKit
set_option linter.unusedVariables false

set_option maxRecDepth 100000 in
theorem rtext63 (w : World) (B : List UInt8) (hle : B.length + 20 ≤ 140737488355328) : Calls Try.prog 37 #[.string ⟨B.toArray⟩] w fun e w' => ∃ v, e = .returned v ∧ Fr w w' v (varE B.length ++ B) := by
  have cv := rvar61 w B.length (by omega)
  have hvl := varE_le B.length
  have hcv := fun W => Lib.run_convert_string_bytes (P := Try.prog) W 9 36 5 ⟨B.toArray⟩ Try.underlying9 Try.underlying36 Try.underlying5
  obtain ⟨x, hx⟩ : ∃ x : ByteArray, (⟨B.toArray⟩ : ByteArray) = x := ⟨_, rfl⟩
  have hxl : x.size = B.length := by rw [← hx]; simp [ByteArray.size]
  have hxd : x.data.toList = B := by rw [← hx]
  have hsr := fun W => (bytesWorld_bs W x (by rw [hxl]; unfold maxLen; omega)).src (P := Try.prog) Try.underlying36
  rw [hxd] at hsr
  have hbt := fun W => bytesWorld_turn W 5 x
  rw [hx] at hcv ⊢
  obtain ⟨N, hN⟩ : ∃ N, B.length = N := ⟨_, rfl⟩
  rw [hN] at hsr cv hle hvl hxl ⊢
  simp only [hxl] at hsr hcv
  have Hsr := shutX hsr
  have Hbt := shutX hbt
  clear hsr hN hbt hxd hx
  have hN63 : (N : Int) < 18446744073709551616 := by omega
  have hxi : (x.size : Int) = (N : Int) := by omega
  clear hxl
  generalize varE N = E at *
  go_enter Try.func37, Try.ntmps37
  go_wp2_with (first | (go_at_call 77; refine cv.mono ?_; rintro e w1 ⟨v, rfl, F⟩; obtain ⟨ad, ln, cp, rfl⟩ := F.form) | (at_builtin; refine wpList_append_src rfl (.tmp 6) (.tmp 8) rfl Try.underlying36 Try.info5 rfl _ (E.map bv) rfl (F.own.turn_no (Hbt.out w1)) _ N (B.map bv) rfl (Hsr.out w1) ?b ?m ?_; rotate_left 2; intro v1 w1' o1 g1 _))
  case b => first | omega | (simp; omega)
  case m => first | (unfold maxLen; omega) | (simp [maxLen]; omega)
  have F1 := F.append (Hbt.out _) o1 g1
  obtain ⟨ad, ln, cp, rfl⟩ := o1.form
  go_wp2_with fail
  go_ret
  exact ⟨_, rfl, F1⟩

section
variable {w : World} {q : Nat} {v : Value} {bs : List UInt8} {e : Int}
end
end Go.Proofs.Ytpfjllkmaogafaa

