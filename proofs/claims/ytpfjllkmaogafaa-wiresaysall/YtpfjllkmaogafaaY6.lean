/- The document's Count, Left, End, New. -/
import Derived.Test.YtpfjllkmaogafaaY5
import Derived.Test.YtpfjllkmaogafaaW14
namespace Go.Proofs.Ytpfjllkmaogafaa
open Go.RowKit
set_option linter.unusedVariables false

section
variable {w : World} {q : Nat} {v : Value} {bs : List UInt8} {i : Nat}
set_option maxRecDepth 100000 in
theorem end68 (e0 : Int) (h : Rq w q v bs i e0) (hle : bs.length ≤ 140737488355328) : Calls Try.prog 49 #[.pointer (some ⟨q, 0, none⟩)] w fun e w' => e = .returned (.int .i64 (rend bs i e0)) ∧ ∃ n, w' = w.drewN n := by
  have c0 := h.c0
  have c1 := h.c1
  have c2 := h.c2
  unfold rend
  obtain ⟨g, cap, rfl⟩ := h.nn
  clear h
  generalize bs.length = N at *
  clear hle
  by_cases he : e0 = 0
  · subst he
    rw [if_pos rfl]
    by_cases hi : i < N
    · rw [if_pos hi]
      have hi' : (i : Int) < (N : Int) := by omega
      go_enter Try.func49, Try.ntmps49
      go_wp2_with fail
      go_quiet (fail)
      go_wp2_with fail
      go_ret
      exact ⟨rfl, nq, rfl⟩
    · rw [if_neg hi]
      have hi' : ¬ (i : Int) < (N : Int) := by omega
      go_enter Try.func49, Try.ntmps49
      go_wp2_with fail
      go_quiet (fail)
      go_wp2_with fail
      go_ret
      exact ⟨rfl, nq, rfl⟩
  · rw [if_neg he]
    have he' : (e0 == 0) = false := by simpa using he
    go_enter Try.func49, Try.ntmps49
    go_wp2_with fail
    go_quiet (fail)
    go_wp2_with fail
    go_ret
    exact ⟨rfl, nq, rfl⟩
end
end Go.Proofs.Ytpfjllkmaogafaa

