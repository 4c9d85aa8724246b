/- Total, Quorum, Third of the document; same, roomy, kept of the law. -/
import Derived.Test.YtgjhhmdpepdepaaDoorC3
namespace Go.Proofs.YtgjhhmdpepdepaaDoor
open Go.RowKit
set_option linter.unusedVariables false

theorem sound_pw (l : List Mb) (h : soundE l = 0) : ∀ m ∈ l, m.pw ≤ top := scan_pw l (weigh_ok l (sound_ok l h).1).2.2.1
theorem weigh_pw (l : List Mb) (h : weighE l = 0) : ∀ m ∈ l, m.pw ≤ top := scan_pw l (weigh_ok l h).2.2.1

theorem tot_pos (l : List Mb) (h : weighE l = 0) : 0 < tot l := by
  obtain ⟨h1, _, h3, _⟩ := weigh_ok l h
  cases l with
  | nil => simp at h1
  | cons m r =>
    have := (scan_mem _ 0 h3 m (by simp)).2.1
    simp [tot]
    omega

end Go.Proofs.YtgjhhmdpepdepaaDoor

