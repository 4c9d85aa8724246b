/- The closed facts of the row, one by one. -/
import Derived.Test.YtghffngipcbkoaaGreatDoorCards
import Derived.ProofKit
import Derived.JoinedOf
namespace Go.Proofs.YtghffngipcbkoaaGreatDoor
open Go.RowKit

set_option maxRecDepth 100000 in
set_option maxHeartbeats 0 in
theorem facts : joinedFacts Tryz.prog 3 Tryz.f3 Rows.archiveNilSpec Rows.archiveNilRow = true := by
  unfold joinedFacts
  simp only [Bool.and_eq_true]
  repeat' apply And.intro
  all_goals (as_aux_lemma => kernel_rfl)
end Go.Proofs.YtghffngipcbkoaaGreatDoor
