/- The reference's Sum. -/
import Derived.Test.YtnlcngcilojnkabDoorE5
import Derived.Test.YtnlcngcilojnkabDoorD7
namespace Go.Proofs.YtnlcngcilojnkabDoor
open Go.RowKit
set_option linter.unusedVariables false

theorem rsum_all (w : World) (va : Value) (bs : List UInt8) (hb : Bs w va bs) (hl : Laid0 w) (h2 : 2 ≤ w.heap.size) (hsz : bs.length ≤ 140737488355328) :
    Calls Tryd.prog 68 #[va] w fun e w' => e = .returned (.agg (hv bs)) ∧ Turn no w w' := by
  by_cases h0 : bs = []
  · subst h0
    obtain ⟨a, c, rfl⟩ := hb.slice
    exact rsum_none w a c hb hl h2
  · exact rsum_any w va bs hb hl h2 hsz (by cases bs with | nil => exact (h0 rfl).elim | cons => simp)

end Go.Proofs.YtnlcngcilojnkabDoor
