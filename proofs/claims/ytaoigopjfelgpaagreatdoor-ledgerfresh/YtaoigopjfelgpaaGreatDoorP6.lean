/- The ledger's Root: the program's. -/
import Derived.Test.YtaoigopjfelgpaaGreatDoorP5
import Derived.Test.YtaoigopjfelgpaaGreatDoorEa
namespace Go.Proofs.YtaoigopjfelgpaaGreatDoor
open Go.RowKit
set_option linter.unusedVariables false

theorem rowL {w : World} {g : Nat} {X : List Value} {e : TypeId} (h : Row w g X.toArray e) : w.rangeAt g 0 X := fun j v hv => by
  rw [Nat.zero_add]
  exact h.cell j v (by simpa using hv)
end Go.Proofs.YtaoigopjfelgpaaGreatDoor

