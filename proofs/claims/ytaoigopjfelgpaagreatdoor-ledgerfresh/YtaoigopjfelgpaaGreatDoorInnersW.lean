/- The walk of DigestInners, out of the two callees' contracts. -/
import Derived.Test.YtaoigopjfelgpaaGreatDoorDa
import Derived.Deep.RegionHeld3
namespace Go.Proofs.YtaoigopjfelgpaaGreatDoor
open Go.RowKit
set_option linter.unusedVariables false

theorem Row.range {w : World} {g : Nat} {l : List Value} {e : TypeId} (h : Row w g l.toArray e) : w.rangeAt g 0 l := fun j v hv => by
  rw [Nat.zero_add]
  exact h.cell j v (by simpa using hv)
theorem range_turn {w w' : World} {g o : Nat} {l : List Value} (h : w.rangeAt g o l) (t : Turn no w w') : w'.rangeAt g o l := fun j v hv => t.keep (h j v hv) (fun q => q)

end Go.Proofs.YtaoigopjfelgpaaGreatDoor


