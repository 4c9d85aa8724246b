/- What an id is. -/
import Derived.Test.YtgimecdmleofeaaDoorJz
import Derived.Test.YtgimecdmleofeaaDoorD7
import Derived.Test.YtgimecdmleofeaaDoorTk
namespace Go.Proofs.YtgimecdmleofeaaDoor
open Go.RowKit
set_option linter.unusedVariables false

/-- The digest of a text, or nothing, where an error is told. -/
def idH (pv : Int) (B : List UInt8) : List UInt8 := if pv = 0 then hashOf B else z32
theorem idH_len (pv : Int) (B : List UInt8) : (idH pv B).length = 32 := by
  unfold idH
  by_cases h : pv = 0
  · rw [if_pos h]; simp [hashOf]
  · rw [if_neg h]; rfl
end Go.Proofs.YtgimecdmleofeaaDoor
