/- samePast, of two empty lists. -/
import Derived.Test.YtbhimedajfkioaaGb
import Derived.Test.YtbhimedajfkioaaLB3
namespace Go.Proofs.Ytbhimedajfkioaa
open Go.RowKit
set_option linter.unusedVariables false

set_option maxRecDepth 100000 in
set_option maxHeartbeats 8000000 in
theorem past39 (w : World) : Calls Try.prog 39 #[.slice none 0 0, .slice none 0 0] w fun e w' => e = .returned (.bool true) ∧ Turn no w w' := by
  go_enter Try.func39, Try.ntmps39
  go_upto_region 1 with fail
  go_wp2_with fail
  go_loopw [5] (fun c wr => c = .int .i64 0 ∧ Turn no w wr) (fun c _ => 0)
  case atStart => exact ⟨rfl, Turn.refl _ _⟩
  case round =>
    obtain ⟨rfl, T⟩ := hrel
    have HT := shut T
    clear T
    go_wp2_with fail
    go_ret
    exact ⟨rfl, HT.out⟩
end Go.Proofs.Ytbhimedajfkioaa
