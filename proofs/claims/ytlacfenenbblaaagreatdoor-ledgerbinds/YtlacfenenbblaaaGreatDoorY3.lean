/- Root of both. -/
import Derived.Test.YtlacfenenbblaaaGreatDoorK1
import Derived.Test.YtlacfenenbblaaaGreatDoorJa
import Derived.Deep.Cut
import Derived.Deep.RegionHeld3
import Derived.Deep.MidRow
namespace Go.Proofs.YtlacfenenbblaaaGreatDoor
open Go.RowKit
set_option linter.unusedVariables false

theorem root_nil (w : World) (hl : Laid1 w) (h2 : 2 ≤ w.heap.size) : Calls Tryz.prog 24 #[.slice none 0 0] w fun e w' => e = .returned (.tuple #[.agg (hb32 (rootH [])), .int .i64 0]) ∧ Turn no w w' := root7 w none 0 [] ⟨by simp, by simp [maxLen], by simp, .inl rfl⟩ hl h2
theorem rroot_nil (w : World) (hl : Laid0 w) (h2 : 2 ≤ w.heap.size) : Calls Tryz.prog 8 #[.slice none 0 0] w fun e w' => e = .returned (.tuple #[.agg (hb32 (rootH [])), .int .i64 0]) ∧ Turn no w w' := root8 w none 0 [] ⟨by simp, by simp [maxLen], by simp, .inl rfl⟩ hl h2
end Go.Proofs.YtlacfenenbblaaaGreatDoor


