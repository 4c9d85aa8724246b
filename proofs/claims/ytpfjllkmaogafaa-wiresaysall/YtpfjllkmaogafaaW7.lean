/- Walks: read where nothing was made; alive. -/
import Derived.Test.YtpfjllkmaogafaaW6
namespace Go.Proofs.Ytpfjllkmaogafaa
open Go.RowKit

theorem own2 {w : World} {v : Value} (h : Own w 5 v (List.map bv [172, 2])) : ∃ g cap, v = .slice (some ⟨g, 0, none⟩) 2 cap ∧ w.cell? ⟨g, 0, none⟩ = some (.int .u8 172) ∧ w.cell? ⟨g, 1, none⟩ = some (.int .u8 2) := by
  rcases h.shape with ⟨_, q⟩ | ⟨g, cap, cur, rfl, _⟩
  · cases q
  · exact ⟨g, cap, rfl, h.cell 0 _ rfl, h.cell 1 _ rfl⟩

theorem varE_300 : varE 300 = [172, 2] := by decide
theorem rvar_300 : rvar [172, 2] 0 = (300, 2, 0) := by decide

end Go.Proofs.Ytpfjllkmaogafaa

