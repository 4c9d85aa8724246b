/- The tops: SealEnters, SealSigns, SealChecks, SealTells. -/
import Derived.Test.YtnlcngcilojnkabDoorP11
namespace Go.Proofs.YtnlcngcilojnkabDoor
open Go.RowKit Go.Maps Go.MuLone
set_option linter.unusedVariables false

set_option maxRecDepth 100000 in
theorem top4 (w : World) (v : Value) (l : List Opx) (hS : Script w v l) (hl0 : Laid0 w) (hl1 : Laid1 w) (h2 : 2 ≤ w.heap.size) (hl : l.length ≤ 1599289640401) :
    Calls Tryd.prog 4 #[v] w fun e w' => e = .returned (.bool true) ∧ Turn no w w' := by
  have c := play13 w v l hS 7 7 hl0 hl1 h2 hl
  go_enter Tryd.func4, Tryd.ntmps4
  go_wp2_with (go_at_call 13; refine c.mono ?_; rintro e w1 ⟨rfl, t⟩)
  go_ret
  exact ⟨rfl, t⟩
set_option maxRecDepth 100000 in
theorem top5 (w : World) (v : Value) (l : List Opx) (hS : Script w v l) (hl0 : Laid0 w) (hl1 : Laid1 w) (h2 : 2 ≤ w.heap.size) (hl : l.length ≤ 1599289640401) :
    Calls Tryd.prog 5 #[v] w fun e w' => e = .returned (.bool true) ∧ Turn no w w' := by
  have c := play13 w v l hS 2 2 hl0 hl1 h2 hl
  go_enter Tryd.func5, Tryd.ntmps5
  go_wp2_with (go_at_call 13; refine c.mono ?_; rintro e w1 ⟨rfl, t⟩)
  go_ret
  exact ⟨rfl, t⟩
set_option maxRecDepth 100000 in
theorem top6 (w : World) (v : Value) (l : List Opx) (hS : Script w v l) (hl0 : Laid0 w) (hl1 : Laid1 w) (h2 : 2 ≤ w.heap.size) (hl : l.length ≤ 1599289640401) :
    Calls Tryd.prog 6 #[v] w fun e w' => e = .returned (.bool true) ∧ Turn no w w' := by
  have c := play13 w v l hS 3 3 hl0 hl1 h2 hl
  go_enter Tryd.func6, Tryd.ntmps6
  go_wp2_with (go_at_call 13; refine c.mono ?_; rintro e w1 ⟨rfl, t⟩)
  go_ret
  exact ⟨rfl, t⟩
set_option maxRecDepth 100000 in
theorem top7 (w : World) (v : Value) (l : List Opx) (hS : Script w v l) (hl0 : Laid0 w) (hl1 : Laid1 w) (h2 : 2 ≤ w.heap.size) (hl : l.length ≤ 1599289640401) :
    Calls Tryd.prog 7 #[v] w fun e w' => e = .returned (.bool true) ∧ Turn no w w' := by
  have c := play13 w v l hS 4 6 hl0 hl1 h2 hl
  go_enter Tryd.func7, Tryd.ntmps7
  go_wp2_with (go_at_call 13; refine c.mono ?_; rintro e w1 ⟨rfl, t⟩)
  go_ret
  exact ⟨rfl, t⟩
end Go.Proofs.YtnlcngcilojnkabDoor
