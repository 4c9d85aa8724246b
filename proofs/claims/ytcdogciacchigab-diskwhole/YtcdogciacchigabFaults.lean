/- DiskFaults: the walk. -/
import Derived.Test.YtcdogciacchigabQ1
namespace Go.Proofs.Ytcdogciacchigab
open Go.RowKit Go.Maps
set_option linter.unusedVariables false

theorem Ox.mono {B B' : Nat} {w : World} {o : Opx} (h : Ox B w o) (hB : B ≤ B') : Ox B' w o := ⟨h.nm, h.data, h.keep, fun a g hg => Nat.lt_of_lt_of_le (h.dold a g hg) hB, fun a g hg => Nat.lt_of_lt_of_le (h.kold a g hg) hB⟩
theorem Sc.mono {B B' : Nat} {w : World} {v : Value} {l : List Opx} (h : Sc B w v l) (hB : B ≤ B') : Sc B' w v l := by
  obtain ⟨a, cap, e, h1, h2, h3, h4⟩ := h
  refine ⟨a, cap, e, h1, h2, fun o ho => (h3 o ho).mono hB, fun j o hj => ?_⟩
  obtain ⟨b, off, ea, hb, hc⟩ := h4 j o hj
  exact ⟨b, off, ea, by omega, hc⟩
theorem Sc.turn_no {B : Nat} {w w' : World} {v : Value} {l : List Opx} (h : Sc B w v l) (t : Turn no w w') : Sc B w' v l := h.turn t.of_no

end Go.Proofs.Ytcdogciacchigab
