/- What the listed variables give the walks. -/
import Derived.Test.YtgbcdjjnpadddaaGreatDoorDp
import Derived.ProofKit
import Derived.LaidMore
import Derived.OpenShut
import Derived.Stop.Joined
namespace Go.Proofs.YtgbcdjjnpadddaaGreatDoor
open Go.ChangeShapes Go.WideShapes Go.ChangeAt Go.RowKit
set_option linter.unusedVariables false

theorem own : ownKnob Tryz.prog.godebug = none := by kernel_rfl
theorem g0 : Tryz.prog.globalNamed "assent/assentref02.adds" = some 1 := by kernel_rfl
theorem g1 : Tryz.prog.globalNamed "assent/digest.roundWords" = some 2 := by kernel_rfl
theorem tg0 : (Tryz.prog.globals[1]?).map (·.type) = some 262 := by kernel_rfl
theorem tg1 : (Tryz.prog.globals[2]?).map (·.type) = some 262 := by kernel_rfl
theorem c24 : Tryz.prog.cellsOf 129 = 1 := by kernel_rfl

def laidA : List (String × DataW Unit) := [("assent/digest.roundWords", Rows.laid_assent_digest_roundWords)]
def laidB : List (String × DataW Unit) := [("assent/assentref02.adds", Rows.laid_assent_assentref02_adds), ("assent/digest.roundWords", Rows.laid_assent_digest_roundWords)]
theorem roundWords_ks : (Rows.laid_assent_digest_roundWords : DataW Unit) = .agg (ks.map fun k => .lit (.int .u32 k)) := by kernel_rfl
theorem adds_ks : (Rows.laid_assent_assentref02_adds : DataW Unit) = .agg (ks.map fun k => .lit (.int .u32 k)) := by kernel_rfl

theorem doorA (os : Os) (args : Array Value) : laidMetH Tryz.prog laidA ((World.doorLaid Tryz.prog 4000 os).forCall (fun _ _ => 0) ⟨#[], args, []⟩).memory :=
  laidMetH_of_parts3 (fuel := 8) (laidMet_of_run' 8 (by kernel_rfl) (by kernel_rfl)) (by kernel_rfl) (by kernel_rfl)
theorem doorB (os : Os) (args : Array Value) : laidMetH Tryz.prog laidB ((World.doorLaid Tryz.prog 4000 os).forCall (fun _ _ => 0) ⟨#[], args, []⟩).memory :=
  laidMetH_of_parts3 (fuel := 8) (laidMet_of_run' 8 (by kernel_rfl) (by kernel_rfl)) (by kernel_rfl) (by kernel_rfl)

theorem table {W : World} {fuel : Nat} {cs : Array Value} {p : List MemPlace} (hd : DataW.trod (fun _ => ()) Tryz.prog W 0 (fun _ => true) false fuel 262 cs.toList = some ((.agg (ks.map fun k => .lit (.int .u32 k)) : DataW Unit), p)) (j : Nat) (hj : j < 64) : cs[j]? = some (.int .u32 (ks.getD j 0)) := by
  obtain ⟨xs, m1, h1, hx1, hlen, hn, hel⟩ := DataW.trod_array Tryz.underlying262 hd
  have h0 := hel j hj
  simp only [Prod.mk.injEq, DataW.agg.injEq] at hx1
  obtain ⟨x, hxj⟩ : ∃ x, xs[j]? = some x := ⟨xs[j]'(by omega), List.getElem?_eq_getElem (by omega)⟩
  rw [hxj, c24, Nat.mul_one] at h0
  obtain ⟨k, e1, e2, _⟩ := DataW.trod_int Tryz.underlying129 h0
  have h3 : (xs.map (·.1))[j]? = some x.1 := by simp [hxj]
  rw [← hx1.1, List.getElem?_map, e2] at h3
  have hk : ks.getD j 0 = k := by
    rw [List.getD_eq_getElem?_getD]
    cases hq : ks[j]? with
    | none => rw [hq] at h3; cases h3
    | some y => rw [hq] at h3; simp at h3; simpa using h3
  rw [hk]
  have := congrArg (·[0]?) e1
  simpa [List.getElem?_take, List.getElem?_drop] using this

theorem of_laidA {W : World} (h : laidMetH Tryz.prog laidA W) : Laid1 W := by
  rw [MakeChecks.laidMetH_plain _ _ _ (by kernel_rfl)] at h
  obtain ⟨ps, ⟨g, t, cs, f, p, q, hg, ht, hv, hd, _⟩, _⟩ := h
  obtain rfl := Option.some.inj (g1.symm.trans hg)
  obtain rfl := Option.some.inj (tg1.symm.trans ht)
  rw [roundWords_ks] at hd
  intro j hj
  rw [World.var?_cell hg hv j]
  exact table hd j hj
theorem of_laidB {W : World} (h : laidMetH Tryz.prog laidB W) : Laid0 W ∧ Laid1 W := by
  rw [MakeChecks.laidMetH_plain _ _ _ (by kernel_rfl)] at h
  obtain ⟨ps, ⟨g, t, cs, f, p, q, hg, ht, hv, hd, ⟨g', t', cs', f', p', q', hg', ht', hv', hd', _⟩, _⟩, _⟩ := h
  obtain rfl := Option.some.inj (g0.symm.trans hg)
  obtain rfl := Option.some.inj (tg0.symm.trans ht)
  obtain rfl := Option.some.inj (g1.symm.trans hg')
  obtain rfl := Option.some.inj (tg1.symm.trans ht')
  rw [adds_ks] at hd
  rw [roundWords_ks] at hd'
  refine ⟨fun j hj => ?_, fun j hj => ?_⟩
  · rw [World.var?_cell hg hv j]
    exact table hd j hj
  · rw [World.var?_cell hg' hv' j]
    exact table hd' j hj
theorem Laid1.two {W : World} (h : Laid1 W) : 3 ≤ W.heap.size := World.block_lt_of_cell? W _ (h 0 (by omega))
end Go.Proofs.YtgbcdjjnpadddaaGreatDoor


