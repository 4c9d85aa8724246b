/- DiskCrashes: the walk. -/
import Derived.Test.YtcdogciacchigacZz0
namespace Go.Proofs.Ytcdogciacchigac
open Go.RowKit Go.Maps
set_option linter.unusedVariables false

set_option maxRecDepth 100000 in
set_option maxHeartbeats 4000000 in
theorem crashes3 {B0 : Nat} (w : World) (hB0 : B0 ≤ w.heap.size) (m : Mx) (a : Option Addr) (cap : Nat) (hF : Fs B0 w a cap m.l) (hl : m.l.length ≤ 3518437208780) (hb : ∀ f ∈ m.l, f.bs.length ≤ 140737488351232) (sv : Value) (l : List Opx) (hS : Sc B0 w sv l) (hsl : l.length ≤ 1172812402926) (hdl : ∀ o ∈ l, o.data.length ≤ 140737488351232 ∧ o.keep.length ≤ 17592186043904) : Calls Try.prog 3 #[.agg (mxC m a cap), sv] w fun e w' => e = .returned (.bool true) ∧ Turn no w w' := by
  obtain ⟨sa, sc, rfl, _⟩ := Sc.slice hS
  have T1 : Turn no w (w.alloc (.cells (mxC m a cap) 26)) := (Turn.refl no w).alloc _
  have r1 : Row (w.alloc (.cells (mxC m a cap) 26)) w.heap.size (mxC m a cap) 26 := Row.new w _ 26
  have hp := play36 _ (Nat.le_trans hB0 T1.size) m a cap (hF.turn_no T1) hl hb _ l (Sc.turn hS T1.of_no) hsl hdl 12 12
  have x0 := r1.cell 0 _ rfl
  have x1 := r1.cell 1 _ rfl
  have x2 := r1.cell 2 _ rfl
  have HT1 := shut T1
  clear hF hl hb hS hsl hdl T1 r1
  unfold mxC at *
  go_enter Try.func3, Try.ntmps3
  go_wp2_with fail
  refine hp.mono ?_
  rintro e w' ⟨rfl, t⟩
  have FIN := shut (HT1.out.then_no t)
  clear t
  go_wp2_with fail
  go_ret
  exact ⟨rfl, FIN.out⟩
end Go.Proofs.Ytcdogciacchigac
