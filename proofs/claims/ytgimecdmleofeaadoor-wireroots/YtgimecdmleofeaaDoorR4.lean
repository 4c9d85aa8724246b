/- hash, sealed of the document. -/
import Derived.Test.YtgimecdmleofeaaDoorT7
import Derived.Test.YtgimecdmleofeaaDoorTk
import Derived.Test.YtgimecdmleofeaaDoorJz
namespace Go.Proofs.YtgimecdmleofeaaDoor
open Go.RowKit
set_option linter.unusedVariables false

set_option maxRecDepth 100000 in
theorem hash78 (w : World) (X : List UInt8) (hx : X.length = 32) : Calls Tryd.prog 78 #[.agg (X.map bv).toArray] w fun e w' => ∃ v, e = .returned v ∧ Fr w w' v X := by
  have r := Row.rangeZ (Row.new w (X.map bv).toArray 29)
  have t0 : Turn no w (w.alloc (.cells (X.map bv).toArray 29)) := (Turn.refl no w).alloc _
  have hsr := fun W (t : Turn no (w.alloc (.cells (X.map bv).toArray 29)) W) => (bs_range (fun j u hu => t.keep (r j u hu) (fun q => q)) 32 hx (by omega)).src (P := Tryd.prog) Tryd.underlying70
  rw [hx] at hsr
  have Hsr := shutX hsr
  clear hsr r
  generalize (X.map bv).toArray = C at *
  obtain ⟨w0, hw0⟩ : ∃ W, w.alloc (.cells C 29) = W := ⟨_, rfl⟩
  rw [hw0] at t0 Hsr
  go_enter Tryd.func78, Tryd.ntmps78
  go_upto_region 1 with fail
  try rw [hw0]
  go_wp2_with (at_builtin; refine wpList_append_src rfl (.tmp 3) (.tmp 4) rfl Tryd.underlying70 Tryd.info5 rfl _ [] rfl (own_empty w0 5) _ 32 (X.map bv) rfl (Hsr.out _ ((Turn.refl _ _).alloc _)) (by simp) (by simp [maxLen]) ?_)
  intro v1 w1 o1 g1 _
  have F1 := ((fr_empty w0).append (ys := X) (Turn.refl _ _) o1 g1).pre t0
  rw [List.nil_append] at F1
  obtain ⟨ad, ln, cp, rfl⟩ := o1.form
  go_wp2_with fail
  go_ret
  exact ⟨_, rfl, F1⟩
set_option maxRecDepth 100000 in
theorem sealed74 (w : World) (X : List UInt8) (hx : X.length = 16) : Calls Tryd.prog 74 #[.agg (X.map bv).toArray, .bool true] w fun e w' => ∃ v, e = .returned v ∧ Fr w w' v X := by
  have r := Row.rangeZ (Row.new w (X.map bv).toArray 25)
  have t0 : Turn no w (w.alloc (.cells (X.map bv).toArray 25)) := (Turn.refl no w).alloc _
  have hsr := fun W (t : Turn no (w.alloc (.cells (X.map bv).toArray 25)) W) => (bs_range (fun j u hu => t.keep (r j u hu) (fun q => q)) 16 hx (by omega)).src (P := Tryd.prog) Tryd.underlying70
  rw [hx] at hsr
  have Hsr := shutX hsr
  clear hsr r
  generalize (X.map bv).toArray = C at *
  obtain ⟨w0, hw0⟩ : ∃ W, w.alloc (.cells C 25) = W := ⟨_, rfl⟩
  rw [hw0] at t0 Hsr
  go_enter Tryd.func74, Tryd.ntmps74
  go_upto_region 2 with fail
  try rw [hw0]
  go_wp2_with (at_builtin; refine wpList_append_src rfl (.tmp 6) (.tmp 7) rfl Tryd.underlying70 Tryd.info5 rfl _ [] rfl (own_empty w0 5) _ 16 (X.map bv) rfl (Hsr.out _ ((Turn.refl _ _).alloc _)) (by simp) (by simp [maxLen]) ?_)
  intro v1 w1 o1 g1 _
  have F1 := ((fr_empty w0).append (ys := X) (Turn.refl _ _) o1 g1).pre t0
  rw [List.nil_append] at F1
  obtain ⟨ad, ln, cp, rfl⟩ := o1.form
  go_wp2_with fail
  go_ret
  exact ⟨_, rfl, F1⟩
theorem fin_new {w w1 X Y : World} {v : Value} {B : List UInt8} (t0 : Turn no w w1) (t1 : Turn no w1 X) (F : Fr X Y v B) (g : Nat) (hg : v.ownBlock = some g) : w.heap.size ≤ g := Nat.le_trans (t0.then_no t1).size (F.new g hg)
theorem Fr.bs {w w' : World} {v : Value} {B : List UInt8} (F : Fr w w' v B) : Bs w' v B := F.own.bs
end Go.Proofs.YtgimecdmleofeaaDoor
