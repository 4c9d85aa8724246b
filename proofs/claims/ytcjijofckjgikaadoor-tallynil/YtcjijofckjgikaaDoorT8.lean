/- count, Power of a tally with one vote. -/
import Derived.Test.YtcjijofckjgikaaDoorT7
namespace Go.Proofs.YtcjijofckjgikaaDoor
open Go.RowKit
set_option linter.unusedVariables false

set_option maxRecDepth 100000 in
set_option maxHeartbeats 4000000 in
theorem count27 (w : World) (p m g cap q : Nat) (v : Vt) (hv : v.ok) (h : Tl w p m g cap) (hm : w.heap[m]? = some (.map #[⟨k0, .agg v.cs.toArray, 0⟩] 1)) (hq : w.rangeAt q 0 (v.id.map bv)) :
    Calls Tryd.prog 27 #[.pointer (some ⟨p, 0, none⟩), .int .i64 1, .int .i64 0, .func (.func 34) #[] #[.pointer (some ⟨q, 0, none⟩)]] w fun e w' => ∃ x, e = .returned (.tuple #[x, .int .u64 5]) ∧ Turn no w w' := by
  obtain ⟨w0, hw0⟩ : ∃ w0, (((w.alloc (.cells #[.pointer (some ⟨p, 0, none⟩)] 31)).alloc (.cells #[.int .i64 1] 3)).alloc (.cells #[.int .i64 0] 3)).alloc (.cells #[.func (.func 34) #[] #[.pointer (some ⟨q, 0, none⟩)]] 81) = w0 := ⟨_, rfl⟩
  have T0 : Turn no w w0 := by rw [← hw0]; exact ((((Turn.refl no w).alloc _).alloc _).alloc _).alloc _
  have B0 : Row w0 w.heap.size #[.pointer (some ⟨p, 0, none⟩)] 31 := by rw [← hw0]; exact (((Row.new w _ 31).alloc _).alloc _).alloc _
  have B1 : Row w0 (w.heap.size + 1) #[.int .i64 1] 3 := by rw [← hw0]; exact ((Row.newAt _ _ 3 _ (by simp)).alloc _).alloc _
  have B2 : Row w0 (w.heap.size + 1 + 1) #[.int .i64 0] 3 := by rw [← hw0]; exact (Row.newAt _ _ 3 _ (by simp)).alloc _
  have B3 : Row w0 (w.heap.size + 1 + 1 + 1) #[.func (.func 34) #[] #[.pointer (some ⟨q, 0, none⟩)]] 81 := by rw [← hw0]; exact Row.newAt _ _ 81 _ (by simp)
  have h0 := h.turn T0 (fun q => q) (fun q => q)
  have m0 := obj_turn hm T0 (fun q => q)
  have C0 : Cap w0 p (w.heap.size + 1) (w.heap.size + 1 + 1) (w.heap.size + 1 + 1 + 1) w.heap.size q v := ⟨B1.cell 0 _ rfl, B2.cell 0 _ rfl, B3.cell 0 _ rfl, B0.cell 0 _ rfl, fun j x hx => T0.keep (hq j x hx) (fun q => q)⟩
  have cf := find25 w0 p m g cap _ _ _ _ q v hv h0 m0 C0
  have cm := made18 w0 p h0.c0
  have ca := above22 w0 p h0.c3
  have x0 : w0.cell? ⟨w.heap.size, 0, none⟩ = some (.pointer (some ⟨p, 0, none⟩)) := B0.cell 0 _ rfl
  have x2 : w0.cell? ⟨w.heap.size + 1 + 1, 0, none⟩ = some (.int .i64 0) := B2.cell 0 _ rfl
  have HT0 := shut T0
  have Hh := shut h0
  have HX := shut x0
  clear h hm hq T0 B0 B1 B2 B3 h0 m0 C0
  go_enter Tryd.func27, Tryd.ntmps27
  go_upto_region 1 with fail
  try rw [hw0]
  clear hw0
  go_wp2_with (first | (go_at_call 18; refine cm.mono ?_; rintro e w1 ⟨rfl, e1⟩; subst e1) | (go_at_call 22; refine ca.mono ?_; rintro e w1 ⟨rfl, e1⟩; subst e1) | (go_at_call 25; refine cf.mono ?_; rintro e w2 ⟨x, c, rfl, hr, t2⟩))
  have i0 : w2.cell? ⟨x, 0, none⟩ = some (.int .i64 1) := hr 0 _ rfl
  have i1 : w2.cell? ⟨x, 1, none⟩ = some (.int .i64 0) := hr 1 _ rfl
  have i2 : w2.cell? ⟨x, 2, none⟩ = some (.int .i64 0) := hr 2 _ rfl
  have T3 : Turn no w2 (w2.alloc (.cells #[.int .i64 1, .int .i64 0, .int .i64 0] 74)) := (Turn.refl no w2).alloc _
  have y0 := (t2.then_no T3).keep HX.out (fun q => q)
  have cp := powerOf31 _ p g m cap (Hh.out.turn (t2.then_no T3) (fun q => q) (fun q => q))
  have HT3 := shut (HT0.out.then_no (t2.then_no T3))
  clear hr T3 t2 HT0 Hh HX x0 x2 cf cm ca
  refine wp_loop_rounds 2 (wp_unroll 1 fun K0 hK0 => ?_)
  go_wp2_with (go_at_call 31; refine cp.mono ?_; rintro e w4 ⟨rfl, rfl⟩)
  refine wp_unroll 0 fun K1 hK1 => ?_
  go_wp2_with fail
  exact ⟨rfl, _, results_tmp2 rfl _ _ _, _, rfl, HT3.out⟩
set_option maxRecDepth 100000 in
theorem power13 (w : World) (p m g cap : Nat) (v : Vt) (hv : v.ok) (h : Tl w p m g cap) (hm : w.heap[m]? = some (.map #[⟨k0, .agg v.cs.toArray, 0⟩] 1)) :
    Calls Tryd.prog 13 #[.pointer (some ⟨p, 0, none⟩), .int .i64 1, .int .i64 0, .agg (v.id.map bv).toArray] w fun e w' => e = .returned (.int .u64 5) ∧ Turn no w w' := by
  obtain ⟨w0, hw0⟩ : ∃ w0, w.alloc (.cells (v.id.map bv).toArray 24) = w0 := ⟨_, rfl⟩
  have T0 : Turn no w w0 := by rw [← hw0]; exact (Turn.refl no w).alloc _
  have B0 : Row w0 w.heap.size (v.id.map bv).toArray 24 := by rw [← hw0]; exact Row.new w _ 24
  have c := count27 w0 p m g cap w.heap.size v hv (h.turn T0 (fun q => q) (fun q => q)) (obj_turn hm T0 (fun q => q)) B0.range
  have HT0 := shut T0
  clear T0 h hm B0
  generalize (v.id.map bv).toArray = I at *
  go_enter Tryd.func13, Tryd.ntmps13
  go_upto_region 1 with fail
  try rw [hw0]
  clear hw0
  go_wp2_with (go_at_call 27; refine c.mono ?_; rintro e w1 ⟨x, rfl, t1⟩)
  go_ret
  exact ⟨rfl, HT0.out.then_no t1⟩
end Go.Proofs.YtcjijofckjgikaaDoor
