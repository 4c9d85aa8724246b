/- find, count, Power of a tally with one vote. -/
import Derived.Test.YtcjijofckjgikaaDoorT4
import Derived.Test.YtcjijofckjgikaaDoorB2
namespace Go.Proofs.YtcjijofckjgikaaDoor
open Go.RowKit
open Go.ChangeMaps (setBlock)
set_option linter.unusedVariables false

set_option maxRecDepth 100000 in
theorem same34 (w : World) (v : Vt) (hv : v.ok) (q : Nat) (hq : w.rangeAt q 0 (v.id.map bv)) : Calls Tryd.prog 34 #[.agg v.cs.toArray, .pointer (some ⟨q, 0, none⟩)] w fun e w' => e = .returned (.bool true) ∧ Turn no w w' := by
  obtain ⟨w0, hw0⟩ : ∃ w0, w.alloc (.cells v.cs.toArray 29) = w0 := ⟨_, rfl⟩
  have T0 : Turn no w w0 := by rw [← hw0]; exact (Turn.refl no w).alloc _
  have B0 : Row w0 w.heap.size v.cs.toArray 29 := by rw [← hw0]; exact Row.new w _ 29
  have r1 := (B0.vt hv).cid
  have r2 : w0.rangeAt q 0 (v.id.map bv) := fun j x hx => T0.keep (hq j x hx) (fun q => q)
  have s24 : (Tryd.prog.info? 24).map (·.size) = some (v.id.map bv).length := by rw [size24]; simp [hv.1]
  have e1 := fun W => eql24 W v.id v.id hv.1 hv.1
  simp only [beq_self_eq_true] at e1
  have HT0 := shut T0
  clear T0 hq B0
  generalize hI : v.id.map bv = I at *
  generalize v.cs.toArray = C at *
  go_enter Tryd.func34, Tryd.ntmps34
  go_upto_region 1 with fail
  try rw [hw0]
  go_wp2_with (first | (refine wpList_load_mid rfl 24 (.tmp 4) rfl w.heap.size 3 rfl I _ r1 Tryd.underlying24 rfl s24 ?_) | (refine wpList_load_mid rfl 24 (.tmp 1) rfl q 0 rfl I _ r2 Tryd.underlying24 rfl s24 ?_))
  go_ret
  exact ⟨rfl, HT0.out⟩
/-- What count's literal holds. -/
structure Cap (w : World) (p bk br bf bt q : Nat) (v : Vt) : Prop where
  k : w.cell? ⟨bk, 0, none⟩ = some (.int .i64 1)
  r : w.cell? ⟨br, 0, none⟩ = some (.int .i64 0)
  f : w.cell? ⟨bf, 0, none⟩ = some (.func (.func 34) #[] #[.pointer (some ⟨q, 0, none⟩)])
  t : w.cell? ⟨bt, 0, none⟩ = some (.pointer (some ⟨p, 0, none⟩))
  id : w.rangeAt q 0 (v.id.map bv)
theorem Cap.turn {w w' : World} {p bk br bf bt q : Nat} {v : Vt} (h : Cap w p bk br bf bt q v) (t : Turn no w w') : Cap w' p bk br bf bt q v :=
  ⟨t.keep h.k (fun q => q), t.keep h.r (fun q => q), t.keep h.f (fun q => q), t.keep h.t (fun q => q), fun j x hx => t.keep (h.id j x hx) (fun q => q)⟩
set_option maxRecDepth 100000 in
set_option maxHeartbeats 4000000 in
theorem meant45 (w : World) (p m g cap bk br bf bt q : Nat) (v : Vt) (hv : v.ok) (h : Tl w p m g cap) (hm : w.heap[m]? = some (.map #[⟨k0, .agg v.cs.toArray, 0⟩] 1)) (hc : Cap w p bk br bf bt q v) :
    Calls Tryd.prog 45 #[k0, .pointer (some ⟨bk, 0, none⟩), .pointer (some ⟨br, 0, none⟩), .pointer (some ⟨bf, 0, none⟩), .pointer (some ⟨bt, 0, none⟩)] w fun e w' => e = .returned (.bool true) ∧ Turn no w w' := by
  obtain ⟨w0, hw0⟩ : ∃ w0, w.alloc (.cells #[.int .i64 1, .int .i64 0, .int .i64 0] 74) = w0 := ⟨_, rfl⟩
  have T0 : Turn no w w0 := by rw [← hw0]; exact (Turn.refl no w).alloc _
  have B0 : Row w0 w.heap.size #[.int .i64 1, .int .i64 0, .int .i64 0] 74 := by rw [← hw0]; exact Row.new w _ 74
  have m0 := obj_turn hm T0 (fun q => q)
  have h0 := h.turn T0 (fun q => q) (fun q => q)
  have hc0 := hc.turn T0
  have hl := fun W (t : Turn no w0 W) => look1 W m _ (obj_turn m0 t (fun q => q))
  have HC := shut hc0
  have Hh := shut h0
  have HB := shut B0
  have cs := fun W (t : Turn no w0 W) => same34 W v hv q (hc0.turn t).id
  clear h hm hc h0 m0 hc0 B0
  generalize v.cs.toArray = C at *
  unfold k0 at hl ⊢
  go_enter Tryd.func45, Tryd.ntmps45
  go_upto_region 1 with fail
  try rw [hw0]
  clear hw0
  refine wp_region_noPanic ?_
  refine wp_region_held_drew (S := fun W => Turn no w0 W) (by kernel_rfl) ((Turn.refl no w0).drew) (fun hHeld => ?_)
  refine' wpAnyH_take (i := 0) (v := .pointer (some ⟨w.heap.size, 0, none⟩)) rfl (by kernel_rfl) (by kernel_rfl) (by kernel_rfl) (fun _ _ _ h => h) (Or.inl ⟨by kernel_rfl, fun W hW => ?y1⟩) hHeld ?r1
  · go_simp
  refine' wpAnyH_take (i := 1) (v := .int .i64 1) rfl (by kernel_rfl) (by kernel_rfl) (by kernel_rfl) (fun _ _ _ h => h) (Or.inl ⟨by kernel_rfl, fun W hW => ?y2⟩) hHeld ?r2
  · have c : W.cell? ⟨w.heap.size, 0, none⟩ = some (.int .i64 1) := (HB.out.turn hW (fun q => q)).cell 0 _ rfl
    go_simp
  refine' wpAnyH_take (i := 2) (v := .int .i64 1) rfl (by kernel_rfl) (by kernel_rfl) (by kernel_rfl) (fun _ _ _ h => h) (Or.inl ⟨by kernel_rfl, fun W hW => ?y3⟩) hHeld ?r3
  · have c := (HC.out.turn hW).k
    go_simp
  refine' wpAnyH_take (i := 3) (v := .bool true) rfl (by kernel_rfl) (by kernel_rfl) (by kernel_rfl) (fun _ _ _ h => h) (Or.inl ⟨by kernel_rfl, fun W hW => ?y4⟩) hHeld ?r4
  · go_simp
  refine' wpAnyH_take (i := 4) (v := .bool true) rfl (by kernel_rfl) (by kernel_rfl) (by kernel_rfl) (fun _ _ _ h => h) (Or.inl ⟨by kernel_rfl, fun W hW => ?y5⟩) hHeld ?r5
  · go_simp
  refine' wpAnyH_take (i := 5) (v := .pointer (some ⟨w.heap.size, 1, none⟩)) rfl (by kernel_rfl) (by kernel_rfl) (by kernel_rfl) (fun _ _ _ h => h) (Or.inl ⟨by kernel_rfl, fun W hW => ?y6⟩) hHeld ?r6
  · go_simp
  refine' wpAnyH_take (i := 6) (v := .int .i64 0) rfl (by kernel_rfl) (by kernel_rfl) (by kernel_rfl) (fun _ _ _ h => h) (Or.inl ⟨by kernel_rfl, fun W hW => ?y7⟩) hHeld ?r7
  · have c : W.cell? ⟨w.heap.size, 1, none⟩ = some (.int .i64 0) := (HB.out.turn hW (fun q => q)).cell 1 _ rfl
    go_simp
  refine' wpAnyH_take (i := 7) (v := .int .i64 0) rfl (by kernel_rfl) (by kernel_rfl) (by kernel_rfl) (fun _ _ _ h => h) (Or.inl ⟨by kernel_rfl, fun W hW => ?y8⟩) hHeld ?r8
  · have c := (HC.out.turn hW).r
    go_simp
  refine' wpAnyH_take (i := 8) (v := .bool true) rfl (by kernel_rfl) (by kernel_rfl) (by kernel_rfl) (fun _ _ _ h => h) (Or.inl ⟨by kernel_rfl, fun W hW => ?y9⟩) hHeld ?r9
  · go_simp
  refine' wpAnyH_take (i := 9) (v := .bool true) rfl (by kernel_rfl) (by kernel_rfl) (by kernel_rfl) (fun _ _ _ h => h) (Or.inl ⟨by kernel_rfl, fun W hW => ?y10⟩) hHeld ?r10
  · go_simp
  refine' wpAnyH_take (i := 10) (v := .bool true) rfl (by kernel_rfl) (by kernel_rfl) (by kernel_rfl) (fun _ _ _ h => h) (Or.inl ⟨by kernel_rfl, fun W hW => ?y11⟩) hHeld ?r11
  · go_simp
  refine' wpAnyH_take (i := 11) (v := .func (.func 34) #[] #[.pointer (some ⟨q, 0, none⟩)]) rfl (by kernel_rfl) (by kernel_rfl) (by kernel_rfl) (fun _ _ _ h => h) (Or.inl ⟨by kernel_rfl, fun W hW => ?y12⟩) hHeld ?r12
  · have c := (HC.out.turn hW).f
    go_simp
  refine' wpAnyH_take (i := 12) (v := .pointer (some ⟨p, 0, none⟩)) rfl (by kernel_rfl) (by kernel_rfl) (by kernel_rfl) (fun _ _ _ h => h) (Or.inl ⟨by kernel_rfl, fun W hW => ?y13⟩) hHeld ?r13
  · have c := (HC.out.turn hW).t
    go_simp
  refine' wpAnyH_take (i := 13) (v := .pointer (some ⟨p, 0, none⟩)) rfl (by kernel_rfl) (by kernel_rfl) (by kernel_rfl) (fun _ _ _ h => h) (Or.inl ⟨by kernel_rfl, fun W hW => ?y14⟩) hHeld ?r14
  · go_simp
  refine' wpAnyH_take (i := 14) (v := .pointer (some ⟨p, 4, none⟩)) rfl (by kernel_rfl) (by kernel_rfl) (by kernel_rfl) (fun _ _ _ h => h) (Or.inl ⟨by kernel_rfl, fun W hW => ?y15⟩) hHeld ?r15
  · go_simp
  refine' wpAnyH_take (i := 15) (v := .map (some m)) rfl (by kernel_rfl) (by kernel_rfl) (by kernel_rfl) (fun _ _ _ h => h) (Or.inl ⟨by kernel_rfl, fun W hW => ?y16⟩) hHeld ?r16
  · have c := (Hh.out.turn hW (fun q => q) (fun q => q)).c4
    go_simp
  refine' wpAnyH_take (i := 16) (v := .agg #[.int .i64 1, .int .i64 0, .int .i64 0]) rfl (by kernel_rfl) (by kernel_rfl) (by kernel_rfl) (fun _ _ _ h => h) (Or.inl ⟨by kernel_rfl, fun W hW => ?y17⟩) hHeld ?r17
  · have d0 : W.cell? ⟨w.heap.size, 0, none⟩ = some (.int .i64 1) := (HB.out.turn hW (fun q => q)).cell 0 _ rfl
    have d1 : W.cell? ⟨w.heap.size, 1, none⟩ = some (.int .i64 0) := (HB.out.turn hW (fun q => q)).cell 1 _ rfl
    have d2 : W.cell? ⟨w.heap.size, 2, none⟩ = some (.int .i64 0) := (HB.out.turn hW (fun q => q)).cell 2 _ rfl
    go_simp
  refine' wpAnyH_take (i := 17) (v := .agg C) rfl (by kernel_rfl) (by kernel_rfl) (by kernel_rfl) (fun _ _ _ h => h) (Or.inl ⟨by kernel_rfl, fun W hW => ?y18⟩) hHeld ?r18
  · have c := hl W hW
    go_simp
  refine wpAnyH_ready (rs := [18]) (by kernel_rfl) (by simp) ?_
  refine AllReadyH.cons rfl (fun K hK => ?_) AllReadyH.nil
  go_simp
  refine (cs _ ((Turn.refl no w0).drew)).mono ?_
  rintro e w3 ⟨rfl, t3⟩
  have T3 : Turn no w0 w3 := (Turn.refl no w0).drew.then_no t3
  refine hK.out _ _ T3 (fun hHeld => ?_)
  clear hK
  refine' wpAnyH_take (i := 19) (v := .bool true) rfl (by kernel_rfl) (by kernel_rfl) (by kernel_rfl) (fun _ _ _ h => h) (Or.inl ⟨by kernel_rfl, fun W hW => ?y19⟩) hHeld ?r19
  · go_simp
  refine' wpAnyH_take (i := 20) (v := .bool true) rfl (by kernel_rfl) (by kernel_rfl) (by kernel_rfl) (fun _ _ _ h => h) (Or.inl ⟨by kernel_rfl, fun W hW => ?y20⟩) hHeld ?r20
  · go_simp
  refine wpAnyH_done (by kernel_rfl) ?_ _
  refine NoPanic.normal ?_
  go_simp
  go_wp2_with fail
  go_ret
  exact ⟨rfl, T0.then_no T3⟩
end Go.Proofs.YtcjijofckjgikaaDoor
