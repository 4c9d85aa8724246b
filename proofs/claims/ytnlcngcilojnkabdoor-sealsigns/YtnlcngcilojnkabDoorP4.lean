/- enters: Enter on both sides of a pair. -/
import Derived.Test.YtnlcngcilojnkabDoorPa
import Derived.Test.YtnlcngcilojnkabDoorM3
import Derived.Deep.RegionLaw
namespace Go.Proofs.YtnlcngcilojnkabDoor
open Go.RowKit Go.Maps Go.MuLone
set_option linter.unusedVariables false

section
variable {base : Nat} {w : World} {tw : Nat} {d : Nat → Pd} {vq : Value} {Q : List (List UInt8)} {k : Nat}
theorem eql62_nil (a : Addr) (W : World) : (binOp .eql 62 (.pointer (some a)) (.pointer none)).run Tryd.prog W = .ok (.bool false) W := by
  have h : ∀ d : Nat, (Op.equalIn (d + 1) 62 (.pointer (some a)) (.pointer none)).run Tryd.prog W = .ok false W := fun d => by
    simp [Op.equalIn, run_underlying Tryd.underlying62]
  simp only [binOp]
  simp [Op.equal, Op.maxDepth, h 9999]
theorem neq64_nil (a : Addr) (W : World) : (binOp .neq 64 (.pointer (some a)) (.pointer none)).run Tryd.prog W = .ok (.bool true) W := by
  have h : ∀ d : Nat, (Op.equalIn (d + 1) 64 (.pointer (some a)) (.pointer none)).run Tryd.prog W = .ok false W := fun d => by
    simp [Op.equalIn, run_underlying Tryd.underlying64]
  simp only [binOp]
  simp [Op.equal, Op.maxDepth, h 9999]
set_option maxRecDepth 100000 in
set_option maxHeartbeats 4000000 in
theorem enters20_zero (h : Tw base w tw d vq Q) (hk : k < 2) (x : Opx) (hx : x.ok) (ha : (x.a.toNat : Int) = 0) : Calls Tryd.prog 20 #[.pointer (some ⟨tw, 0, none⟩), .int .i64 k, .agg (opC x).toArray] w fun e w' =>
    e = .returned (.bool true) ∧ ∃ d', Tw base w' tw d' vq Q ∧ Grow d d' ∧ Turn (fun g => base ≤ g) w w' := by
  have hk' : (k : Int) < 2 := by omega
  obtain ⟨w0, hw0⟩ : ∃ w0, w.alloc (.cells (opC x).toArray 33) = w0 := ⟨_, rfl⟩
  have T0 : Turn no w w0 := by rw [← hw0]; exact (Turn.refl no w).alloc _
  have B0 : Row w0 w.heap.size (opC x).toArray 33 := by rw [← hw0]; exact Row.new w _ 33
  have bo := Bo.of hx B0
  have h0 := h.turn_no T0
  obtain ⟨gB, hgB⟩ : ∃ g, w.heap.size = g := ⟨_, rfl⟩
  rw [hgB] at bo
  have xa := bo.a
  have offtw : ¬ PFp (d k) tw := h.tw_off hk
  have offB : ¬ PFp (d k) gB := fun q => by have := (h.side k hk).lt q; omega
  have HT0 := shutX T0
  have cc := h0.at (i := 0) hk
  have e1 := fun a W => eql64_nil a W
  have e2 := fun a W => eql62_nil a W
  have e3 := fun a W => neq64_nil a W
  clear B0 bo T0
  generalize (opC x).toArray = C at *
  go_enter Tryd.func20, Tryd.ntmps20
  go_upto_region 1 with fail
  try rw [hw0]
  try rw [hgB]
  clear hw0
  rw [ha] at xa
  have he := (h0.side k hk).bk
  refine wp_region_noPanic ?_
  refine wp_region_held_drew (S := fun W => Turn (PFp (d k)) w0 W) (by kernel_rfl) ((Turn.refl _ w0).drew) (fun hHeld => ?_)
  refine' wpAnyH_take (i := 0) (v := .pointer (some ⟨tw, 0, none⟩)) rfl (by kernel_rfl) (by kernel_rfl) (by kernel_rfl) (fun _ _ _ h => h) (Or.inl ⟨by kernel_rfl, fun W hW => ?y1⟩) hHeld ?r1
  · go_simp
  refine' wpAnyH_take (i := 1) (v := .int .i64 k) rfl (by kernel_rfl) (by kernel_rfl) (by kernel_rfl) (fun _ _ _ h => h) (Or.inl ⟨by kernel_rfl, fun W hW => ?y2⟩) hHeld ?r2
  · go_simp
  refine' wpAnyH_take (i := 2) (v := .pointer (some ⟨tw, 0, none⟩)) rfl (by kernel_rfl) (by kernel_rfl) (by kernel_rfl) (fun _ _ _ h => h) (Or.inl ⟨by kernel_rfl, fun W hW => ?y3⟩) hHeld ?r3
  · go_simp
  refine' wpAnyH_take (i := 3) (v := .pointer (some ⟨tw, 0, none⟩)) rfl (by kernel_rfl) (by kernel_rfl) (by kernel_rfl) (fun _ _ _ h => h) (Or.inl ⟨by kernel_rfl, fun W hW => ?y4⟩) hHeld ?r4
  · go_simp
  refine' wpAnyH_take (i := 4) (v := .pointer (some ⟨tw, k, none⟩)) rfl (by kernel_rfl) (by kernel_rfl) (by kernel_rfl) (fun _ _ _ h => h) (Or.inl ⟨by kernel_rfl, fun W hW => ?y5⟩) hHeld ?r5
  · go_simp
  refine' wpAnyH_take (i := 5) (v := .pointer (some ⟨(d k).p, 0, none⟩)) rfl (by kernel_rfl) (by kernel_rfl) (by kernel_rfl) (fun _ _ _ h => h) (Or.inl ⟨by kernel_rfl, fun W hW => ?y6⟩) hHeld ?r6
  · have c : W.cell? ⟨tw, k, none⟩ = some (.pointer (some ⟨(d k).p, 0, none⟩)) := hW.keep cc.1 offtw
    go_simp
  refine' wpAnyH_take (i := 6) (v := .pointer (some ⟨gB, 3, none⟩)) rfl (by kernel_rfl) (by kernel_rfl) (by kernel_rfl) (fun _ _ _ h => h) (Or.inl ⟨by kernel_rfl, fun W hW => ?y7⟩) hHeld ?r7
  · go_simp
  refine' wpAnyH_take (i := 7) (v := .int .u64 0) rfl (by kernel_rfl) (by kernel_rfl) (by kernel_rfl) (fun _ _ _ h => h) (Or.inl ⟨by kernel_rfl, fun W hW => ?y8⟩) hHeld ?r8
  · have c := hW.keep xa offB
    go_simp
  refine wpAnyH_ready (rs := [8]) (by kernel_rfl) (by simp) ?_
  refine AllReadyH.cons rfl (fun K hK => ?_) AllReadyH.nil
  go_simp
  refine ((he.turn_no ((Turn.refl no w0).drew)).enter0).mono ?_
  rintro e w1 ⟨rfl, q1⟩
  subst q1
  refine hK.out _ _ ((Turn.refl _ w0).drew) (fun hHeld => ?_)
  clear hK
  refine' wpAnyH_take (i := 9) (v := .tuple #[.pointer none, .int .i64 2]) rfl (by kernel_rfl) (by kernel_rfl) (by kernel_rfl) (fun _ _ _ h => h) (Or.inl ⟨by kernel_rfl, fun W hW => ?y9⟩) hHeld ?r9
  · go_simp
  refine' wpAnyH_take (i := 10) (v := .pointer none) rfl (by kernel_rfl) (by kernel_rfl) (by kernel_rfl) (fun _ _ _ h => h) (Or.inl ⟨by kernel_rfl, fun W hW => ?y10⟩) hHeld ?r10
  · go_simp
  refine' wpAnyH_take (i := 11) (v := .int .i64 2) rfl (by kernel_rfl) (by kernel_rfl) (by kernel_rfl) (fun _ _ _ h => h) (Or.inl ⟨by kernel_rfl, fun W hW => ?y11⟩) hHeld ?r11
  · go_simp
  refine' wpAnyH_take (i := 12) (v := .pointer none) rfl (by kernel_rfl) (by kernel_rfl) (by kernel_rfl) (fun _ _ _ h => h) (Or.inl ⟨by kernel_rfl, fun W hW => ?y12⟩) hHeld ?r12
  · go_simp
  refine' wpAnyH_take (i := 13) (v := .int .i64 2) rfl (by kernel_rfl) (by kernel_rfl) (by kernel_rfl) (fun _ _ _ h => h) (Or.inl ⟨by kernel_rfl, fun W hW => ?y13⟩) hHeld ?r13
  · go_simp
  refine wpAnyH_done (by kernel_rfl) ?_ _
  refine NoPanic.normal ?_
  go_simp
  have cc2 := ((Turn.refl no w0).drew).keep cc.2.1 (fun q => q)
  have xa2 := ((Turn.refl no w0).drew).keep xa (fun q => q)
  have h1 := h0.turn_no ((Turn.refl no w0).drew)
  have T1 : Turn no w w0.drew := HT0.out.drew
  generalize w0.drew = w1 at *
  go_wp2_with fail
  refine wp_region_noPanic ?_
  refine wp_region_held_drew (S := fun W => Turn (PFp (d k)) w1 W) (by kernel_rfl) ((Turn.refl _ w1).drew) (fun hHeld => ?_)
  refine' wpAnyH_take (i := 0) (v := .pointer (some ⟨tw, 0, none⟩)) rfl (by kernel_rfl) (by kernel_rfl) (by kernel_rfl) (fun _ _ _ h => h) (Or.inl ⟨by kernel_rfl, fun W hW => ?y14⟩) hHeld ?r14
  · go_simp
  refine' wpAnyH_take (i := 1) (v := .int .i64 k) rfl (by kernel_rfl) (by kernel_rfl) (by kernel_rfl) (fun _ _ _ h => h) (Or.inl ⟨by kernel_rfl, fun W hW => ?y15⟩) hHeld ?r15
  · go_simp
  refine' wpAnyH_take (i := 2) (v := .pointer (some ⟨tw, 0, none⟩)) rfl (by kernel_rfl) (by kernel_rfl) (by kernel_rfl) (fun _ _ _ h => h) (Or.inl ⟨by kernel_rfl, fun W hW => ?y16⟩) hHeld ?r16
  · go_simp
  refine' wpAnyH_take (i := 3) (v := .pointer (some ⟨tw, 2, none⟩)) rfl (by kernel_rfl) (by kernel_rfl) (by kernel_rfl) (fun _ _ _ h => h) (Or.inl ⟨by kernel_rfl, fun W hW => ?y17⟩) hHeld ?r17
  · go_simp
  refine' wpAnyH_take (i := 4) (v := .pointer (some ⟨tw, 2 + k, none⟩)) rfl (by kernel_rfl) (by kernel_rfl) (by kernel_rfl) (fun _ _ _ h => h) (Or.inl ⟨by kernel_rfl, fun W hW => ?y18⟩) hHeld ?r18
  · go_simp
  refine' wpAnyH_take (i := 5) (v := .pointer (some ⟨(d k).q, 0, none⟩)) rfl (by kernel_rfl) (by kernel_rfl) (by kernel_rfl) (fun _ _ _ h => h) (Or.inl ⟨by kernel_rfl, fun W hW => ?y19⟩) hHeld ?r19
  · have c : W.cell? ⟨tw, 2 + k, none⟩ = some (.pointer (some ⟨(d k).q, 0, none⟩)) := hW.keep cc2 offtw
    go_simp
  refine' wpAnyH_take (i := 6) (v := .pointer (some ⟨gB, 3, none⟩)) rfl (by kernel_rfl) (by kernel_rfl) (by kernel_rfl) (fun _ _ _ h => h) (Or.inl ⟨by kernel_rfl, fun W hW => ?y20⟩) hHeld ?r20
  · go_simp
  refine' wpAnyH_take (i := 7) (v := .int .u64 0) rfl (by kernel_rfl) (by kernel_rfl) (by kernel_rfl) (fun _ _ _ h => h) (Or.inl ⟨by kernel_rfl, fun W hW => ?y21⟩) hHeld ?r21
  · have c := hW.keep xa2 offB
    go_simp
  refine wpAnyH_ready (rs := [8]) (by kernel_rfl) (by simp) ?_
  refine AllReadyH.cons rfl (fun K hK => ?_) AllReadyH.nil
  go_simp
  refine (renter_zero ((h1.side k hk).rf.turn_no ((Turn.refl no w1).drew))).mono ?_
  rintro e w2 ⟨rfl, q2⟩
  subst q2
  refine hK.out _ _ ((Turn.refl _ w1).drew) (fun hHeld => ?_)
  clear hK
  refine' wpAnyH_take (i := 9) (v := .tuple #[.pointer none, .int .i64 2]) rfl (by kernel_rfl) (by kernel_rfl) (by kernel_rfl) (fun _ _ _ h => h) (Or.inl ⟨by kernel_rfl, fun W hW => ?y22⟩) hHeld ?r22
  · go_simp
  refine' wpAnyH_take (i := 10) (v := .pointer none) rfl (by kernel_rfl) (by kernel_rfl) (by kernel_rfl) (fun _ _ _ h => h) (Or.inl ⟨by kernel_rfl, fun W hW => ?y23⟩) hHeld ?r23
  · go_simp
  refine' wpAnyH_take (i := 11) (v := .int .i64 2) rfl (by kernel_rfl) (by kernel_rfl) (by kernel_rfl) (fun _ _ _ h => h) (Or.inl ⟨by kernel_rfl, fun W hW => ?y24⟩) hHeld ?r24
  · go_simp
  refine' wpAnyH_take (i := 12) (v := .pointer none) rfl (by kernel_rfl) (by kernel_rfl) (by kernel_rfl) (fun _ _ _ h => h) (Or.inl ⟨by kernel_rfl, fun W hW => ?y25⟩) hHeld ?r25
  · go_simp
  refine' wpAnyH_take (i := 13) (v := .int .i64 2) rfl (by kernel_rfl) (by kernel_rfl) (by kernel_rfl) (fun _ _ _ h => h) (Or.inl ⟨by kernel_rfl, fun W hW => ?y26⟩) hHeld ?r26
  · go_simp
  refine wpAnyH_done (by kernel_rfl) ?_ _
  refine NoPanic.normal ?_
  go_simp
  have h2 := h1.turn_no ((Turn.refl no w1).drew)
  have T2 : Turn no w w1.drew := T1.drew
  clear h0 h1 he cc cc2 xa xa2
  generalize w1.drew = w2 at *
  go_wp2_with (go_at_call 38; refine (num38 _ _).mono ?_; rintro e wx ⟨rfl, ex⟩; subst ex)
  go_ret
  exact ⟨rfl, d, h2, Grow.refl d, T2.of_no⟩
set_option maxRecDepth 100000 in
set_option maxHeartbeats 4000000 in
theorem enters20_twice (h : Tw base w tw d vq Q) (hk : k < 2) (x : Opx) (hx : x.ok) (ha : ¬ (x.a.toNat : Int) = 0) (hin : x.a ∈ (d k).E) : Calls Tryd.prog 20 #[.pointer (some ⟨tw, 0, none⟩), .int .i64 k, .agg (opC x).toArray] w fun e w' =>
    e = .returned (.bool true) ∧ ∃ d', Tw base w' tw d' vq Q ∧ Grow d d' ∧ Turn (fun g => base ≤ g) w w' := by
  have hk' : (k : Int) < 2 := by omega
  obtain ⟨w0, hw0⟩ : ∃ w0, w.alloc (.cells (opC x).toArray 33) = w0 := ⟨_, rfl⟩
  have T0 : Turn no w w0 := by rw [← hw0]; exact (Turn.refl no w).alloc _
  have B0 : Row w0 w.heap.size (opC x).toArray 33 := by rw [← hw0]; exact Row.new w _ 33
  have bo := Bo.of hx B0
  have h0 := h.turn_no T0
  obtain ⟨gB, hgB⟩ : ∃ g, w.heap.size = g := ⟨_, rfl⟩
  rw [hgB] at bo
  have xa := bo.a
  have offtw : ¬ PFp (d k) tw := h.tw_off hk
  have offB : ¬ PFp (d k) gB := fun q => by have := (h.side k hk).lt q; omega
  have HT0 := shutX T0
  have cc := h0.at (i := 0) hk
  have e1 := fun a W => eql64_nil a W
  have e2 := fun a W => eql62_nil a W
  have e3 := fun a W => neq64_nil a W
  clear B0 bo T0
  generalize (opC x).toArray = C at *
  go_enter Tryd.func20, Tryd.ntmps20
  go_upto_region 1 with fail
  try rw [hw0]
  try rw [hgB]
  clear hw0
  have he := (h0.side k hk).bk
  refine wp_region_noPanic ?_
  refine wp_region_held_drew (S := fun W => Turn (PFp (d k)) w0 W) (by kernel_rfl) ((Turn.refl _ w0).drew) (fun hHeld => ?_)
  refine' wpAnyH_take (i := 0) (v := .pointer (some ⟨tw, 0, none⟩)) rfl (by kernel_rfl) (by kernel_rfl) (by kernel_rfl) (fun _ _ _ h => h) (Or.inl ⟨by kernel_rfl, fun W hW => ?y27⟩) hHeld ?r27
  · go_simp
  refine' wpAnyH_take (i := 1) (v := .int .i64 k) rfl (by kernel_rfl) (by kernel_rfl) (by kernel_rfl) (fun _ _ _ h => h) (Or.inl ⟨by kernel_rfl, fun W hW => ?y28⟩) hHeld ?r28
  · go_simp
  refine' wpAnyH_take (i := 2) (v := .pointer (some ⟨tw, 0, none⟩)) rfl (by kernel_rfl) (by kernel_rfl) (by kernel_rfl) (fun _ _ _ h => h) (Or.inl ⟨by kernel_rfl, fun W hW => ?y29⟩) hHeld ?r29
  · go_simp
  refine' wpAnyH_take (i := 3) (v := .pointer (some ⟨tw, 0, none⟩)) rfl (by kernel_rfl) (by kernel_rfl) (by kernel_rfl) (fun _ _ _ h => h) (Or.inl ⟨by kernel_rfl, fun W hW => ?y30⟩) hHeld ?r30
  · go_simp
  refine' wpAnyH_take (i := 4) (v := .pointer (some ⟨tw, k, none⟩)) rfl (by kernel_rfl) (by kernel_rfl) (by kernel_rfl) (fun _ _ _ h => h) (Or.inl ⟨by kernel_rfl, fun W hW => ?y31⟩) hHeld ?r31
  · go_simp
  refine' wpAnyH_take (i := 5) (v := .pointer (some ⟨(d k).p, 0, none⟩)) rfl (by kernel_rfl) (by kernel_rfl) (by kernel_rfl) (fun _ _ _ h => h) (Or.inl ⟨by kernel_rfl, fun W hW => ?y32⟩) hHeld ?r32
  · have c : W.cell? ⟨tw, k, none⟩ = some (.pointer (some ⟨(d k).p, 0, none⟩)) := hW.keep cc.1 offtw
    go_simp
  refine' wpAnyH_take (i := 6) (v := .pointer (some ⟨gB, 3, none⟩)) rfl (by kernel_rfl) (by kernel_rfl) (by kernel_rfl) (fun _ _ _ h => h) (Or.inl ⟨by kernel_rfl, fun W hW => ?y33⟩) hHeld ?r33
  · go_simp
  refine' wpAnyH_take (i := 7) (v := .int .u64 x.a.toNat) rfl (by kernel_rfl) (by kernel_rfl) (by kernel_rfl) (fun _ _ _ h => h) (Or.inl ⟨by kernel_rfl, fun W hW => ?y34⟩) hHeld ?r34
  · have c := hW.keep xa offB
    go_simp
  refine wpAnyH_ready (rs := [8]) (by kernel_rfl) (by simp) ?_
  refine AllReadyH.cons rfl (fun K hK => ?_) AllReadyH.nil
  go_simp
  refine ((he.turn_no ((Turn.refl no w0).drew)).enter2 x.a ha hin).mono ?_
  rintro e w1 ⟨rfl, bk1, t1⟩
  have TP : Turn (PFp (d k)) w0 w1 := ((Turn.refl _ w0).drew).trans t1 (fun g _ e => .inl (.inl e))
  refine hK.out _ _ TP (fun hHeld => ?_)
  clear hK
  refine' wpAnyH_take (i := 9) (v := .tuple #[.pointer none, .int .i64 30]) rfl (by kernel_rfl) (by kernel_rfl) (by kernel_rfl) (fun _ _ _ h => h) (Or.inl ⟨by kernel_rfl, fun W hW => ?y35⟩) hHeld ?r35
  · go_simp
  refine' wpAnyH_take (i := 10) (v := .pointer none) rfl (by kernel_rfl) (by kernel_rfl) (by kernel_rfl) (fun _ _ _ h => h) (Or.inl ⟨by kernel_rfl, fun W hW => ?y36⟩) hHeld ?r36
  · go_simp
  refine' wpAnyH_take (i := 11) (v := .int .i64 30) rfl (by kernel_rfl) (by kernel_rfl) (by kernel_rfl) (fun _ _ _ h => h) (Or.inl ⟨by kernel_rfl, fun W hW => ?y37⟩) hHeld ?r37
  · go_simp
  refine' wpAnyH_take (i := 12) (v := .pointer none) rfl (by kernel_rfl) (by kernel_rfl) (by kernel_rfl) (fun _ _ _ h => h) (Or.inl ⟨by kernel_rfl, fun W hW => ?y38⟩) hHeld ?r38
  · go_simp
  refine' wpAnyH_take (i := 13) (v := .int .i64 30) rfl (by kernel_rfl) (by kernel_rfl) (by kernel_rfl) (fun _ _ _ h => h) (Or.inl ⟨by kernel_rfl, fun W hW => ?y39⟩) hHeld ?r39
  · go_simp
  refine wpAnyH_done (by kernel_rfl) ?_ _
  refine NoPanic.normal ?_
  go_simp
  have cc2 := TP.keep cc.2.1 offtw
  have xa2 := TP.keep xa offB
  obtain ⟨h1, tB⟩ := h0.side_same hk TP ((h0.side k hk).bk_same (((Turn.refl _ w0).drew).trans t1 (fun _ _ q => q)) bk1)
  have T1 : Turn (fun g => base ≤ g) w w1 := HT0.out.of_no.trans tB (fun _ _ q => q)
  clear t1 TP tB bk1
  go_wp2_with fail
  refine wp_region_noPanic ?_
  refine wp_region_held_drew (S := fun W => Turn (PFp (d k)) w1 W) (by kernel_rfl) ((Turn.refl _ w1).drew) (fun hHeld => ?_)
  refine' wpAnyH_take (i := 0) (v := .pointer (some ⟨tw, 0, none⟩)) rfl (by kernel_rfl) (by kernel_rfl) (by kernel_rfl) (fun _ _ _ h => h) (Or.inl ⟨by kernel_rfl, fun W hW => ?y40⟩) hHeld ?r40
  · go_simp
  refine' wpAnyH_take (i := 1) (v := .int .i64 k) rfl (by kernel_rfl) (by kernel_rfl) (by kernel_rfl) (fun _ _ _ h => h) (Or.inl ⟨by kernel_rfl, fun W hW => ?y41⟩) hHeld ?r41
  · go_simp
  refine' wpAnyH_take (i := 2) (v := .pointer (some ⟨tw, 0, none⟩)) rfl (by kernel_rfl) (by kernel_rfl) (by kernel_rfl) (fun _ _ _ h => h) (Or.inl ⟨by kernel_rfl, fun W hW => ?y42⟩) hHeld ?r42
  · go_simp
  refine' wpAnyH_take (i := 3) (v := .pointer (some ⟨tw, 2, none⟩)) rfl (by kernel_rfl) (by kernel_rfl) (by kernel_rfl) (fun _ _ _ h => h) (Or.inl ⟨by kernel_rfl, fun W hW => ?y43⟩) hHeld ?r43
  · go_simp
  refine' wpAnyH_take (i := 4) (v := .pointer (some ⟨tw, 2 + k, none⟩)) rfl (by kernel_rfl) (by kernel_rfl) (by kernel_rfl) (fun _ _ _ h => h) (Or.inl ⟨by kernel_rfl, fun W hW => ?y44⟩) hHeld ?r44
  · go_simp
  refine' wpAnyH_take (i := 5) (v := .pointer (some ⟨(d k).q, 0, none⟩)) rfl (by kernel_rfl) (by kernel_rfl) (by kernel_rfl) (fun _ _ _ h => h) (Or.inl ⟨by kernel_rfl, fun W hW => ?y45⟩) hHeld ?r45
  · have c : W.cell? ⟨tw, 2 + k, none⟩ = some (.pointer (some ⟨(d k).q, 0, none⟩)) := hW.keep cc2 offtw
    go_simp
  refine' wpAnyH_take (i := 6) (v := .pointer (some ⟨gB, 3, none⟩)) rfl (by kernel_rfl) (by kernel_rfl) (by kernel_rfl) (fun _ _ _ h => h) (Or.inl ⟨by kernel_rfl, fun W hW => ?y46⟩) hHeld ?r46
  · go_simp
  refine' wpAnyH_take (i := 7) (v := .int .u64 x.a.toNat) rfl (by kernel_rfl) (by kernel_rfl) (by kernel_rfl) (fun _ _ _ h => h) (Or.inl ⟨by kernel_rfl, fun W hW => ?y47⟩) hHeld ?r47
  · have c := hW.keep xa2 offB
    go_simp
  refine wpAnyH_ready (rs := [8]) (by kernel_rfl) (by simp) ?_
  refine AllReadyH.cons rfl (fun K hK => ?_) AllReadyH.nil
  go_simp
  refine (renter_twice ((h1.side k hk).rf.turn_no ((Turn.refl no w1).drew)) x.a ha hin).mono ?_
  rintro e w2 ⟨rfl, q2⟩
  subst q2
  refine hK.out _ _ ((Turn.refl _ w1).drew) (fun hHeld => ?_)
  clear hK
  refine' wpAnyH_take (i := 9) (v := .tuple #[.pointer none, .int .i64 30]) rfl (by kernel_rfl) (by kernel_rfl) (by kernel_rfl) (fun _ _ _ h => h) (Or.inl ⟨by kernel_rfl, fun W hW => ?y48⟩) hHeld ?r48
  · go_simp
  refine' wpAnyH_take (i := 10) (v := .pointer none) rfl (by kernel_rfl) (by kernel_rfl) (by kernel_rfl) (fun _ _ _ h => h) (Or.inl ⟨by kernel_rfl, fun W hW => ?y49⟩) hHeld ?r49
  · go_simp
  refine' wpAnyH_take (i := 11) (v := .int .i64 30) rfl (by kernel_rfl) (by kernel_rfl) (by kernel_rfl) (fun _ _ _ h => h) (Or.inl ⟨by kernel_rfl, fun W hW => ?y50⟩) hHeld ?r50
  · go_simp
  refine' wpAnyH_take (i := 12) (v := .pointer none) rfl (by kernel_rfl) (by kernel_rfl) (by kernel_rfl) (fun _ _ _ h => h) (Or.inl ⟨by kernel_rfl, fun W hW => ?y51⟩) hHeld ?r51
  · go_simp
  refine' wpAnyH_take (i := 13) (v := .int .i64 30) rfl (by kernel_rfl) (by kernel_rfl) (by kernel_rfl) (fun _ _ _ h => h) (Or.inl ⟨by kernel_rfl, fun W hW => ?y52⟩) hHeld ?r52
  · go_simp
  refine wpAnyH_done (by kernel_rfl) ?_ _
  refine NoPanic.normal ?_
  go_simp
  have h2 := h1.turn_no ((Turn.refl no w1).drew)
  have T2 : Turn (fun g => base ≤ g) w w1.drew := T1.drew
  clear h0 h1 he cc cc2 xa xa2 T1
  generalize w1.drew = w2 at *
  go_wp2_with (go_at_call 38; refine (num38 _ _).mono ?_; rintro e wx ⟨rfl, ex⟩; subst ex)
  go_ret
  exact ⟨rfl, d, h2, Grow.refl d, T2⟩
set_option maxRecDepth 100000 in
set_option maxHeartbeats 4000000 in
theorem enters20_new (h : Tw base w tw d vq Q) (hk : k < 2) (x : Opx) (hx : x.ok) (ha : ¬ (x.a.toNat : Int) = 0) (hin : x.a ∉ (d k).E) (hm : (d k).E.length + (d k).R.length ≤ 4398046511104) : Calls Tryd.prog 20 #[.pointer (some ⟨tw, 0, none⟩), .int .i64 k, .agg (opC x).toArray] w fun e w' =>
    e = .returned (.bool true) ∧ ∃ d', Tw base w' tw d' vq Q ∧ Grow d d' ∧ Turn (fun g => base ≤ g) w w' := by
  have hk' : (k : Int) < 2 := by omega
  obtain ⟨w0, hw0⟩ : ∃ w0, w.alloc (.cells (opC x).toArray 33) = w0 := ⟨_, rfl⟩
  have T0 : Turn no w w0 := by rw [← hw0]; exact (Turn.refl no w).alloc _
  have B0 : Row w0 w.heap.size (opC x).toArray 33 := by rw [← hw0]; exact Row.new w _ 33
  have bo := Bo.of hx B0
  have h0 := h.turn_no T0
  obtain ⟨gB, hgB⟩ : ∃ g, w.heap.size = g := ⟨_, rfl⟩
  rw [hgB] at bo
  have xa := bo.a
  have offtw : ¬ PFp (d k) tw := h.tw_off hk
  have offB : ¬ PFp (d k) gB := fun q => by have := (h.side k hk).lt q; omega
  have HT0 := shutX T0
  have cc := h0.at (i := 0) hk
  have e1 := fun a W => eql64_nil a W
  have e2 := fun a W => eql62_nil a W
  have e3 := fun a W => neq64_nil a W
  clear B0 bo T0
  generalize (opC x).toArray = C at *
  go_enter Tryd.func20, Tryd.ntmps20
  go_upto_region 1 with fail
  try rw [hw0]
  try rw [hgB]
  clear hw0
  have S := h0.side k hk
  have he := S.bk
  have hsl := S.len
  have hslt := S.lent
  have hb1 : (((d k).ss.map ptr).length + 1) * 8 ≤ 140737488355328 := by simp [hsl]; omega
  have hb2 : (((d k).ts.map ptr).length + 1) * 8 ≤ 140737488355328 := by simp [hslt]; omega
  have hb3 : ((d k).ss.map ptr).length + 1 ≤ maxLen := by simp only [maxLen]; omega
  have hb4 : ((d k).ts.map ptr).length + 1 ≤ maxLen := by simp only [maxLen]; omega
  have hm1 : (d k).E.length + (d k).R.length < maxLen := by simp only [maxLen]; omega
  have hm2 : (d k).E.length ≤ 4398046511104 := by omega
  clear hsl hslt hm
  refine wp_region_noPanic ?_
  refine wp_region_held_drew (S := fun W => Turn (PFp (d k)) w0 W) (by kernel_rfl) ((Turn.refl _ w0).drew) (fun hHeld => ?_)
  refine' wpAnyH_take (i := 0) (v := .pointer (some ⟨tw, 0, none⟩)) rfl (by kernel_rfl) (by kernel_rfl) (by kernel_rfl) (fun _ _ _ h => h) (Or.inl ⟨by kernel_rfl, fun W hW => ?y53⟩) hHeld ?r53
  · go_simp
  refine' wpAnyH_take (i := 1) (v := .int .i64 k) rfl (by kernel_rfl) (by kernel_rfl) (by kernel_rfl) (fun _ _ _ h => h) (Or.inl ⟨by kernel_rfl, fun W hW => ?y54⟩) hHeld ?r54
  · go_simp
  refine' wpAnyH_take (i := 2) (v := .pointer (some ⟨tw, 0, none⟩)) rfl (by kernel_rfl) (by kernel_rfl) (by kernel_rfl) (fun _ _ _ h => h) (Or.inl ⟨by kernel_rfl, fun W hW => ?y55⟩) hHeld ?r55
  · go_simp
  refine' wpAnyH_take (i := 3) (v := .pointer (some ⟨tw, 0, none⟩)) rfl (by kernel_rfl) (by kernel_rfl) (by kernel_rfl) (fun _ _ _ h => h) (Or.inl ⟨by kernel_rfl, fun W hW => ?y56⟩) hHeld ?r56
  · go_simp
  refine' wpAnyH_take (i := 4) (v := .pointer (some ⟨tw, k, none⟩)) rfl (by kernel_rfl) (by kernel_rfl) (by kernel_rfl) (fun _ _ _ h => h) (Or.inl ⟨by kernel_rfl, fun W hW => ?y57⟩) hHeld ?r57
  · go_simp
  refine' wpAnyH_take (i := 5) (v := .pointer (some ⟨(d k).p, 0, none⟩)) rfl (by kernel_rfl) (by kernel_rfl) (by kernel_rfl) (fun _ _ _ h => h) (Or.inl ⟨by kernel_rfl, fun W hW => ?y58⟩) hHeld ?r58
  · have c : W.cell? ⟨tw, k, none⟩ = some (.pointer (some ⟨(d k).p, 0, none⟩)) := hW.keep cc.1 offtw
    go_simp
  refine' wpAnyH_take (i := 6) (v := .pointer (some ⟨gB, 3, none⟩)) rfl (by kernel_rfl) (by kernel_rfl) (by kernel_rfl) (fun _ _ _ h => h) (Or.inl ⟨by kernel_rfl, fun W hW => ?y59⟩) hHeld ?r59
  · go_simp
  refine' wpAnyH_take (i := 7) (v := .int .u64 x.a.toNat) rfl (by kernel_rfl) (by kernel_rfl) (by kernel_rfl) (fun _ _ _ h => h) (Or.inl ⟨by kernel_rfl, fun W hW => ?y60⟩) hHeld ?r60
  · have c := hW.keep xa offB
    go_simp
  refine wpAnyH_ready (rs := [8]) (by kernel_rfl) (by simp) ?_
  refine AllReadyH.cons rfl (fun K hK => ?_) AllReadyH.nil
  go_simp
  refine ((he.turn_no ((Turn.refl no w0).drew)).enter1 x.a ha hin hm1).mono ?_
  rintro e w1 ⟨s, rfl, hs, sg1, bk1, t1⟩
  have t01 : Turn (fun g => g = (d k).p ∨ g = (d k).bt) w0 w1 := ((Turn.refl _ w0).drew).trans t1 (fun _ _ e => e)
  have TP : Turn (PFp (d k)) w0 w1 := t01.mono (fun g _ e => by
    rcases e with e | e
    · exact .inl (.inl e)
    · exact .inl (.inr (.inr (.inl e))))
  refine hK.out _ _ TP (fun hHeld => ?_)
  clear hK
  refine' wpAnyH_take (i := 9) (v := .tuple #[.pointer (some ⟨s, 0, none⟩), .int .i64 0]) rfl (by kernel_rfl) (by kernel_rfl) (by kernel_rfl) (fun _ _ _ h => h) (Or.inl ⟨by kernel_rfl, fun W hW => ?y61⟩) hHeld ?r61
  · go_simp
  refine' wpAnyH_take (i := 10) (v := .pointer (some ⟨s, 0, none⟩)) rfl (by kernel_rfl) (by kernel_rfl) (by kernel_rfl) (fun _ _ _ h => h) (Or.inl ⟨by kernel_rfl, fun W hW => ?y62⟩) hHeld ?r62
  · go_simp
  refine' wpAnyH_take (i := 11) (v := .int .i64 0) rfl (by kernel_rfl) (by kernel_rfl) (by kernel_rfl) (fun _ _ _ h => h) (Or.inl ⟨by kernel_rfl, fun W hW => ?y63⟩) hHeld ?r63
  · go_simp
  refine' wpAnyH_take (i := 12) (v := .pointer (some ⟨s, 0, none⟩)) rfl (by kernel_rfl) (by kernel_rfl) (by kernel_rfl) (fun _ _ _ h => h) (Or.inl ⟨by kernel_rfl, fun W hW => ?y64⟩) hHeld ?r64
  · go_simp
  refine' wpAnyH_take (i := 13) (v := .int .i64 0) rfl (by kernel_rfl) (by kernel_rfl) (by kernel_rfl) (fun _ _ _ h => h) (Or.inl ⟨by kernel_rfl, fun W hW => ?y65⟩) hHeld ?r65
  · go_simp
  refine wpAnyH_done (by kernel_rfl) ?_ _
  refine NoPanic.normal ?_
  go_simp
  have cc2 := TP.keep cc.2.1 offtw
  have xa2 := TP.keep xa offB
  have rf1 := (S.keepR (t01.mono (fun g _ e => by
    rcases e with e | e
    · exact .inl e
    · exact .inr (.inr (.inl e))))).1
  go_wp2_with fail
  refine wp_region_noPanic ?_
  refine wp_region_held_drew (S := fun W => Turn (PFp (d k)) w1 W) (by kernel_rfl) ((Turn.refl _ w1).drew) (fun hHeld => ?_)
  refine' wpAnyH_take (i := 0) (v := .pointer (some ⟨tw, 0, none⟩)) rfl (by kernel_rfl) (by kernel_rfl) (by kernel_rfl) (fun _ _ _ h => h) (Or.inl ⟨by kernel_rfl, fun W hW => ?y66⟩) hHeld ?r66
  · go_simp
  refine' wpAnyH_take (i := 1) (v := .int .i64 k) rfl (by kernel_rfl) (by kernel_rfl) (by kernel_rfl) (fun _ _ _ h => h) (Or.inl ⟨by kernel_rfl, fun W hW => ?y67⟩) hHeld ?r67
  · go_simp
  refine' wpAnyH_take (i := 2) (v := .pointer (some ⟨tw, 0, none⟩)) rfl (by kernel_rfl) (by kernel_rfl) (by kernel_rfl) (fun _ _ _ h => h) (Or.inl ⟨by kernel_rfl, fun W hW => ?y68⟩) hHeld ?r68
  · go_simp
  refine' wpAnyH_take (i := 3) (v := .pointer (some ⟨tw, 2, none⟩)) rfl (by kernel_rfl) (by kernel_rfl) (by kernel_rfl) (fun _ _ _ h => h) (Or.inl ⟨by kernel_rfl, fun W hW => ?y69⟩) hHeld ?r69
  · go_simp
  refine' wpAnyH_take (i := 4) (v := .pointer (some ⟨tw, 2 + k, none⟩)) rfl (by kernel_rfl) (by kernel_rfl) (by kernel_rfl) (fun _ _ _ h => h) (Or.inl ⟨by kernel_rfl, fun W hW => ?y70⟩) hHeld ?r70
  · go_simp
  refine' wpAnyH_take (i := 5) (v := .pointer (some ⟨(d k).q, 0, none⟩)) rfl (by kernel_rfl) (by kernel_rfl) (by kernel_rfl) (fun _ _ _ h => h) (Or.inl ⟨by kernel_rfl, fun W hW => ?y71⟩) hHeld ?r71
  · have c : W.cell? ⟨tw, 2 + k, none⟩ = some (.pointer (some ⟨(d k).q, 0, none⟩)) := hW.keep cc2 offtw
    go_simp
  refine' wpAnyH_take (i := 6) (v := .pointer (some ⟨gB, 3, none⟩)) rfl (by kernel_rfl) (by kernel_rfl) (by kernel_rfl) (fun _ _ _ h => h) (Or.inl ⟨by kernel_rfl, fun W hW => ?y72⟩) hHeld ?r72
  · go_simp
  refine' wpAnyH_take (i := 7) (v := .int .u64 x.a.toNat) rfl (by kernel_rfl) (by kernel_rfl) (by kernel_rfl) (fun _ _ _ h => h) (Or.inl ⟨by kernel_rfl, fun W hW => ?y73⟩) hHeld ?r73
  · have c := hW.keep xa2 offB
    go_simp
  refine wpAnyH_ready (rs := [8]) (by kernel_rfl) (by simp) ?_
  refine AllReadyH.cons rfl (fun K hK => ?_) AllReadyH.nil
  go_simp
  refine (renter_new (rf1.turn_no ((Turn.refl no w1).drew)) x.a ha hin hm2).mono ?_
  rintro e w2 ⟨t, ve', rfl, ht, rs2, rf2, fve, t2⟩
  have t12 : Turn (fun g => g = (d k).q ∨ (d k).ve.ownBlock = some g) w1 w2 := ((Turn.refl _ w1).drew).trans t2 (fun _ _ e => e)
  have TQ : Turn (PFp (d k)) w1 w2 := t12.mono (fun g _ e => by
    rcases e with e | e
    · exact .inr (.inl (.inl e))
    · exact .inr (.inl (.inr (.inl e))))
  refine hK.out _ _ TQ (fun hHeld => ?_)
  clear hK
  refine' wpAnyH_take (i := 9) (v := .tuple #[.pointer (some ⟨t, 0, none⟩), .int .i64 0]) rfl (by kernel_rfl) (by kernel_rfl) (by kernel_rfl) (fun _ _ _ h => h) (Or.inl ⟨by kernel_rfl, fun W hW => ?y74⟩) hHeld ?r74
  · go_simp
  refine' wpAnyH_take (i := 10) (v := .pointer (some ⟨t, 0, none⟩)) rfl (by kernel_rfl) (by kernel_rfl) (by kernel_rfl) (fun _ _ _ h => h) (Or.inl ⟨by kernel_rfl, fun W hW => ?y75⟩) hHeld ?r75
  · go_simp
  refine' wpAnyH_take (i := 11) (v := .int .i64 0) rfl (by kernel_rfl) (by kernel_rfl) (by kernel_rfl) (fun _ _ _ h => h) (Or.inl ⟨by kernel_rfl, fun W hW => ?y76⟩) hHeld ?r76
  · go_simp
  refine' wpAnyH_take (i := 12) (v := .pointer (some ⟨t, 0, none⟩)) rfl (by kernel_rfl) (by kernel_rfl) (by kernel_rfl) (fun _ _ _ h => h) (Or.inl ⟨by kernel_rfl, fun W hW => ?y77⟩) hHeld ?r77
  · go_simp
  refine' wpAnyH_take (i := 13) (v := .int .i64 0) rfl (by kernel_rfl) (by kernel_rfl) (by kernel_rfl) (fun _ _ _ h => h) (Or.inl ⟨by kernel_rfl, fun W hW => ?y78⟩) hHeld ?r78
  · go_simp
  refine wpAnyH_done (by kernel_rfl) ?_ _
  refine NoPanic.normal ?_
  go_simp
  have T02 : Turn (PFp (d k)) w0 w2 := TP.trans TQ (fun _ _ e => e)
  have R2 := h0.row.turn T02 offtw
  have os2 : Own w2 62 (d k).vs ((d k).ss.map ptr) := by
    have o1 := (S.keepR (t01.mono (fun g _ e => by
      rcases e with e | e
      · exact .inl e
      · exact .inr (.inr (.inl e))))).2.1
    refine o1.turn t12 (fun g hg e => ?_)
    obtain ⟨c, ho⟩ := S.os.obj hg
    exact S.off_rf ho (by decide) (by decide) (by decide) (by
      rcases e with e | e
      · exact .inl e
      · exact .inr (.inl e))
  have ot2 : Own w2 64 (d k).vt ((d k).ts.map ptr) := by
    have o1 := (S.keepR (t01.mono (fun g _ e => by
      rcases e with e | e
      · exact .inl e
      · exact .inr (.inr (.inl e))))).2.2.1
    refine o1.turn t12 (fun g hg e => ?_)
    obtain ⟨c, ho⟩ := S.ot.obj hg
    exact S.off_rf ho (by decide) (by decide) (by decide) (by
      rcases e with e | e
      · exact .inl e
      · exact .inr (.inl e))
  have c4 : w2.cell? ⟨tw, 4 + k, none⟩ = some (d k).vs := T02.keep cc.2.2.1 offtw
  have hvsn : ∀ g, (d k).vs.ownBlock = some g → (d k).vt.ownBlock ≠ some g := fun g e e' => by
    obtain ⟨c, ho⟩ := S.os.obj e
    obtain ⟨c', ho'⟩ := S.ot.obj e'
    exact absurd (tag_ne ho ho') (by decide)
  have ht0 : w1.heap.size ≤ t := ht
  have hs0 : w0.heap.size ≤ s := hs
  have ENT := fun (w3 w5 : World) (vs' vt' : Value) => h0.entered (w3 := w3) (w5 := w5) (vs' := vs') (vt' := vt') hk x.a s t t01 hs0 sg1 bk1 t12 ht0 rs2 rf2 fve
  have HENT := shutX ENT
  have HS := shutX S
  have Hh0 := shutX h0
  clear ENT S h0 he rf1 t1 t2 ht hs sg1 bk1 rs2 rf2 fve TP TQ T02 cc cc2 xa xa2 t01 t12
  go_wp2_with (go_at_call 38; refine (num38 _ _).mono ?_; rintro e wx ⟨rfl, ex⟩; have ex := ex.symm; subst ex)
  obtain ⟨vsa, vsn, vsc, hvs⟩ := os2.shp
  rw [hvs] at c4 os2
  have hpl := R2.lt
  go_region_law (refine step_append_src rfl (.tmp 56) (.tmp 58) rfl Tryd.underlying38 info62 rfl (.slice vsa vsn vsc) ((d k).ss.map ptr) (by simp [Act.eval]) (os2.turn_no (((Turn.refl no w2).drew).alloc _)) _ 1 [ptr s] (by simp [Act.eval]) (src_oneT Tryd.underlying38 w2.drew (ptr s) rfl) hb1 hb3 ?_; intro v3 w3 o3 g3
                 rw [← hvs] at g3
                 have t23 : Turn (fun g => (d k).vs.ownBlock = some g) w2 w3 := ((((Turn.refl no w2).drew).alloc _).of_no).trans g3.turn (fun _ _ q => q)
                 have r3 := R2.turn t23 (fun q => offtw (.inr (.inr (.inl q))))
                 have f1 := Row.frozen r3 (4 + k)
                 have a1 : w3.cell? ⟨tw, 4 + k, none⟩ = some (d k).vs := by
                   have := r3.cell (4 + k) (d k).vs (by rcases two k hk with rfl | rfl <;> rfl)
                   exact this
                 have fv3 : ∀ g, v3.ownBlock = some g → (d k).vs.ownBlock = some g ∨ w2.heap.size ≤ g := fun g hg => by
                   rcases g3.blk with e | ⟨g', e, h1, _⟩
                   · exact .inl (by rw [← e]; exact hg)
                   · rw [e] at hg
                     cases hg
                     simp at h1
                     exact .inr (by omega)
                 obtain ⟨ad, ln, cp, hv3⟩ := o3.shp
                 subst hv3)
  all_goals
    have r4 : Row (w3.setCell ⟨tw, 4 + k, none⟩ (.slice ad ln cp)) tw (twC (updP d k { d k with vs := .slice ad ln cp }) vq) 44 := by
      have := r3.set (4 + k) (.slice ad ln cp)
      rwa [twC_set4 d vq hk] at this
    have tS : Turn (fun g => g = tw) w3 (w3.setCell ⟨tw, 4 + k, none⟩ (.slice ad ln cp)) := (Turn.refl (fun g => g = tw) w3).setCell (p := ⟨tw, 4 + k, none⟩) (fun _ => rfl) _
    have ot4 := (ot2.turn t23 (fun g hg e => hvsn g e hg)).turn tS (fun g hg e => offtw (by subst e; exact .inr (.inr (.inr (.inl hg)))))
    have c6 : (w3.setCell ⟨tw, 4 + k, none⟩ (.slice ad ln cp)).cell? ⟨tw, 6 + k, none⟩ = some (d k).vt := r4.cell (6 + k) (d k).vt (by rcases two k hk with rfl | rfl <;> rfl)
    have E2 := HENT.out w3
    have sz24 : w2.heap.size ≤ (w3.setCell ⟨tw, 4 + k, none⟩ (.slice ad ln cp)).heap.size := Nat.le_trans t23.size tS.size
    obtain ⟨w4, hw4⟩ : ∃ w4, w3.setCell ⟨tw, 4 + k, none⟩ (.slice ad ln cp) = w4 := ⟨_, rfl⟩
    have E3 := fun w5 vt' => E2 w5 (.slice ad ln cp) vt' t23 o3 fv3
    rw [hw4] at r4 ot4 c6 sz24 E3 ⊢
    have HE3 := shutX E3
    have HHw4 := shutX hw4
    clear E2 E3 hw4 tS r3 f1 a1 g3 o3 fv3 t23 c4 os2 R2 hpl HENT
    obtain ⟨vta, vtn, vtc, hvt⟩ := ot4.shp
    rw [hvt] at c6 ot4
    have hpl := r4.lt
    go_wp2_with fail
    go_region_law (refine step_append_src rfl (.tmp 70) (.tmp 72) rfl Tryd.underlying40 info64 rfl (.slice vta vtn vtc) ((d k).ts.map ptr) (by simp [Act.eval]) (ot4.turn_no (((Turn.refl no w4).drew).alloc _)) _ 1 [ptr t] (by simp [Act.eval]) (src_oneT Tryd.underlying40 w4.drew (ptr t) rfl) hb2 hb4 ?_; intro v5 w5 o5 g5
                   rw [← hvt] at g5
                   have t45 : Turn (fun g => (d k).vt.ownBlock = some g) w4 w5 := ((((Turn.refl no w4).drew).alloc _).of_no).trans g5.turn (fun _ _ q => q)
                   have fv5 : ∀ g, v5.ownBlock = some g → (d k).vt.ownBlock = some g ∨ w2.heap.size ≤ g := fun g hg => by
                     rcases g5.blk with e | ⟨g', e, h1, _⟩
                     · exact .inl (by rw [← e]; exact hg)
                     · rw [e] at hg
                       cases hg
                       simp at h1
                       exact .inr (by omega)
                   have FIN := HE3.out w5 v5 t45 o5 fv5
                   have r5 := FIN.1
                   have f2 := Row.frozen r5 (6 + k)
                   have a2 : w5.cell? ⟨tw, 6 + k, none⟩ = some (d k).vt := r5.cell (6 + k) (d k).vt (by rcases two k hk with rfl | rfl <;> rfl)
                   have HFIN := shutX FIN.2
                   clear FIN r5
                   obtain ⟨ad2, ln2, cp2, hv5⟩ := o5.shp
                   subst hv5)
  all_goals
    go_wp2_with fail
    go_ret
    refine ⟨rfl, _, HFIN.out.1, fun j => ?_, HT0.out.of_no.trans HFIN.out.2 (fun _ _ e => e)⟩
    unfold updP
    split
    · rename_i e
      subst e
      exact ⟨by simp [Pd.enter], by simp [Pd.enter], by simp [Pd.enter]; omega⟩
    · exact ⟨by omega, by omega, by omega⟩
theorem enters20 (h : Tw base w tw d vq Q) (hk : k < 2) (x : Opx) (hx : x.ok) (hm : (d k).E.length + (d k).R.length ≤ 4398046511104) : Calls Tryd.prog 20 #[.pointer (some ⟨tw, 0, none⟩), .int .i64 k, .agg (opC x).toArray] w fun e w' =>
    e = .returned (.bool true) ∧ ∃ d', Tw base w' tw d' vq Q ∧ Grow d d' ∧ Turn (fun g => base ≤ g) w w' := by
  by_cases ha : (x.a.toNat : Int) = 0
  · exact enters20_zero h hk x hx ha
  · by_cases hin : x.a ∈ (d k).E
    · exact enters20_twice h hk x hx ha hin
    · exact enters20_new h hk x hx ha hin hm
end
end Go.Proofs.YtnlcngcilojnkabDoor
