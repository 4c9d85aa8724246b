/- step: one call of a script, on both sides of a pair. -/
import Derived.Test.YtnlcngcilojnkabDoorP7
import Derived.Test.YtnlcngcilojnkabDoorP4
namespace Go.Proofs.YtnlcngcilojnkabDoor
open Go.RowKit Go.Maps Go.MuLone
set_option linter.unusedVariables false

theorem i64_and1 (n : Int) : bits .and .i64 n 1 = n % 2 := by
  have h127 : (BitVec.ofInt 64 1).toNat = 2 ^ 1 - 1 := by decide
  have key : (BitVec.ofInt 64 n &&& BitVec.ofInt 64 1).toNat = (n % ((2 ^ 64 : Nat) : Int)).toNat % 2 ^ 1 := by
    rw [BitVec.toNat_and, BitVec.toNat_ofInt, h127, Nat.and_two_pow_sub_one_eq_mod]
  show IntKind.i64.wrap ((BitVec.ofInt 64 n &&& BitVec.ofInt 64 1).toNat : Nat) = n % 2
  rw [key, IntKind.wrap_i64]
  omega
def Opx.k (x : Opx) : Nat := (x.who % 2).toNat
theorem Opx.k_lt (x : Opx) : x.k < 2 := by unfold Opx.k; omega
theorem Opx.k_eq (x : Opx) : x.who % 2 = (x.k : Int) := by unfold Opx.k; omega
/-- What a step leaves. -/
def After (base : Nat) (w : World) (tw : Nat) (d : Nat → Pd) (Q : List (List UInt8)) (w' : World) : Prop := ∃ d' vq' Q', Tw base w' tw d' vq' Q' ∧ Grow d d' ∧ Q'.length ≤ Q.length + 1 ∧ Turn (fun g => base ≤ g) w w'
section
variable {base : Nat} {w : World} {tw : Nat} {d : Nat → Pd} {vq : Value} {Q : List (List UInt8)} {k : Nat}
theorem After.pre {w0 w' : World} (h : After base w0 tw d Q w') (t : Turn no w w0) : After base w tw d Q w' := by
  obtain ⟨d', vq', Q', a, b, c, e⟩ := h
  exact ⟨d', vq', Q', a, b, c, t.of_no.trans e (fun _ _ q => q)⟩
theorem After.same {w' : World} (h : Tw base w' tw d vq Q) (t : Turn (fun g => base ≤ g) w w') : After base w tw d Q w' := ⟨d, vq, Q, h, Grow.refl d, by omega, t⟩
set_option maxRecDepth 100000 in
set_option maxHeartbeats 4000000 in
theorem signs21_none (h : Tw base w tw d vq Q) (hk : k < 2) (x : Opx) (hx : x.ok) (hE : (d k).E.length = 0) : Calls Tryd.prog 21 #[.pointer (some ⟨tw, 0, none⟩), .int .i64 k, .agg (opC x).toArray] w fun e w' =>
    e = .returned (.bool true) ∧ After base w tw d Q w' := by
  have hk' : (k : Int) < 2 := by omega
  obtain ⟨w0, hw0⟩ : ∃ w0, w.alloc (.cells (opC x).toArray 33) = w0 := ⟨_, rfl⟩
  have T0 : Turn no w w0 := by rw [← hw0]; exact (Turn.refl no w).alloc _
  have h0 := h.turn_no T0
  have c4 : w0.cell? ⟨tw, 4 + k, none⟩ = some (d k).vs := (h0.at (i := 0) hk).2.2.1
  obtain ⟨va, vc, hvs⟩ : ∃ a c, (d k).vs = .slice a 0 c := by
    have hl := (h0.side k hk).len
    rcases (h0.side k hk).os.shape with ⟨e, _⟩ | ⟨g, cap, cur, e, _⟩
    · exact ⟨none, 0, e⟩
    · have hz : (d k).ss.length = 0 := by omega
      exact ⟨_, cap, by rw [e, List.length_map, hz]⟩
  rw [hvs] at c4
  have HT0 := shutX T0
  have Hh0 := shutX h0
  clear T0 h0
  generalize (opC x).toArray = C at *
  go_enter Tryd.func21, Tryd.ntmps21
  go_upto_region 1 with fail
  try rw [hw0]
  clear hw0
  go_wp2_with fail
  go_ret
  exact ⟨rfl, .same Hh0.out HT0.out.of_no⟩
theorem signs21 (h : Tw base w tw d vq Q) (hk : k < 2) (x : Opx) (hx : x.ok) (hb : Bs w x.va x.bs) (hl0 : Laid0 w) (hl1 : Laid1 w) (h2 : 2 ≤ base) (hm : (d k).E.length + (d k).R.length ≤ 1599289640401) (hQl : Q.length ≤ 4398046511104) : Calls Tryd.prog 21 #[.pointer (some ⟨tw, 0, none⟩), .int .i64 k, .agg (opC x).toArray] w fun e w' =>
    e = .returned (.bool true) ∧ After base w tw d Q w' := by
  by_cases hE : (d k).E.length = 0
  · exact signs21_none h hk x hx hE
  · exact signs21_some h hk x hx hb hl0 hl1 h2 hm hQl (by omega)
set_option maxRecDepth 100000 in
set_option maxHeartbeats 4000000 in
theorem step10_enter (h : Tw base w tw d vq Q) (x : Opx) (hx : x.ok) (hb : Bs w x.va x.bs) (hl0 : Laid0 w) (hl1 : Laid1 w) (h2 : 2 ≤ base) (hm : ∀ k, k < 2 → (d k).E.length + (d k).R.length ≤ 1599289640401) (hQl : Q.length ≤ 4398046511104) (hK : x.kind = 1) : Calls Tryd.prog 10 #[.pointer (some ⟨tw, 0, none⟩), .agg (opC x).toArray] w fun e w' =>
    e = .returned (.bool true) ∧ After base w tw d Q w' := by
  have hk := x.k_lt
  have hand := i64_and1 x.who
  rw [x.k_eq] at hand
  obtain ⟨w0, hw0⟩ : ∃ w0, w.alloc (.cells (opC x).toArray 33) = w0 := ⟨_, rfl⟩
  have T0 : Turn no w w0 := by rw [← hw0]; exact (Turn.refl no w).alloc _
  have B0 : Row w0 w.heap.size (opC x).toArray 33 := by rw [← hw0]; exact Row.new w _ 33
  have bo := Bo.of hx B0
  have h0 := h.turn_no T0
  obtain ⟨gB, hgB⟩ : ∃ g, w.heap.size = g := ⟨_, rfl⟩
  rw [hgB] at B0 bo
  have s33 := sizeOp hx
  have xw := bo.who
  have xk := bo.kind
  have xa := bo.a
  have xp := bo.pos
  generalize hkk : x.k = k at *
  have hk' : (k : Int) < 2 := by omega
  have HT0 := shutX T0
  have Hh0 := shutX h0
  have hb0 := hb.turn_no T0
  have hl00 := hl0.turn T0 (fun q => q)
  have hl10 := hl1.turn T0 (fun q => q)
  have hmk := hm k hk
  have gBl := B0.lt
  have offB : ¬ PFp (d k) gB := (h0.side k hk).away B0 (by decide)
  have offtw := h0.tw_off hk
  have cp0 : w0.cell? ⟨tw, k, none⟩ = some (.pointer (some ⟨(d k).p, 0, none⟩)) := (h0.at (i := 0) hk).1
  have cq0 : w0.cell? ⟨tw, 2 + k, none⟩ = some (.pointer (some ⟨(d k).q, 0, none⟩)) := (h0.at (i := 0) hk).2.1
  have c4 : w0.cell? ⟨tw, 4 + k, none⟩ = some (d k).vs := (h0.at (i := 0) hk).2.2.1
  have c6 : w0.cell? ⟨tw, 6 + k, none⟩ = some (d k).vt := (h0.at (i := 0) hk).2.2.2
  rw [hK] at xk
  have cc := enters20 h0 hk x hx (by omega)
  clear hb hl0 hl1 bo T0 h0 h
  generalize hCC : (opC x).toArray = C at *
  go_enter Tryd.func10, Tryd.ntmps10
  go_upto_region 1 with fail
  try rw [hw0]
  try rw [hgB]
  clear hw0
  go_wp2_with (first | (refine wpList_load_row rfl 33 (.tmp 3) rfl gB rfl 33 C _ _ B0 Tryd.underlying33 rfl s33 ?_) | (go_at_call 20; refine cc.mono ?_; rintro e w1 ⟨rfl, d', a1, a2, a3⟩; have FIN : Shut (After base w0 tw d Q w1) := ⟨d', vq, Q, a1, a2, by omega, a3⟩))
  go_ret
  exact ⟨rfl, FIN.out.pre HT0.out⟩
set_option maxRecDepth 100000 in
set_option maxHeartbeats 4000000 in
theorem step10_sign (h : Tw base w tw d vq Q) (x : Opx) (hx : x.ok) (hb : Bs w x.va x.bs) (hl0 : Laid0 w) (hl1 : Laid1 w) (h2 : 2 ≤ base) (hm : ∀ k, k < 2 → (d k).E.length + (d k).R.length ≤ 1599289640401) (hQl : Q.length ≤ 4398046511104) (hK : x.kind = 2) : Calls Tryd.prog 10 #[.pointer (some ⟨tw, 0, none⟩), .agg (opC x).toArray] w fun e w' =>
    e = .returned (.bool true) ∧ After base w tw d Q w' := by
  have hk := x.k_lt
  have hand := i64_and1 x.who
  rw [x.k_eq] at hand
  obtain ⟨w0, hw0⟩ : ∃ w0, w.alloc (.cells (opC x).toArray 33) = w0 := ⟨_, rfl⟩
  have T0 : Turn no w w0 := by rw [← hw0]; exact (Turn.refl no w).alloc _
  have B0 : Row w0 w.heap.size (opC x).toArray 33 := by rw [← hw0]; exact Row.new w _ 33
  have bo := Bo.of hx B0
  have h0 := h.turn_no T0
  obtain ⟨gB, hgB⟩ : ∃ g, w.heap.size = g := ⟨_, rfl⟩
  rw [hgB] at B0 bo
  have s33 := sizeOp hx
  have xw := bo.who
  have xk := bo.kind
  have xa := bo.a
  have xp := bo.pos
  generalize hkk : x.k = k at *
  have hk' : (k : Int) < 2 := by omega
  have HT0 := shutX T0
  have Hh0 := shutX h0
  have hb0 := hb.turn_no T0
  have hl00 := hl0.turn T0 (fun q => q)
  have hl10 := hl1.turn T0 (fun q => q)
  have hmk := hm k hk
  have gBl := B0.lt
  have offB : ¬ PFp (d k) gB := (h0.side k hk).away B0 (by decide)
  have offtw := h0.tw_off hk
  have cp0 : w0.cell? ⟨tw, k, none⟩ = some (.pointer (some ⟨(d k).p, 0, none⟩)) := (h0.at (i := 0) hk).1
  have cq0 : w0.cell? ⟨tw, 2 + k, none⟩ = some (.pointer (some ⟨(d k).q, 0, none⟩)) := (h0.at (i := 0) hk).2.1
  have c4 : w0.cell? ⟨tw, 4 + k, none⟩ = some (d k).vs := (h0.at (i := 0) hk).2.2.1
  have c6 : w0.cell? ⟨tw, 6 + k, none⟩ = some (d k).vt := (h0.at (i := 0) hk).2.2.2
  rw [hK] at xk
  have cc := signs21 h0 hk x hx hb0 hl00 hl10 h2 hmk hQl
  clear hb hl0 hl1 bo T0 h0 h
  generalize hCC : (opC x).toArray = C at *
  go_enter Tryd.func10, Tryd.ntmps10
  go_upto_region 1 with fail
  try rw [hw0]
  try rw [hgB]
  clear hw0
  go_wp2_with (first | (refine wpList_load_row rfl 33 (.tmp 3) rfl gB rfl 33 C _ _ B0 Tryd.underlying33 rfl s33 ?_) | (go_at_call 21; refine cc.mono ?_; rintro e w1 ⟨rfl, a1⟩; have FIN : Shut (After base w0 tw d Q w1) := a1))
  go_ret
  exact ⟨rfl, FIN.out.pre HT0.out⟩
set_option maxRecDepth 100000 in
set_option maxHeartbeats 4000000 in
theorem step10_check (h : Tw base w tw d vq Q) (x : Opx) (hx : x.ok) (hb : Bs w x.va x.bs) (hl0 : Laid0 w) (hl1 : Laid1 w) (h2 : 2 ≤ base) (hm : ∀ k, k < 2 → (d k).E.length + (d k).R.length ≤ 1599289640401) (hQl : Q.length ≤ 4398046511104) (hK : x.kind = 3) : Calls Tryd.prog 10 #[.pointer (some ⟨tw, 0, none⟩), .agg (opC x).toArray] w fun e w' =>
    e = .returned (.bool true) ∧ After base w tw d Q w' := by
  have hk := x.k_lt
  have hand := i64_and1 x.who
  rw [x.k_eq] at hand
  obtain ⟨w0, hw0⟩ : ∃ w0, w.alloc (.cells (opC x).toArray 33) = w0 := ⟨_, rfl⟩
  have T0 : Turn no w w0 := by rw [← hw0]; exact (Turn.refl no w).alloc _
  have B0 : Row w0 w.heap.size (opC x).toArray 33 := by rw [← hw0]; exact Row.new w _ 33
  have bo := Bo.of hx B0
  have h0 := h.turn_no T0
  obtain ⟨gB, hgB⟩ : ∃ g, w.heap.size = g := ⟨_, rfl⟩
  rw [hgB] at B0 bo
  have s33 := sizeOp hx
  have xw := bo.who
  have xk := bo.kind
  have xa := bo.a
  have xp := bo.pos
  generalize hkk : x.k = k at *
  have hk' : (k : Int) < 2 := by omega
  have HT0 := shutX T0
  have Hh0 := shutX h0
  have hb0 := hb.turn_no T0
  have hl00 := hl0.turn T0 (fun q => q)
  have hl10 := hl1.turn T0 (fun q => q)
  have hmk := hm k hk
  have gBl := B0.lt
  have offB : ¬ PFp (d k) gB := (h0.side k hk).away B0 (by decide)
  have offtw := h0.tw_off hk
  have cp0 : w0.cell? ⟨tw, k, none⟩ = some (.pointer (some ⟨(d k).p, 0, none⟩)) := (h0.at (i := 0) hk).1
  have cq0 : w0.cell? ⟨tw, 2 + k, none⟩ = some (.pointer (some ⟨(d k).q, 0, none⟩)) := (h0.at (i := 0) hk).2.1
  have c4 : w0.cell? ⟨tw, 4 + k, none⟩ = some (d k).vs := (h0.at (i := 0) hk).2.2.1
  have c6 : w0.cell? ⟨tw, 6 + k, none⟩ = some (d k).vt := (h0.at (i := 0) hk).2.2.2
  rw [hK] at xk
  have cc := checks22 h0 hk x hx hb0 hl00 hl10 h2
  clear hb hl0 hl1 bo T0 h0 h
  generalize hCC : (opC x).toArray = C at *
  go_enter Tryd.func10, Tryd.ntmps10
  go_upto_region 1 with fail
  try rw [hw0]
  try rw [hgB]
  clear hw0
  go_wp2_with (first | (refine wpList_load_row rfl 33 (.tmp 3) rfl gB rfl 33 C _ _ B0 Tryd.underlying33 rfl s33 ?_) | (go_at_call 22; refine cc.mono ?_; rintro e w1 ⟨rfl, a1, a2⟩; have FIN : Shut (After base w0 tw d Q w1) := After.same a1 a2))
  go_ret
  exact ⟨rfl, FIN.out.pre HT0.out⟩
set_option maxRecDepth 100000 in
set_option maxHeartbeats 4000000 in
theorem step10_else (h : Tw base w tw d vq Q) (x : Opx) (hx : x.ok) (hb : Bs w x.va x.bs) (hl0 : Laid0 w) (hl1 : Laid1 w) (h2 : 2 ≤ base) (hm : ∀ k, k < 2 → (d k).E.length + (d k).R.length ≤ 1599289640401) (hQl : Q.length ≤ 4398046511104) (hK : x.kind ≠ 1 ∧ x.kind ≠ 2 ∧ x.kind ≠ 3 ∧ x.kind ≠ 4 ∧ x.kind ≠ 5 ∧ x.kind ≠ 6 ∧ x.kind ≠ 7) : Calls Tryd.prog 10 #[.pointer (some ⟨tw, 0, none⟩), .agg (opC x).toArray] w fun e w' =>
    e = .returned (.bool true) ∧ After base w tw d Q w' := by
  have hk := x.k_lt
  have hand := i64_and1 x.who
  rw [x.k_eq] at hand
  obtain ⟨w0, hw0⟩ : ∃ w0, w.alloc (.cells (opC x).toArray 33) = w0 := ⟨_, rfl⟩
  have T0 : Turn no w w0 := by rw [← hw0]; exact (Turn.refl no w).alloc _
  have B0 : Row w0 w.heap.size (opC x).toArray 33 := by rw [← hw0]; exact Row.new w _ 33
  have bo := Bo.of hx B0
  have h0 := h.turn_no T0
  obtain ⟨gB, hgB⟩ : ∃ g, w.heap.size = g := ⟨_, rfl⟩
  rw [hgB] at B0 bo
  have s33 := sizeOp hx
  have xw := bo.who
  have xk := bo.kind
  have xa := bo.a
  have xp := bo.pos
  generalize hkk : x.k = k at *
  have hk' : (k : Int) < 2 := by omega
  have HT0 := shutX T0
  have Hh0 := shutX h0
  have hb0 := hb.turn_no T0
  have hl00 := hl0.turn T0 (fun q => q)
  have hl10 := hl1.turn T0 (fun q => q)
  have hmk := hm k hk
  have gBl := B0.lt
  have offB : ¬ PFp (d k) gB := (h0.side k hk).away B0 (by decide)
  have offtw := h0.tw_off hk
  have cp0 : w0.cell? ⟨tw, k, none⟩ = some (.pointer (some ⟨(d k).p, 0, none⟩)) := (h0.at (i := 0) hk).1
  have cq0 : w0.cell? ⟨tw, 2 + k, none⟩ = some (.pointer (some ⟨(d k).q, 0, none⟩)) := (h0.at (i := 0) hk).2.1
  have c4 : w0.cell? ⟨tw, 4 + k, none⟩ = some (d k).vs := (h0.at (i := 0) hk).2.2.1
  have c6 : w0.cell? ⟨tw, 6 + k, none⟩ = some (d k).vt := (h0.at (i := 0) hk).2.2.2
  obtain ⟨n1, n2, n3, n4, n5, n6, n7⟩ := hK
  clear hb hl0 hl1 bo T0 h0 h
  generalize hCC : (opC x).toArray = C at *
  go_enter Tryd.func10, Tryd.ntmps10
  go_upto_region 1 with fail
  try rw [hw0]
  try rw [hgB]
  clear hw0
  go_wp2_with fail
  go_ret
  exact ⟨rfl, .same Hh0.out HT0.out.of_no⟩
set_option maxRecDepth 100000 in
set_option maxHeartbeats 4000000 in
theorem step10_known (h : Tw base w tw d vq Q) (x : Opx) (hx : x.ok) (hb : Bs w x.va x.bs) (hl0 : Laid0 w) (hl1 : Laid1 w) (h2 : 2 ≤ base) (hm : ∀ k, k < 2 → (d k).E.length + (d k).R.length ≤ 1599289640401) (hQl : Q.length ≤ 4398046511104) (hKd : x.kind = 4) : Calls Tryd.prog 10 #[.pointer (some ⟨tw, 0, none⟩), .agg (opC x).toArray] w fun e w' =>
    e = .returned (.bool true) ∧ After base w tw d Q w' := by
  have hk := x.k_lt
  have hand := i64_and1 x.who
  rw [x.k_eq] at hand
  obtain ⟨w0, hw0⟩ : ∃ w0, w.alloc (.cells (opC x).toArray 33) = w0 := ⟨_, rfl⟩
  have T0 : Turn no w w0 := by rw [← hw0]; exact (Turn.refl no w).alloc _
  have B0 : Row w0 w.heap.size (opC x).toArray 33 := by rw [← hw0]; exact Row.new w _ 33
  have bo := Bo.of hx B0
  have h0 := h.turn_no T0
  obtain ⟨gB, hgB⟩ : ∃ g, w.heap.size = g := ⟨_, rfl⟩
  rw [hgB] at B0 bo
  have s33 := sizeOp hx
  have xw := bo.who
  have xk := bo.kind
  have xa := bo.a
  have xp := bo.pos
  generalize hkk : x.k = k at *
  have hk' : (k : Int) < 2 := by omega
  have HT0 := shutX T0
  have Hh0 := shutX h0
  have hb0 := hb.turn_no T0
  have hl00 := hl0.turn T0 (fun q => q)
  have hl10 := hl1.turn T0 (fun q => q)
  have hmk := hm k hk
  have gBl := B0.lt
  have offB : ¬ PFp (d k) gB := (h0.side k hk).away B0 (by decide)
  have offtw := h0.tw_off hk
  have cp0 : w0.cell? ⟨tw, k, none⟩ = some (.pointer (some ⟨(d k).p, 0, none⟩)) := (h0.at (i := 0) hk).1
  have cq0 : w0.cell? ⟨tw, 2 + k, none⟩ = some (.pointer (some ⟨(d k).q, 0, none⟩)) := (h0.at (i := 0) hk).2.1
  have c4 : w0.cell? ⟨tw, 4 + k, none⟩ = some (d k).vs := (h0.at (i := 0) hk).2.2.1
  have c6 : w0.cell? ⟨tw, 6 + k, none⟩ = some (d k).vt := (h0.at (i := 0) hk).2.2.2
  rw [hKd] at xk
  have cc := ((h0.side k hk).bk.turn_no ((Turn.refl no w0).drew)).known x.a
  clear hb hl0 hl1 bo T0 h0 h
  generalize hCC : (opC x).toArray = C at *
  go_enter Tryd.func10, Tryd.ntmps10
  go_upto_region 1 with fail
  try rw [hw0]
  try rw [hgB]
  clear hw0
  go_wp2_with fail
  refine wp_region_noPanic ?_
  refine wp_region_held_drew (S := fun W => Turn (fun g => g = (d k).p) w0 W) (by kernel_rfl) ((Turn.refl _ w0).drew) (fun hHeld => ?_)
  refine' wpAnyH_take (i := 0) (v := .pointer (some ⟨tw, 0, none⟩)) rfl (by kernel_rfl) (by kernel_rfl) (by kernel_rfl) (fun _ _ _ h => h) (Or.inl ⟨by kernel_rfl, fun W hW => ?y1⟩) hHeld ?r1
  · go_simp
  refine' wpAnyH_take (i := 1) (v := .int .i64 k) rfl (by kernel_rfl) (by kernel_rfl) (by kernel_rfl) (fun _ _ _ h => h) (Or.inl ⟨by kernel_rfl, fun W hW => ?y2⟩) hHeld ?r2
  · go_simp
  refine' wpAnyH_take (i := 2) (v := .pointer (some ⟨tw, 0, none⟩)) rfl (by kernel_rfl) (by kernel_rfl) (by kernel_rfl) (fun _ _ _ h => h) (Or.inl ⟨by kernel_rfl, fun W hW => ?y3⟩) hHeld ?r3
  · go_simp
  refine' wpAnyH_take (i := 3) (v := .pointer (some ⟨tw, 0, none⟩)) rfl (by kernel_rfl) (by kernel_rfl) (by kernel_rfl) (fun _ _ _ h => h) (Or.inl ⟨by kernel_rfl, fun W hW => ?y4⟩) hHeld ?r4
  · go_simp
  refine' wpAnyH_take (i := 4) (v := .pointer (some ⟨tw, k, none⟩)) rfl (by kernel_rfl) (by kernel_rfl) (by kernel_rfl) (fun _ _ _ h => h) (Or.inl ⟨by kernel_rfl, fun W hW => ?y5⟩) hHeld ?r5
  · go_simp
  refine' wpAnyH_take (i := 5) (v := .pointer (some ⟨(d k).p, 0, none⟩)) rfl (by kernel_rfl) (by kernel_rfl) (by kernel_rfl) (fun _ _ _ h => h) (Or.inl ⟨by kernel_rfl, fun W hW => ?y6⟩) hHeld ?r6
  · have c := hW.keep cp0 (fun q => offtw (.inl (.inl q)))
    go_simp
  refine' wpAnyH_take (i := 6) (v := .pointer (some ⟨gB, 3, none⟩)) rfl (by kernel_rfl) (by kernel_rfl) (by kernel_rfl) (fun _ _ _ h => h) (Or.inl ⟨by kernel_rfl, fun W hW => ?y7⟩) hHeld ?r7
  · go_simp
  refine' wpAnyH_take (i := 7) (v := .int .u64 x.a.toNat) rfl (by kernel_rfl) (by kernel_rfl) (by kernel_rfl) (fun _ _ _ h => h) (Or.inl ⟨by kernel_rfl, fun W hW => ?y8⟩) hHeld ?r8
  · have c := hW.keep xa (fun q => offB (.inl (.inl q)))
    go_simp
  refine' wpAnyH_take (i := 9) (v := .pointer (some ⟨tw, 0, none⟩)) rfl (by kernel_rfl) (by kernel_rfl) (by kernel_rfl) (fun _ _ _ h => h) (Or.inl ⟨by kernel_rfl, fun W hW => ?y9⟩) hHeld ?r9
  · go_simp
  refine' wpAnyH_take (i := 10) (v := .int .i64 k) rfl (by kernel_rfl) (by kernel_rfl) (by kernel_rfl) (fun _ _ _ h => h) (Or.inl ⟨by kernel_rfl, fun W hW => ?y10⟩) hHeld ?r10
  · go_simp
  refine' wpAnyH_take (i := 11) (v := .pointer (some ⟨tw, 0, none⟩)) rfl (by kernel_rfl) (by kernel_rfl) (by kernel_rfl) (fun _ _ _ h => h) (Or.inl ⟨by kernel_rfl, fun W hW => ?y11⟩) hHeld ?r11
  · go_simp
  refine' wpAnyH_take (i := 12) (v := .pointer (some ⟨tw, 2, none⟩)) rfl (by kernel_rfl) (by kernel_rfl) (by kernel_rfl) (fun _ _ _ h => h) (Or.inl ⟨by kernel_rfl, fun W hW => ?y12⟩) hHeld ?r12
  · go_simp
  refine' wpAnyH_take (i := 13) (v := .pointer (some ⟨tw, 2 + k, none⟩)) rfl (by kernel_rfl) (by kernel_rfl) (by kernel_rfl) (fun _ _ _ h => h) (Or.inl ⟨by kernel_rfl, fun W hW => ?y13⟩) hHeld ?r13
  · go_simp
  refine' wpAnyH_take (i := 14) (v := .pointer (some ⟨(d k).q, 0, none⟩)) rfl (by kernel_rfl) (by kernel_rfl) (by kernel_rfl) (fun _ _ _ h => h) (Or.inl ⟨by kernel_rfl, fun W hW => ?y14⟩) hHeld ?r14
  · have c := hW.keep cq0 (fun q => offtw (.inl (.inl q)))
    go_simp
  refine' wpAnyH_take (i := 15) (v := .pointer (some ⟨gB, 3, none⟩)) rfl (by kernel_rfl) (by kernel_rfl) (by kernel_rfl) (fun _ _ _ h => h) (Or.inl ⟨by kernel_rfl, fun W hW => ?y15⟩) hHeld ?r15
  · go_simp
  refine' wpAnyH_take (i := 16) (v := .int .u64 x.a.toNat) rfl (by kernel_rfl) (by kernel_rfl) (by kernel_rfl) (fun _ _ _ h => h) (Or.inl ⟨by kernel_rfl, fun W hW => ?y16⟩) hHeld ?r16
  · have c := hW.keep xa (fun q => offB (.inl (.inl q)))
    go_simp
  refine wpAnyH_ready (rs := [8]) (by kernel_rfl) (by simp) ?_
  refine AllReadyH.cons rfl (fun K hK => ?_) AllReadyH.nil
  go_simp
  refine cc.mono ?_
  rintro e w1 ⟨rfl, bk1, t1⟩
  have t01 : Turn (fun g => g = (d k).p) w0 w1 := ((Turn.refl _ w0).drew).trans t1 (fun _ _ q => q)
  obtain ⟨h1, tb1⟩ := Hh0.out.side_same hk (t01.mono (fun _ _ q => .inl (.inl q))) ((Hh0.out.side k hk).bk_same t01 bk1)
  refine hK.out _ _ t01 (fun hHeld => ?_)
  clear hK
  have c2 := rknown24 (h1.side k hk).rf x.a
  refine wpAnyH_ready (rs := [17]) (by kernel_rfl) (by simp) ?_
  refine AllReadyH.cons rfl (fun K hK => ?_) AllReadyH.nil
  go_simp
  refine c2.mono ?_
  rintro e w2 ⟨rfl, q2⟩
  have q2 := q2.symm
  subst q2
  refine hK.out _ _ t01 (fun hHeld => ?_)
  clear hK c2 cc
  generalize decide (x.a ∈ (d k).E) = bb at *
  have ebb : ∀ W, (binOp .eql 4 (.bool bb) (.bool bb)).run Tryd.prog W = .ok (.bool true) W := fun W => by cases bb <;> kernel_rfl
  refine' wpAnyH_take (i := 18) (v := .bool true) rfl (by kernel_rfl) (by kernel_rfl) (by kernel_rfl) (fun _ _ _ h => h) (Or.inl ⟨by kernel_rfl, fun W hW => ?y17⟩) hHeld ?r17
  · have c := ebb W
    go_simp
  refine' wpAnyH_take (i := 19) (v := .bool true) rfl (by kernel_rfl) (by kernel_rfl) (by kernel_rfl) (fun _ _ _ h => h) (Or.inl ⟨by kernel_rfl, fun W hW => ?y18⟩) hHeld ?r18
  · go_simp
  refine wpAnyH_done (by kernel_rfl) ?_ _
  refine NoPanic.normal ?_
  go_simp
  go_wp2_with fail
  go_ret
  exact ⟨rfl, (After.same h1 tb1).pre HT0.out⟩
set_option maxRecDepth 100000 in
set_option maxHeartbeats 4000000 in
theorem step10_count (h : Tw base w tw d vq Q) (x : Opx) (hx : x.ok) (hb : Bs w x.va x.bs) (hl0 : Laid0 w) (hl1 : Laid1 w) (h2 : 2 ≤ base) (hm : ∀ k, k < 2 → (d k).E.length + (d k).R.length ≤ 1599289640401) (hQl : Q.length ≤ 4398046511104) (hKd : x.kind = 5) : Calls Tryd.prog 10 #[.pointer (some ⟨tw, 0, none⟩), .agg (opC x).toArray] w fun e w' =>
    e = .returned (.bool true) ∧ After base w tw d Q w' := by
  have hk := x.k_lt
  have hand := i64_and1 x.who
  rw [x.k_eq] at hand
  obtain ⟨w0, hw0⟩ : ∃ w0, w.alloc (.cells (opC x).toArray 33) = w0 := ⟨_, rfl⟩
  have T0 : Turn no w w0 := by rw [← hw0]; exact (Turn.refl no w).alloc _
  have B0 : Row w0 w.heap.size (opC x).toArray 33 := by rw [← hw0]; exact Row.new w _ 33
  have bo := Bo.of hx B0
  have h0 := h.turn_no T0
  obtain ⟨gB, hgB⟩ : ∃ g, w.heap.size = g := ⟨_, rfl⟩
  rw [hgB] at B0 bo
  have s33 := sizeOp hx
  have xw := bo.who
  have xk := bo.kind
  have xa := bo.a
  have xp := bo.pos
  generalize hkk : x.k = k at *
  have hk' : (k : Int) < 2 := by omega
  have HT0 := shutX T0
  have Hh0 := shutX h0
  have hb0 := hb.turn_no T0
  have hl00 := hl0.turn T0 (fun q => q)
  have hl10 := hl1.turn T0 (fun q => q)
  have hmk := hm k hk
  have gBl := B0.lt
  have offB : ¬ PFp (d k) gB := (h0.side k hk).away B0 (by decide)
  have offtw := h0.tw_off hk
  have cp0 : w0.cell? ⟨tw, k, none⟩ = some (.pointer (some ⟨(d k).p, 0, none⟩)) := (h0.at (i := 0) hk).1
  have cq0 : w0.cell? ⟨tw, 2 + k, none⟩ = some (.pointer (some ⟨(d k).q, 0, none⟩)) := (h0.at (i := 0) hk).2.1
  have c4 : w0.cell? ⟨tw, 4 + k, none⟩ = some (d k).vs := (h0.at (i := 0) hk).2.2.1
  have c6 : w0.cell? ⟨tw, 6 + k, none⟩ = some (d k).vt := (h0.at (i := 0) hk).2.2.2
  rw [hKd] at xk
  have cc := ((h0.side k hk).bk.turn_no ((Turn.refl no w0).drew)).count
  clear hb hl0 hl1 bo T0 h0 h
  generalize hCC : (opC x).toArray = C at *
  go_enter Tryd.func10, Tryd.ntmps10
  go_upto_region 1 with fail
  try rw [hw0]
  try rw [hgB]
  clear hw0
  go_wp2_with fail
  refine wp_region_noPanic ?_
  refine wp_region_held_drew (S := fun W => Turn (fun g => g = (d k).p) w0 W) (by kernel_rfl) ((Turn.refl _ w0).drew) (fun hHeld => ?_)
  refine' wpAnyH_take (i := 0) (v := .pointer (some ⟨tw, 0, none⟩)) rfl (by kernel_rfl) (by kernel_rfl) (by kernel_rfl) (fun _ _ _ h => h) (Or.inl ⟨by kernel_rfl, fun W hW => ?y19⟩) hHeld ?r19
  · go_simp
  refine' wpAnyH_take (i := 1) (v := .int .i64 k) rfl (by kernel_rfl) (by kernel_rfl) (by kernel_rfl) (fun _ _ _ h => h) (Or.inl ⟨by kernel_rfl, fun W hW => ?y20⟩) hHeld ?r20
  · go_simp
  refine' wpAnyH_take (i := 2) (v := .pointer (some ⟨tw, 0, none⟩)) rfl (by kernel_rfl) (by kernel_rfl) (by kernel_rfl) (fun _ _ _ h => h) (Or.inl ⟨by kernel_rfl, fun W hW => ?y21⟩) hHeld ?r21
  · go_simp
  refine' wpAnyH_take (i := 3) (v := .pointer (some ⟨tw, 0, none⟩)) rfl (by kernel_rfl) (by kernel_rfl) (by kernel_rfl) (fun _ _ _ h => h) (Or.inl ⟨by kernel_rfl, fun W hW => ?y22⟩) hHeld ?r22
  · go_simp
  refine' wpAnyH_take (i := 4) (v := .pointer (some ⟨tw, k, none⟩)) rfl (by kernel_rfl) (by kernel_rfl) (by kernel_rfl) (fun _ _ _ h => h) (Or.inl ⟨by kernel_rfl, fun W hW => ?y23⟩) hHeld ?r23
  · go_simp
  refine' wpAnyH_take (i := 5) (v := .pointer (some ⟨(d k).p, 0, none⟩)) rfl (by kernel_rfl) (by kernel_rfl) (by kernel_rfl) (fun _ _ _ h => h) (Or.inl ⟨by kernel_rfl, fun W hW => ?y24⟩) hHeld ?r24
  · have c := hW.keep cp0 (fun q => offtw (.inl (.inl q)))
    go_simp
  refine' wpAnyH_take (i := 7) (v := .pointer (some ⟨tw, 0, none⟩)) rfl (by kernel_rfl) (by kernel_rfl) (by kernel_rfl) (fun _ _ _ h => h) (Or.inl ⟨by kernel_rfl, fun W hW => ?y25⟩) hHeld ?r25
  · go_simp
  refine' wpAnyH_take (i := 8) (v := .int .i64 k) rfl (by kernel_rfl) (by kernel_rfl) (by kernel_rfl) (fun _ _ _ h => h) (Or.inl ⟨by kernel_rfl, fun W hW => ?y26⟩) hHeld ?r26
  · go_simp
  refine' wpAnyH_take (i := 9) (v := .pointer (some ⟨tw, 0, none⟩)) rfl (by kernel_rfl) (by kernel_rfl) (by kernel_rfl) (fun _ _ _ h => h) (Or.inl ⟨by kernel_rfl, fun W hW => ?y27⟩) hHeld ?r27
  · go_simp
  refine' wpAnyH_take (i := 10) (v := .pointer (some ⟨tw, 2, none⟩)) rfl (by kernel_rfl) (by kernel_rfl) (by kernel_rfl) (fun _ _ _ h => h) (Or.inl ⟨by kernel_rfl, fun W hW => ?y28⟩) hHeld ?r28
  · go_simp
  refine' wpAnyH_take (i := 11) (v := .pointer (some ⟨tw, 2 + k, none⟩)) rfl (by kernel_rfl) (by kernel_rfl) (by kernel_rfl) (fun _ _ _ h => h) (Or.inl ⟨by kernel_rfl, fun W hW => ?y29⟩) hHeld ?r29
  · go_simp
  refine' wpAnyH_take (i := 12) (v := .pointer (some ⟨(d k).q, 0, none⟩)) rfl (by kernel_rfl) (by kernel_rfl) (by kernel_rfl) (fun _ _ _ h => h) (Or.inl ⟨by kernel_rfl, fun W hW => ?y30⟩) hHeld ?r30
  · have c := hW.keep cq0 (fun q => offtw (.inl (.inl q)))
    go_simp
  refine wpAnyH_ready (rs := [6]) (by kernel_rfl) (by simp) ?_
  refine AllReadyH.cons rfl (fun K hK => ?_) AllReadyH.nil
  go_simp
  refine cc.mono ?_
  rintro e w1 ⟨rfl, bk1, t1⟩
  have t01 : Turn (fun g => g = (d k).p) w0 w1 := ((Turn.refl _ w0).drew).trans t1 (fun _ _ q => q)
  obtain ⟨h1, tb1⟩ := Hh0.out.side_same hk (t01.mono (fun _ _ q => .inl (.inl q))) ((Hh0.out.side k hk).bk_same t01 bk1)
  refine hK.out _ _ t01 (fun hHeld => ?_)
  clear hK
  have c2 := rcount12 (h1.side k hk).rf
  refine wpAnyH_ready (rs := [13]) (by kernel_rfl) (by simp) ?_
  refine AllReadyH.cons rfl (fun K hK => ?_) AllReadyH.nil
  go_simp
  refine c2.mono ?_
  rintro e w2 ⟨rfl, q2⟩
  have q2 := q2.symm
  subst q2
  refine hK.out _ _ t01 (fun hHeld => ?_)
  clear hK c2 cc
  refine' wpAnyH_take (i := 14) (v := .bool true) rfl (by kernel_rfl) (by kernel_rfl) (by kernel_rfl) (fun _ _ _ h => h) (Or.inl ⟨by kernel_rfl, fun W hW => ?y31⟩) hHeld ?r31
  · go_simp
  refine' wpAnyH_take (i := 15) (v := .bool true) rfl (by kernel_rfl) (by kernel_rfl) (by kernel_rfl) (fun _ _ _ h => h) (Or.inl ⟨by kernel_rfl, fun W hW => ?y32⟩) hHeld ?r32
  · go_simp
  refine wpAnyH_done (by kernel_rfl) ?_ _
  refine NoPanic.normal ?_
  go_simp
  go_wp2_with fail
  go_ret
  exact ⟨rfl, (After.same h1 tb1).pre HT0.out⟩
end
end Go.Proofs.YtnlcngcilojnkabDoor
