/- Texts in one. -/
import Derived.Test.YtnlcngcilojnkabDoorPb
import Derived.Test.YtnlcngcilojnkabDoorP4
/- step: one call of a script, on both sides of a pair. -/
namespace Go.Proofs.YtnlcngcilojnkabDoor
open Go.RowKit Go.Maps Go.MuLone
set_option linter.unusedVariables false

theorem i64_and1 (n : Int) : bits .and .i64 n 1 = n % 2 := by
  have h127 : (BitVec.ofInt 64 1).toNat = 2 ^ 1 - 1 := by decide
  have key : (BitVec.ofInt 64 n &&& BitVec.ofInt 64 1).toNat = (n % ((2 ^ 64 : Nat) : Int)).toNat % 2 ^ 1 := by
    rw [BitVec.toNat_and, BitVec.toNat_ofInt, h127, Nat.and_two_pow_sub_one_eq_mod]
  show IntKind.i64.wrap ((BitVec.ofInt 64 n &&& BitVec.ofInt 64 1).toNat : Nat) = n % 2
  rw [key, IntKind.wrap_i64]
  omega
def Opx.k (x : Opx) : Nat := (x.who % 2).toNat
theorem Opx.k_lt (x : Opx) : x.k < 2 := by unfold Opx.k; omega
theorem Opx.k_eq (x : Opx) : x.who % 2 = (x.k : Int) := by unfold Opx.k; omega
/-- What a step leaves. -/
def After (base : Nat) (w : World) (tw : Nat) (d : Nat → Pd) (Q : List (List UInt8)) (w' : World) : Prop := ∃ d' vq' Q', Tw base w' tw d' vq' Q' ∧ Grow d d' ∧ Q'.length ≤ Q.length + 1 ∧ Turn (fun g => base ≤ g) w w'
section
variable {base : Nat} {w : World} {tw : Nat} {d : Nat → Pd} {vq : Value} {Q : List (List UInt8)} {k : Nat}
theorem After.pre {w0 w' : World} (h : After base w0 tw d Q w') (t : Turn no w w0) : After base w tw d Q w' := by
  obtain ⟨d', vq', Q', a, b, c, e⟩ := h
  exact ⟨d', vq', Q', a, b, c, t.of_no.trans e (fun _ _ q => q)⟩
theorem After.same {w' : World} (h : Tw base w' tw d vq Q) (t : Turn (fun g => base ≤ g) w w') : After base w tw d Q w' := ⟨d, vq, Q, h, Grow.refl d, by omega, t⟩
set_option maxRecDepth 100000 in
set_option maxHeartbeats 4000000 in
theorem signs21_none (h : Tw base w tw d vq Q) (hk : k < 2) (x : Opx) (hx : x.ok) (hE : (d k).E.length = 0) : Calls Tryd.prog 21 #[.pointer (some ⟨tw, 0, none⟩), .int .i64 k, .agg (opC x).toArray] w fun e w' =>
    e = .returned (.bool true) ∧ After base w tw d Q w' := by
  have hk' : (k : Int) < 2 := by omega
  obtain ⟨w0, hw0⟩ : ∃ w0, w.alloc (.cells (opC x).toArray 33) = w0 := ⟨_, rfl⟩
  have T0 : Turn no w w0 := by rw [← hw0]; exact (Turn.refl no w).alloc _
  have h0 := h.turn_no T0
  have c4 : w0.cell? ⟨tw, 4 + k, none⟩ = some (d k).vs := (h0.at (i := 0) hk).2.2.1
  obtain ⟨va, vc, hvs⟩ : ∃ a c, (d k).vs = .slice a 0 c := by
    have hl := (h0.side k hk).len
    rcases (h0.side k hk).os.shape with ⟨e, _⟩ | ⟨g, cap, cur, e, _⟩
    · exact ⟨none, 0, e⟩
    · have hz : (d k).ss.length = 0 := by omega
      exact ⟨_, cap, by rw [e, List.length_map, hz]⟩
  rw [hvs] at c4
  have HT0 := shutX T0
  have Hh0 := shutX h0
  clear T0 h0
  generalize (opC x).toArray = C at *
  go_enter Tryd.func21, Tryd.ntmps21
  go_upto_region 1 with fail
  try rw [hw0]
  clear hw0
  go_wp2_with fail
  go_ret
  exact ⟨rfl, .same Hh0.out HT0.out.of_no⟩
theorem signs21 (h : Tw base w tw d vq Q) (hk : k < 2) (x : Opx) (hx : x.ok) (hb : Bs w x.va x.bs) (hl0 : Laid0 w) (hl1 : Laid1 w) (h2 : 2 ≤ base) (hm : (d k).E.length + (d k).R.length ≤ 1599289640401) (hQl : Q.length ≤ 4398046511104) : Calls Tryd.prog 21 #[.pointer (some ⟨tw, 0, none⟩), .int .i64 k, .agg (opC x).toArray] w fun e w' =>
    e = .returned (.bool true) ∧ After base w tw d Q w' := by
  by_cases hE : (d k).E.length = 0
  · exact signs21_none h hk x hx hE
  · exact signs21_some h hk x hx hb hl0 hl1 h2 hm hQl (by omega)
set_option maxRecDepth 100000 in
set_option maxHeartbeats 4000000 in
theorem step10_enter (h : Tw base w tw d vq Q) (x : Opx) (hx : x.ok) (hb : Bs w x.va x.bs) (hl0 : Laid0 w) (hl1 : Laid1 w) (h2 : 2 ≤ base) (hm : ∀ k, k < 2 → (d k).E.length + (d k).R.length ≤ 1599289640401) (hQl : Q.length ≤ 4398046511104) (hK : x.kind = 1) : Calls Tryd.prog 10 #[.pointer (some ⟨tw, 0, none⟩), .agg (opC x).toArray] w fun e w' =>
    e = .returned (.bool true) ∧ After base w tw d Q w' := by
  have hk := x.k_lt
  have hand := i64_and1 x.who
  rw [x.k_eq] at hand
  obtain ⟨w0, hw0⟩ : ∃ w0, w.alloc (.cells (opC x).toArray 33) = w0 := ⟨_, rfl⟩
  have T0 : Turn no w w0 := by rw [← hw0]; exact (Turn.refl no w).alloc _
  have B0 : Row w0 w.heap.size (opC x).toArray 33 := by rw [← hw0]; exact Row.new w _ 33
  have bo := Bo.of hx B0
  have h0 := h.turn_no T0
  obtain ⟨gB, hgB⟩ : ∃ g, w.heap.size = g := ⟨_, rfl⟩
  rw [hgB] at B0 bo
  have s33 := sizeOp hx
  have xw := bo.who
  have xk := bo.kind
  have xa := bo.a
  have xp := bo.pos
  generalize hkk : x.k = k at *
  have hk' : (k : Int) < 2 := by omega
  have HT0 := shutX T0
  have Hh0 := shutX h0
  have hb0 := hb.turn_no T0
  have hl00 := hl0.turn T0 (fun q => q)
  have hl10 := hl1.turn T0 (fun q => q)
  have hmk := hm k hk
  have gBl := B0.lt
  have offB : ¬ PFp (d k) gB := (h0.side k hk).away B0 (by decide)
  have offtw := h0.tw_off hk
  have cp0 : w0.cell? ⟨tw, k, none⟩ = some (.pointer (some ⟨(d k).p, 0, none⟩)) := (h0.at (i := 0) hk).1
  have cq0 : w0.cell? ⟨tw, 2 + k, none⟩ = some (.pointer (some ⟨(d k).q, 0, none⟩)) := (h0.at (i := 0) hk).2.1
  have c4 : w0.cell? ⟨tw, 4 + k, none⟩ = some (d k).vs := (h0.at (i := 0) hk).2.2.1
  have c6 : w0.cell? ⟨tw, 6 + k, none⟩ = some (d k).vt := (h0.at (i := 0) hk).2.2.2
  rw [hK] at xk
  have cc := enters20 h0 hk x hx (by omega)
  clear hb hl0 hl1 bo T0 h0 h
  generalize hCC : (opC x).toArray = C at *
  go_enter Tryd.func10, Tryd.ntmps10
  go_upto_region 1 with fail
  try rw [hw0]
  try rw [hgB]
  clear hw0
  go_wp2_with (first | (refine wpList_load_row rfl 33 (.tmp 3) rfl gB rfl 33 C _ _ B0 Tryd.underlying33 rfl s33 ?_) | (go_at_call 20; refine cc.mono ?_; rintro e w1 ⟨rfl, d', a1, a2, a3⟩; have FIN : Shut (After base w0 tw d Q w1) := ⟨d', vq, Q, a1, a2, by omega, a3⟩))
  go_ret
  exact ⟨rfl, FIN.out.pre HT0.out⟩
set_option maxRecDepth 100000 in
set_option maxHeartbeats 4000000 in
theorem step10_sign (h : Tw base w tw d vq Q) (x : Opx) (hx : x.ok) (hb : Bs w x.va x.bs) (hl0 : Laid0 w) (hl1 : Laid1 w) (h2 : 2 ≤ base) (hm : ∀ k, k < 2 → (d k).E.length + (d k).R.length ≤ 1599289640401) (hQl : Q.length ≤ 4398046511104) (hK : x.kind = 2) : Calls Tryd.prog 10 #[.pointer (some ⟨tw, 0, none⟩), .agg (opC x).toArray] w fun e w' =>
    e = .returned (.bool true) ∧ After base w tw d Q w' := by
  have hk := x.k_lt
  have hand := i64_and1 x.who
  rw [x.k_eq] at hand
  obtain ⟨w0, hw0⟩ : ∃ w0, w.alloc (.cells (opC x).toArray 33) = w0 := ⟨_, rfl⟩
  have T0 : Turn no w w0 := by rw [← hw0]; exact (Turn.refl no w).alloc _
  have B0 : Row w0 w.heap.size (opC x).toArray 33 := by rw [← hw0]; exact Row.new w _ 33
  have bo := Bo.of hx B0
  have h0 := h.turn_no T0
  obtain ⟨gB, hgB⟩ : ∃ g, w.heap.size = g := ⟨_, rfl⟩
  rw [hgB] at B0 bo
  have s33 := sizeOp hx
  have xw := bo.who
  have xk := bo.kind
  have xa := bo.a
  have xp := bo.pos
  generalize hkk : x.k = k at *
  have hk' : (k : Int) < 2 := by omega
  have HT0 := shutX T0
  have Hh0 := shutX h0
  have hb0 := hb.turn_no T0
  have hl00 := hl0.turn T0 (fun q => q)
  have hl10 := hl1.turn T0 (fun q => q)
  have hmk := hm k hk
  have gBl := B0.lt
  have offB : ¬ PFp (d k) gB := (h0.side k hk).away B0 (by decide)
  have offtw := h0.tw_off hk
  have cp0 : w0.cell? ⟨tw, k, none⟩ = some (.pointer (some ⟨(d k).p, 0, none⟩)) := (h0.at (i := 0) hk).1
  have cq0 : w0.cell? ⟨tw, 2 + k, none⟩ = some (.pointer (some ⟨(d k).q, 0, none⟩)) := (h0.at (i := 0) hk).2.1
  have c4 : w0.cell? ⟨tw, 4 + k, none⟩ = some (d k).vs := (h0.at (i := 0) hk).2.2.1
  have c6 : w0.cell? ⟨tw, 6 + k, none⟩ = some (d k).vt := (h0.at (i := 0) hk).2.2.2
  rw [hK] at xk
  have cc := signs21 h0 hk x hx hb0 hl00 hl10 h2 hmk hQl
  clear hb hl0 hl1 bo T0 h0 h
  generalize hCC : (opC x).toArray = C at *
  go_enter Tryd.func10, Tryd.ntmps10
  go_upto_region 1 with fail
  try rw [hw0]
  try rw [hgB]
  clear hw0
  go_wp2_with (first | (refine wpList_load_row rfl 33 (.tmp 3) rfl gB rfl 33 C _ _ B0 Tryd.underlying33 rfl s33 ?_) | (go_at_call 21; refine cc.mono ?_; rintro e w1 ⟨rfl, a1⟩; have FIN : Shut (After base w0 tw d Q w1) := a1))
  go_ret
  exact ⟨rfl, FIN.out.pre HT0.out⟩
set_option maxRecDepth 100000 in
set_option maxHeartbeats 4000000 in
theorem step10_check (h : Tw base w tw d vq Q) (x : Opx) (hx : x.ok) (hb : Bs w x.va x.bs) (hl0 : Laid0 w) (hl1 : Laid1 w) (h2 : 2 ≤ base) (hm : ∀ k, k < 2 → (d k).E.length + (d k).R.length ≤ 1599289640401) (hQl : Q.length ≤ 4398046511104) (hK : x.kind = 3) : Calls Tryd.prog 10 #[.pointer (some ⟨tw, 0, none⟩), .agg (opC x).toArray] w fun e w' =>
    e = .returned (.bool true) ∧ After base w tw d Q w' := by
  have hk := x.k_lt
  have hand := i64_and1 x.who
  rw [x.k_eq] at hand
  obtain ⟨w0, hw0⟩ : ∃ w0, w.alloc (.cells (opC x).toArray 33) = w0 := ⟨_, rfl⟩
  have T0 : Turn no w w0 := by rw [← hw0]; exact (Turn.refl no w).alloc _
  have B0 : Row w0 w.heap.size (opC x).toArray 33 := by rw [← hw0]; exact Row.new w _ 33
  have bo := Bo.of hx B0
  have h0 := h.turn_no T0
  obtain ⟨gB, hgB⟩ : ∃ g, w.heap.size = g := ⟨_, rfl⟩
  rw [hgB] at B0 bo
  have s33 := sizeOp hx
  have xw := bo.who
  have xk := bo.kind
  have xa := bo.a
  have xp := bo.pos
  generalize hkk : x.k = k at *
  have hk' : (k : Int) < 2 := by omega
  have HT0 := shutX T0
  have Hh0 := shutX h0
  have hb0 := hb.turn_no T0
  have hl00 := hl0.turn T0 (fun q => q)
  have hl10 := hl1.turn T0 (fun q => q)
  have hmk := hm k hk
  have gBl := B0.lt
  have offB : ¬ PFp (d k) gB := (h0.side k hk).away B0 (by decide)
  have offtw := h0.tw_off hk
  have cp0 : w0.cell? ⟨tw, k, none⟩ = some (.pointer (some ⟨(d k).p, 0, none⟩)) := (h0.at (i := 0) hk).1
  have cq0 : w0.cell? ⟨tw, 2 + k, none⟩ = some (.pointer (some ⟨(d k).q, 0, none⟩)) := (h0.at (i := 0) hk).2.1
  have c4 : w0.cell? ⟨tw, 4 + k, none⟩ = some (d k).vs := (h0.at (i := 0) hk).2.2.1
  have c6 : w0.cell? ⟨tw, 6 + k, none⟩ = some (d k).vt := (h0.at (i := 0) hk).2.2.2
  rw [hK] at xk
  have cc := checks22 h0 hk x hx hb0 hl00 hl10 h2
  clear hb hl0 hl1 bo T0 h0 h
  generalize hCC : (opC x).toArray = C at *
  go_enter Tryd.func10, Tryd.ntmps10
  go_upto_region 1 with fail
  try rw [hw0]
  try rw [hgB]
  clear hw0
  go_wp2_with (first | (refine wpList_load_row rfl 33 (.tmp 3) rfl gB rfl 33 C _ _ B0 Tryd.underlying33 rfl s33 ?_) | (go_at_call 22; refine cc.mono ?_; rintro e w1 ⟨rfl, a1, a2⟩; have FIN : Shut (After base w0 tw d Q w1) := After.same a1 a2))
  go_ret
  exact ⟨rfl, FIN.out.pre HT0.out⟩
set_option maxRecDepth 100000 in
set_option maxHeartbeats 4000000 in
theorem step10_else (h : Tw base w tw d vq Q) (x : Opx) (hx : x.ok) (hb : Bs w x.va x.bs) (hl0 : Laid0 w) (hl1 : Laid1 w) (h2 : 2 ≤ base) (hm : ∀ k, k < 2 → (d k).E.length + (d k).R.length ≤ 1599289640401) (hQl : Q.length ≤ 4398046511104) (hK : x.kind ≠ 1 ∧ x.kind ≠ 2 ∧ x.kind ≠ 3 ∧ x.kind ≠ 4 ∧ x.kind ≠ 5 ∧ x.kind ≠ 6 ∧ x.kind ≠ 7) : Calls Tryd.prog 10 #[.pointer (some ⟨tw, 0, none⟩), .agg (opC x).toArray] w fun e w' =>
    e = .returned (.bool true) ∧ After base w tw d Q w' := by
  have hk := x.k_lt
  have hand := i64_and1 x.who
  rw [x.k_eq] at hand
  obtain ⟨w0, hw0⟩ : ∃ w0, w.alloc (.cells (opC x).toArray 33) = w0 := ⟨_, rfl⟩
  have T0 : Turn no w w0 := by rw [← hw0]; exact (Turn.refl no w).alloc _
  have B0 : Row w0 w.heap.size (opC x).toArray 33 := by rw [← hw0]; exact Row.new w _ 33
  have bo := Bo.of hx B0
  have h0 := h.turn_no T0
  obtain ⟨gB, hgB⟩ : ∃ g, w.heap.size = g := ⟨_, rfl⟩
  rw [hgB] at B0 bo
  have s33 := sizeOp hx
  have xw := bo.who
  have xk := bo.kind
  have xa := bo.a
  have xp := bo.pos
  generalize hkk : x.k = k at *
  have hk' : (k : Int) < 2 := by omega
  have HT0 := shutX T0
  have Hh0 := shutX h0
  have hb0 := hb.turn_no T0
  have hl00 := hl0.turn T0 (fun q => q)
  have hl10 := hl1.turn T0 (fun q => q)
  have hmk := hm k hk
  have gBl := B0.lt
  have offB : ¬ PFp (d k) gB := (h0.side k hk).away B0 (by decide)
  have offtw := h0.tw_off hk
  have cp0 : w0.cell? ⟨tw, k, none⟩ = some (.pointer (some ⟨(d k).p, 0, none⟩)) := (h0.at (i := 0) hk).1
  have cq0 : w0.cell? ⟨tw, 2 + k, none⟩ = some (.pointer (some ⟨(d k).q, 0, none⟩)) := (h0.at (i := 0) hk).2.1
  have c4 : w0.cell? ⟨tw, 4 + k, none⟩ = some (d k).vs := (h0.at (i := 0) hk).2.2.1
  have c6 : w0.cell? ⟨tw, 6 + k, none⟩ = some (d k).vt := (h0.at (i := 0) hk).2.2.2
  obtain ⟨n1, n2, n3, n4, n5, n6, n7⟩ := hK
  clear hb hl0 hl1 bo T0 h0 h
  generalize hCC : (opC x).toArray = C at *
  go_enter Tryd.func10, Tryd.ntmps10
  go_upto_region 1 with fail
  try rw [hw0]
  try rw [hgB]
  clear hw0
  go_wp2_with fail
  go_ret
  exact ⟨rfl, .same Hh0.out HT0.out.of_no⟩
set_option maxRecDepth 100000 in
set_option maxHeartbeats 4000000 in
theorem step10_known (h : Tw base w tw d vq Q) (x : Opx) (hx : x.ok) (hb : Bs w x.va x.bs) (hl0 : Laid0 w) (hl1 : Laid1 w) (h2 : 2 ≤ base) (hm : ∀ k, k < 2 → (d k).E.length + (d k).R.length ≤ 1599289640401) (hQl : Q.length ≤ 4398046511104) (hKd : x.kind = 4) : Calls Tryd.prog 10 #[.pointer (some ⟨tw, 0, none⟩), .agg (opC x).toArray] w fun e w' =>
    e = .returned (.bool true) ∧ After base w tw d Q w' := by
  have hk := x.k_lt
  have hand := i64_and1 x.who
  rw [x.k_eq] at hand
  obtain ⟨w0, hw0⟩ : ∃ w0, w.alloc (.cells (opC x).toArray 33) = w0 := ⟨_, rfl⟩
  have T0 : Turn no w w0 := by rw [← hw0]; exact (Turn.refl no w).alloc _
  have B0 : Row w0 w.heap.size (opC x).toArray 33 := by rw [← hw0]; exact Row.new w _ 33
  have bo := Bo.of hx B0
  have h0 := h.turn_no T0
  obtain ⟨gB, hgB⟩ : ∃ g, w.heap.size = g := ⟨_, rfl⟩
  rw [hgB] at B0 bo
  have s33 := sizeOp hx
  have xw := bo.who
  have xk := bo.kind
  have xa := bo.a
  have xp := bo.pos
  generalize hkk : x.k = k at *
  have hk' : (k : Int) < 2 := by omega
  have HT0 := shutX T0
  have Hh0 := shutX h0
  have hb0 := hb.turn_no T0
  have hl00 := hl0.turn T0 (fun q => q)
  have hl10 := hl1.turn T0 (fun q => q)
  have hmk := hm k hk
  have gBl := B0.lt
  have offB : ¬ PFp (d k) gB := (h0.side k hk).away B0 (by decide)
  have offtw := h0.tw_off hk
  have cp0 : w0.cell? ⟨tw, k, none⟩ = some (.pointer (some ⟨(d k).p, 0, none⟩)) := (h0.at (i := 0) hk).1
  have cq0 : w0.cell? ⟨tw, 2 + k, none⟩ = some (.pointer (some ⟨(d k).q, 0, none⟩)) := (h0.at (i := 0) hk).2.1
  have c4 : w0.cell? ⟨tw, 4 + k, none⟩ = some (d k).vs := (h0.at (i := 0) hk).2.2.1
  have c6 : w0.cell? ⟨tw, 6 + k, none⟩ = some (d k).vt := (h0.at (i := 0) hk).2.2.2
  rw [hKd] at xk
  have cc := ((h0.side k hk).bk.turn_no ((Turn.refl no w0).drew)).known x.a
  clear hb hl0 hl1 bo T0 h0 h
  generalize hCC : (opC x).toArray = C at *
  go_enter Tryd.func10, Tryd.ntmps10
  go_upto_region 1 with fail
  try rw [hw0]
  try rw [hgB]
  clear hw0
  go_wp2_with fail
  refine wp_region_noPanic ?_
  refine wp_region_held_drew (S := fun W => Turn (fun g => g = (d k).p) w0 W) (by kernel_rfl) ((Turn.refl _ w0).drew) (fun hHeld => ?_)
  refine' wpAnyH_take (i := 0) (v := .pointer (some ⟨tw, 0, none⟩)) rfl (by kernel_rfl) (by kernel_rfl) (by kernel_rfl) (fun _ _ _ h => h) (Or.inl ⟨by kernel_rfl, fun W hW => ?y1⟩) hHeld ?r1
  · go_simp
  refine' wpAnyH_take (i := 1) (v := .int .i64 k) rfl (by kernel_rfl) (by kernel_rfl) (by kernel_rfl) (fun _ _ _ h => h) (Or.inl ⟨by kernel_rfl, fun W hW => ?y2⟩) hHeld ?r2
  · go_simp
  refine' wpAnyH_take (i := 2) (v := .pointer (some ⟨tw, 0, none⟩)) rfl (by kernel_rfl) (by kernel_rfl) (by kernel_rfl) (fun _ _ _ h => h) (Or.inl ⟨by kernel_rfl, fun W hW => ?y3⟩) hHeld ?r3
  · go_simp
  refine' wpAnyH_take (i := 3) (v := .pointer (some ⟨tw, 0, none⟩)) rfl (by kernel_rfl) (by kernel_rfl) (by kernel_rfl) (fun _ _ _ h => h) (Or.inl ⟨by kernel_rfl, fun W hW => ?y4⟩) hHeld ?r4
  · go_simp
  refine' wpAnyH_take (i := 4) (v := .pointer (some ⟨tw, k, none⟩)) rfl (by kernel_rfl) (by kernel_rfl) (by kernel_rfl) (fun _ _ _ h => h) (Or.inl ⟨by kernel_rfl, fun W hW => ?y5⟩) hHeld ?r5
  · go_simp
  refine' wpAnyH_take (i := 5) (v := .pointer (some ⟨(d k).p, 0, none⟩)) rfl (by kernel_rfl) (by kernel_rfl) (by kernel_rfl) (fun _ _ _ h => h) (Or.inl ⟨by kernel_rfl, fun W hW => ?y6⟩) hHeld ?r6
  · have c := hW.keep cp0 (fun q => offtw (.inl (.inl q)))
    go_simp
  refine' wpAnyH_take (i := 6) (v := .pointer (some ⟨gB, 3, none⟩)) rfl (by kernel_rfl) (by kernel_rfl) (by kernel_rfl) (fun _ _ _ h => h) (Or.inl ⟨by kernel_rfl, fun W hW => ?y7⟩) hHeld ?r7
  · go_simp
  refine' wpAnyH_take (i := 7) (v := .int .u64 x.a.toNat) rfl (by kernel_rfl) (by kernel_rfl) (by kernel_rfl) (fun _ _ _ h => h) (Or.inl ⟨by kernel_rfl, fun W hW => ?y8⟩) hHeld ?r8
  · have c := hW.keep xa (fun q => offB (.inl (.inl q)))
    go_simp
  refine' wpAnyH_take (i := 9) (v := .pointer (some ⟨tw, 0, none⟩)) rfl (by kernel_rfl) (by kernel_rfl) (by kernel_rfl) (fun _ _ _ h => h) (Or.inl ⟨by kernel_rfl, fun W hW => ?y9⟩) hHeld ?r9
  · go_simp
  refine' wpAnyH_take (i := 10) (v := .int .i64 k) rfl (by kernel_rfl) (by kernel_rfl) (by kernel_rfl) (fun _ _ _ h => h) (Or.inl ⟨by kernel_rfl, fun W hW => ?y10⟩) hHeld ?r10
  · go_simp
  refine' wpAnyH_take (i := 11) (v := .pointer (some ⟨tw, 0, none⟩)) rfl (by kernel_rfl) (by kernel_rfl) (by kernel_rfl) (fun _ _ _ h => h) (Or.inl ⟨by kernel_rfl, fun W hW => ?y11⟩) hHeld ?r11
  · go_simp
  refine' wpAnyH_take (i := 12) (v := .pointer (some ⟨tw, 2, none⟩)) rfl (by kernel_rfl) (by kernel_rfl) (by kernel_rfl) (fun _ _ _ h => h) (Or.inl ⟨by kernel_rfl, fun W hW => ?y12⟩) hHeld ?r12
  · go_simp
  refine' wpAnyH_take (i := 13) (v := .pointer (some ⟨tw, 2 + k, none⟩)) rfl (by kernel_rfl) (by kernel_rfl) (by kernel_rfl) (fun _ _ _ h => h) (Or.inl ⟨by kernel_rfl, fun W hW => ?y13⟩) hHeld ?r13
  · go_simp
  refine' wpAnyH_take (i := 14) (v := .pointer (some ⟨(d k).q, 0, none⟩)) rfl (by kernel_rfl) (by kernel_rfl) (by kernel_rfl) (fun _ _ _ h => h) (Or.inl ⟨by kernel_rfl, fun W hW => ?y14⟩) hHeld ?r14
  · have c := hW.keep cq0 (fun q => offtw (.inl (.inl q)))
    go_simp
  refine' wpAnyH_take (i := 15) (v := .pointer (some ⟨gB, 3, none⟩)) rfl (by kernel_rfl) (by kernel_rfl) (by kernel_rfl) (fun _ _ _ h => h) (Or.inl ⟨by kernel_rfl, fun W hW => ?y15⟩) hHeld ?r15
  · go_simp
  refine' wpAnyH_take (i := 16) (v := .int .u64 x.a.toNat) rfl (by kernel_rfl) (by kernel_rfl) (by kernel_rfl) (fun _ _ _ h => h) (Or.inl ⟨by kernel_rfl, fun W hW => ?y16⟩) hHeld ?r16
  · have c := hW.keep xa (fun q => offB (.inl (.inl q)))
    go_simp
  refine wpAnyH_ready (rs := [8]) (by kernel_rfl) (by simp) ?_
  refine AllReadyH.cons rfl (fun K hK => ?_) AllReadyH.nil
  go_simp
  refine cc.mono ?_
  rintro e w1 ⟨rfl, bk1, t1⟩
  have t01 : Turn (fun g => g = (d k).p) w0 w1 := ((Turn.refl _ w0).drew).trans t1 (fun _ _ q => q)
  obtain ⟨h1, tb1⟩ := Hh0.out.side_same hk (t01.mono (fun _ _ q => .inl (.inl q))) ((Hh0.out.side k hk).bk_same t01 bk1)
  refine hK.out _ _ t01 (fun hHeld => ?_)
  clear hK
  have c2 := rknown24 (h1.side k hk).rf x.a
  refine wpAnyH_ready (rs := [17]) (by kernel_rfl) (by simp) ?_
  refine AllReadyH.cons rfl (fun K hK => ?_) AllReadyH.nil
  go_simp
  refine c2.mono ?_
  rintro e w2 ⟨rfl, q2⟩
  have q2 := q2.symm
  subst q2
  refine hK.out _ _ t01 (fun hHeld => ?_)
  clear hK c2 cc
  generalize decide (x.a ∈ (d k).E) = bb at *
  have ebb : ∀ W, (binOp .eql 4 (.bool bb) (.bool bb)).run Tryd.prog W = .ok (.bool true) W := fun W => by cases bb <;> kernel_rfl
  refine' wpAnyH_take (i := 18) (v := .bool true) rfl (by kernel_rfl) (by kernel_rfl) (by kernel_rfl) (fun _ _ _ h => h) (Or.inl ⟨by kernel_rfl, fun W hW => ?y17⟩) hHeld ?r17
  · have c := ebb W
    go_simp
  refine' wpAnyH_take (i := 19) (v := .bool true) rfl (by kernel_rfl) (by kernel_rfl) (by kernel_rfl) (fun _ _ _ h => h) (Or.inl ⟨by kernel_rfl, fun W hW => ?y18⟩) hHeld ?r18
  · go_simp
  refine wpAnyH_done (by kernel_rfl) ?_ _
  refine NoPanic.normal ?_
  go_simp
  go_wp2_with fail
  go_ret
  exact ⟨rfl, (After.same h1 tb1).pre HT0.out⟩
set_option maxRecDepth 100000 in
set_option maxHeartbeats 4000000 in
theorem step10_count (h : Tw base w tw d vq Q) (x : Opx) (hx : x.ok) (hb : Bs w x.va x.bs) (hl0 : Laid0 w) (hl1 : Laid1 w) (h2 : 2 ≤ base) (hm : ∀ k, k < 2 → (d k).E.length + (d k).R.length ≤ 1599289640401) (hQl : Q.length ≤ 4398046511104) (hKd : x.kind = 5) : Calls Tryd.prog 10 #[.pointer (some ⟨tw, 0, none⟩), .agg (opC x).toArray] w fun e w' =>
    e = .returned (.bool true) ∧ After base w tw d Q w' := by
  have hk := x.k_lt
  have hand := i64_and1 x.who
  rw [x.k_eq] at hand
  obtain ⟨w0, hw0⟩ : ∃ w0, w.alloc (.cells (opC x).toArray 33) = w0 := ⟨_, rfl⟩
  have T0 : Turn no w w0 := by rw [← hw0]; exact (Turn.refl no w).alloc _
  have B0 : Row w0 w.heap.size (opC x).toArray 33 := by rw [← hw0]; exact Row.new w _ 33
  have bo := Bo.of hx B0
  have h0 := h.turn_no T0
  obtain ⟨gB, hgB⟩ : ∃ g, w.heap.size = g := ⟨_, rfl⟩
  rw [hgB] at B0 bo
  have s33 := sizeOp hx
  have xw := bo.who
  have xk := bo.kind
  have xa := bo.a
  have xp := bo.pos
  generalize hkk : x.k = k at *
  have hk' : (k : Int) < 2 := by omega
  have HT0 := shutX T0
  have Hh0 := shutX h0
  have hb0 := hb.turn_no T0
  have hl00 := hl0.turn T0 (fun q => q)
  have hl10 := hl1.turn T0 (fun q => q)
  have hmk := hm k hk
  have gBl := B0.lt
  have offB : ¬ PFp (d k) gB := (h0.side k hk).away B0 (by decide)
  have offtw := h0.tw_off hk
  have cp0 : w0.cell? ⟨tw, k, none⟩ = some (.pointer (some ⟨(d k).p, 0, none⟩)) := (h0.at (i := 0) hk).1
  have cq0 : w0.cell? ⟨tw, 2 + k, none⟩ = some (.pointer (some ⟨(d k).q, 0, none⟩)) := (h0.at (i := 0) hk).2.1
  have c4 : w0.cell? ⟨tw, 4 + k, none⟩ = some (d k).vs := (h0.at (i := 0) hk).2.2.1
  have c6 : w0.cell? ⟨tw, 6 + k, none⟩ = some (d k).vt := (h0.at (i := 0) hk).2.2.2
  rw [hKd] at xk
  have cc := ((h0.side k hk).bk.turn_no ((Turn.refl no w0).drew)).count
  clear hb hl0 hl1 bo T0 h0 h
  generalize hCC : (opC x).toArray = C at *
  go_enter Tryd.func10, Tryd.ntmps10
  go_upto_region 1 with fail
  try rw [hw0]
  try rw [hgB]
  clear hw0
  go_wp2_with fail
  refine wp_region_noPanic ?_
  refine wp_region_held_drew (S := fun W => Turn (fun g => g = (d k).p) w0 W) (by kernel_rfl) ((Turn.refl _ w0).drew) (fun hHeld => ?_)
  refine' wpAnyH_take (i := 0) (v := .pointer (some ⟨tw, 0, none⟩)) rfl (by kernel_rfl) (by kernel_rfl) (by kernel_rfl) (fun _ _ _ h => h) (Or.inl ⟨by kernel_rfl, fun W hW => ?y19⟩) hHeld ?r19
  · go_simp
  refine' wpAnyH_take (i := 1) (v := .int .i64 k) rfl (by kernel_rfl) (by kernel_rfl) (by kernel_rfl) (fun _ _ _ h => h) (Or.inl ⟨by kernel_rfl, fun W hW => ?y20⟩) hHeld ?r20
  · go_simp
  refine' wpAnyH_take (i := 2) (v := .pointer (some ⟨tw, 0, none⟩)) rfl (by kernel_rfl) (by kernel_rfl) (by kernel_rfl) (fun _ _ _ h => h) (Or.inl ⟨by kernel_rfl, fun W hW => ?y21⟩) hHeld ?r21
  · go_simp
  refine' wpAnyH_take (i := 3) (v := .pointer (some ⟨tw, 0, none⟩)) rfl (by kernel_rfl) (by kernel_rfl) (by kernel_rfl) (fun _ _ _ h => h) (Or.inl ⟨by kernel_rfl, fun W hW => ?y22⟩) hHeld ?r22
  · go_simp
  refine' wpAnyH_take (i := 4) (v := .pointer (some ⟨tw, k, none⟩)) rfl (by kernel_rfl) (by kernel_rfl) (by kernel_rfl) (fun _ _ _ h => h) (Or.inl ⟨by kernel_rfl, fun W hW => ?y23⟩) hHeld ?r23
  · go_simp
  refine' wpAnyH_take (i := 5) (v := .pointer (some ⟨(d k).p, 0, none⟩)) rfl (by kernel_rfl) (by kernel_rfl) (by kernel_rfl) (fun _ _ _ h => h) (Or.inl ⟨by kernel_rfl, fun W hW => ?y24⟩) hHeld ?r24
  · have c := hW.keep cp0 (fun q => offtw (.inl (.inl q)))
    go_simp
  refine' wpAnyH_take (i := 7) (v := .pointer (some ⟨tw, 0, none⟩)) rfl (by kernel_rfl) (by kernel_rfl) (by kernel_rfl) (fun _ _ _ h => h) (Or.inl ⟨by kernel_rfl, fun W hW => ?y25⟩) hHeld ?r25
  · go_simp
  refine' wpAnyH_take (i := 8) (v := .int .i64 k) rfl (by kernel_rfl) (by kernel_rfl) (by kernel_rfl) (fun _ _ _ h => h) (Or.inl ⟨by kernel_rfl, fun W hW => ?y26⟩) hHeld ?r26
  · go_simp
  refine' wpAnyH_take (i := 9) (v := .pointer (some ⟨tw, 0, none⟩)) rfl (by kernel_rfl) (by kernel_rfl) (by kernel_rfl) (fun _ _ _ h => h) (Or.inl ⟨by kernel_rfl, fun W hW => ?y27⟩) hHeld ?r27
  · go_simp
  refine' wpAnyH_take (i := 10) (v := .pointer (some ⟨tw, 2, none⟩)) rfl (by kernel_rfl) (by kernel_rfl) (by kernel_rfl) (fun _ _ _ h => h) (Or.inl ⟨by kernel_rfl, fun W hW => ?y28⟩) hHeld ?r28
  · go_simp
  refine' wpAnyH_take (i := 11) (v := .pointer (some ⟨tw, 2 + k, none⟩)) rfl (by kernel_rfl) (by kernel_rfl) (by kernel_rfl) (fun _ _ _ h => h) (Or.inl ⟨by kernel_rfl, fun W hW => ?y29⟩) hHeld ?r29
  · go_simp
  refine' wpAnyH_take (i := 12) (v := .pointer (some ⟨(d k).q, 0, none⟩)) rfl (by kernel_rfl) (by kernel_rfl) (by kernel_rfl) (fun _ _ _ h => h) (Or.inl ⟨by kernel_rfl, fun W hW => ?y30⟩) hHeld ?r30
  · have c := hW.keep cq0 (fun q => offtw (.inl (.inl q)))
    go_simp
  refine wpAnyH_ready (rs := [6]) (by kernel_rfl) (by simp) ?_
  refine AllReadyH.cons rfl (fun K hK => ?_) AllReadyH.nil
  go_simp
  refine cc.mono ?_
  rintro e w1 ⟨rfl, bk1, t1⟩
  have t01 : Turn (fun g => g = (d k).p) w0 w1 := ((Turn.refl _ w0).drew).trans t1 (fun _ _ q => q)
  obtain ⟨h1, tb1⟩ := Hh0.out.side_same hk (t01.mono (fun _ _ q => .inl (.inl q))) ((Hh0.out.side k hk).bk_same t01 bk1)
  refine hK.out _ _ t01 (fun hHeld => ?_)
  clear hK
  have c2 := rcount12 (h1.side k hk).rf
  refine wpAnyH_ready (rs := [13]) (by kernel_rfl) (by simp) ?_
  refine AllReadyH.cons rfl (fun K hK => ?_) AllReadyH.nil
  go_simp
  refine c2.mono ?_
  rintro e w2 ⟨rfl, q2⟩
  have q2 := q2.symm
  subst q2
  refine hK.out _ _ t01 (fun hHeld => ?_)
  clear hK c2 cc
  refine' wpAnyH_take (i := 14) (v := .bool true) rfl (by kernel_rfl) (by kernel_rfl) (by kernel_rfl) (fun _ _ _ h => h) (Or.inl ⟨by kernel_rfl, fun W hW => ?y31⟩) hHeld ?r31
  · go_simp
  refine' wpAnyH_take (i := 15) (v := .bool true) rfl (by kernel_rfl) (by kernel_rfl) (by kernel_rfl) (fun _ _ _ h => h) (Or.inl ⟨by kernel_rfl, fun W hW => ?y32⟩) hHeld ?r32
  · go_simp
  refine wpAnyH_done (by kernel_rfl) ?_ _
  refine NoPanic.normal ?_
  go_simp
  go_wp2_with fail
  go_ret
  exact ⟨rfl, (After.same h1 tb1).pre HT0.out⟩
end
end Go.Proofs.YtnlcngcilojnkabDoor

/- step: Signed, Addr; all kinds. -/
namespace Go.Proofs.YtnlcngcilojnkabDoor
open Go.RowKit Go.Maps Go.MuLone
set_option linter.unusedVariables false
section
variable {base : Nat} {w : World} {tw : Nat} {d : Nat → Pd} {vq : Value} {Q : List (List UInt8)} {k : Nat}
set_option maxRecDepth 100000 in
set_option maxHeartbeats 4000000 in
theorem step10_signed (h : Tw base w tw d vq Q) (x : Opx) (hx : x.ok) (hb : Bs w x.va x.bs) (hl0 : Laid0 w) (hl1 : Laid1 w) (h2 : 2 ≤ base) (hm : ∀ k, k < 2 → (d k).E.length + (d k).R.length ≤ 1599289640401) (hQl : Q.length ≤ 4398046511104) (hKd : x.kind = 6) : Calls Tryd.prog 10 #[.pointer (some ⟨tw, 0, none⟩), .agg (opC x).toArray] w fun e w' =>
    e = .returned (.bool true) ∧ After base w tw d Q w' := by
  have hk := x.k_lt
  have hand := i64_and1 x.who
  rw [x.k_eq] at hand
  obtain ⟨w0, hw0⟩ : ∃ w0, w.alloc (.cells (opC x).toArray 33) = w0 := ⟨_, rfl⟩
  have T0 : Turn no w w0 := by rw [← hw0]; exact (Turn.refl no w).alloc _
  have B0 : Row w0 w.heap.size (opC x).toArray 33 := by rw [← hw0]; exact Row.new w _ 33
  have bo := Bo.of hx B0
  have h0 := h.turn_no T0
  obtain ⟨gB, hgB⟩ : ∃ g, w.heap.size = g := ⟨_, rfl⟩
  rw [hgB] at B0 bo
  have s33 := sizeOp hx
  have xw := bo.who
  have xk := bo.kind
  have xa := bo.a
  have xp := bo.pos
  generalize hkk : x.k = k at *
  have hk' : (k : Int) < 2 := by omega
  have HT0 := shutX T0
  have Hh0 := shutX h0
  have hb0 := hb.turn_no T0
  have hl00 := hl0.turn T0 (fun q => q)
  have hl10 := hl1.turn T0 (fun q => q)
  have hmk := hm k hk
  have gBl := B0.lt
  have offB : ¬ PFp (d k) gB := (h0.side k hk).away B0 (by decide)
  have offtw := h0.tw_off hk
  have cp0 : w0.cell? ⟨tw, k, none⟩ = some (.pointer (some ⟨(d k).p, 0, none⟩)) := (h0.at (i := 0) hk).1
  have cq0 : w0.cell? ⟨tw, 2 + k, none⟩ = some (.pointer (some ⟨(d k).q, 0, none⟩)) := (h0.at (i := 0) hk).2.1
  have c4 : w0.cell? ⟨tw, 4 + k, none⟩ = some (d k).vs := (h0.at (i := 0) hk).2.2.1
  have c6 : w0.cell? ⟨tw, 6 + k, none⟩ = some (d k).vt := (h0.at (i := 0) hk).2.2.2
  rw [hKd] at xk
  have cc := signed23 ((h0.side k hk).bk.turn_no ((Turn.refl no w0).drew)) x.a (h0.side k hk).small (by omega)
  clear hb hl0 hl1 bo T0 h0 h
  generalize hCC : (opC x).toArray = C at *
  go_enter Tryd.func10, Tryd.ntmps10
  go_upto_region 1 with fail
  try rw [hw0]
  try rw [hgB]
  clear hw0
  go_wp2_with fail
  refine wp_region_noPanic ?_
  refine wp_region_held_drew (S := fun W => Turn (fun g => g = (d k).p) w0 W) (by kernel_rfl) ((Turn.refl _ w0).drew) (fun hHeld => ?_)
  refine' wpAnyH_take (i := 0) (v := .pointer (some ⟨tw, 0, none⟩)) rfl (by kernel_rfl) (by kernel_rfl) (by kernel_rfl) (fun _ _ _ h => h) (Or.inl ⟨by kernel_rfl, fun W hW => ?y1⟩) hHeld ?r1
  · go_simp
  refine' wpAnyH_take (i := 1) (v := .int .i64 k) rfl (by kernel_rfl) (by kernel_rfl) (by kernel_rfl) (fun _ _ _ h => h) (Or.inl ⟨by kernel_rfl, fun W hW => ?y2⟩) hHeld ?r2
  · go_simp
  refine' wpAnyH_take (i := 2) (v := .pointer (some ⟨tw, 0, none⟩)) rfl (by kernel_rfl) (by kernel_rfl) (by kernel_rfl) (fun _ _ _ h => h) (Or.inl ⟨by kernel_rfl, fun W hW => ?y3⟩) hHeld ?r3
  · go_simp
  refine' wpAnyH_take (i := 3) (v := .pointer (some ⟨tw, 0, none⟩)) rfl (by kernel_rfl) (by kernel_rfl) (by kernel_rfl) (fun _ _ _ h => h) (Or.inl ⟨by kernel_rfl, fun W hW => ?y4⟩) hHeld ?r4
  · go_simp
  refine' wpAnyH_take (i := 4) (v := .pointer (some ⟨tw, k, none⟩)) rfl (by kernel_rfl) (by kernel_rfl) (by kernel_rfl) (fun _ _ _ h => h) (Or.inl ⟨by kernel_rfl, fun W hW => ?y5⟩) hHeld ?r5
  · go_simp
  refine' wpAnyH_take (i := 5) (v := .pointer (some ⟨(d k).p, 0, none⟩)) rfl (by kernel_rfl) (by kernel_rfl) (by kernel_rfl) (fun _ _ _ h => h) (Or.inl ⟨by kernel_rfl, fun W hW => ?y6⟩) hHeld ?r6
  · have c := hW.keep cp0 (fun q => offtw (.inl (.inl q)))
    go_simp
  refine' wpAnyH_take (i := 6) (v := .pointer (some ⟨gB, 3, none⟩)) rfl (by kernel_rfl) (by kernel_rfl) (by kernel_rfl) (fun _ _ _ h => h) (Or.inl ⟨by kernel_rfl, fun W hW => ?y7⟩) hHeld ?r7
  · go_simp
  refine' wpAnyH_take (i := 7) (v := .int .u64 x.a.toNat) rfl (by kernel_rfl) (by kernel_rfl) (by kernel_rfl) (fun _ _ _ h => h) (Or.inl ⟨by kernel_rfl, fun W hW => ?y8⟩) hHeld ?r8
  · have c := hW.keep xa (fun q => offB (.inl (.inl q)))
    go_simp
  refine' wpAnyH_take (i := 9) (v := .pointer (some ⟨tw, 0, none⟩)) rfl (by kernel_rfl) (by kernel_rfl) (by kernel_rfl) (fun _ _ _ h => h) (Or.inl ⟨by kernel_rfl, fun W hW => ?y9⟩) hHeld ?r9
  · go_simp
  refine' wpAnyH_take (i := 10) (v := .int .i64 k) rfl (by kernel_rfl) (by kernel_rfl) (by kernel_rfl) (fun _ _ _ h => h) (Or.inl ⟨by kernel_rfl, fun W hW => ?y10⟩) hHeld ?r10
  · go_simp
  refine' wpAnyH_take (i := 11) (v := .pointer (some ⟨tw, 0, none⟩)) rfl (by kernel_rfl) (by kernel_rfl) (by kernel_rfl) (fun _ _ _ h => h) (Or.inl ⟨by kernel_rfl, fun W hW => ?y11⟩) hHeld ?r11
  · go_simp
  refine' wpAnyH_take (i := 12) (v := .pointer (some ⟨tw, 2, none⟩)) rfl (by kernel_rfl) (by kernel_rfl) (by kernel_rfl) (fun _ _ _ h => h) (Or.inl ⟨by kernel_rfl, fun W hW => ?y12⟩) hHeld ?r12
  · go_simp
  refine' wpAnyH_take (i := 13) (v := .pointer (some ⟨tw, 2 + k, none⟩)) rfl (by kernel_rfl) (by kernel_rfl) (by kernel_rfl) (fun _ _ _ h => h) (Or.inl ⟨by kernel_rfl, fun W hW => ?y13⟩) hHeld ?r13
  · go_simp
  refine' wpAnyH_take (i := 14) (v := .pointer (some ⟨(d k).q, 0, none⟩)) rfl (by kernel_rfl) (by kernel_rfl) (by kernel_rfl) (fun _ _ _ h => h) (Or.inl ⟨by kernel_rfl, fun W hW => ?y14⟩) hHeld ?r14
  · have c := hW.keep cq0 (fun q => offtw (.inl (.inl q)))
    go_simp
  refine' wpAnyH_take (i := 15) (v := .pointer (some ⟨gB, 3, none⟩)) rfl (by kernel_rfl) (by kernel_rfl) (by kernel_rfl) (fun _ _ _ h => h) (Or.inl ⟨by kernel_rfl, fun W hW => ?y15⟩) hHeld ?r15
  · go_simp
  refine' wpAnyH_take (i := 16) (v := .int .u64 x.a.toNat) rfl (by kernel_rfl) (by kernel_rfl) (by kernel_rfl) (fun _ _ _ h => h) (Or.inl ⟨by kernel_rfl, fun W hW => ?y16⟩) hHeld ?r16
  · have c := hW.keep xa (fun q => offB (.inl (.inl q)))
    go_simp
  refine wpAnyH_ready (rs := [8]) (by kernel_rfl) (by simp) ?_
  refine AllReadyH.cons rfl (fun K hK => ?_) AllReadyH.nil
  go_simp
  refine cc.mono ?_
  rintro e w1 ⟨v1, ts1, rfl, ml1, tx1, bk1, t1⟩
  have t01 : Turn (fun g => g = (d k).p) w0 w1 := ((Turn.refl _ w0).drew).trans t1 (fun _ _ q => q)
  obtain ⟨h1, tb1⟩ := Hh0.out.side_same hk (t01.mono (fun _ _ q => .inl (.inl q))) ((Hh0.out.side k hk).bk_same t01 bk1)
  refine hK.out _ _ t01 (fun hHeld => ?_)
  clear hK
  have c2 := rsigned27 (h1.side k hk).rf x.a (h1.side k hk).small (by omega)
  refine wpAnyH_ready (rs := [17]) (by kernel_rfl) (by simp) ?_
  refine AllReadyH.cons rfl (fun K hK => ?_) AllReadyH.nil
  go_simp
  refine c2.mono ?_
  rintro e w2 ⟨v2, ts2, rfl, ml2, tx2, t2⟩
  have t02 : Turn (fun g => g = (d k).p) w0 w2 := t01.then_no t2
  refine hK.out _ _ t02 (fun hHeld => ?_)
  clear hK c2 cc
  have c3 := same24 w2 v1 v2 ts1 ts2 (ml1.turn_no t2).msl ml2.msl (by rw [tx1, tx2])
  obtain ⟨a1, n1, p1, hv1⟩ := ml1.own.shp
  obtain ⟨a2, n2, p2, hv2⟩ := ml2.own.shp
  subst hv1
  subst hv2
  refine wpAnyH_ready (rs := [18]) (by kernel_rfl) (by simp) ?_
  refine AllReadyH.cons rfl (fun K hK => ?_) AllReadyH.nil
  go_simp
  refine c3.mono ?_
  rintro e w3 ⟨rfl, t3⟩
  refine hK.out _ _ (t02.then_no t3) (fun hHeld => ?_)
  clear hK c3
  refine' wpAnyH_take (i := 19) (v := .bool true) rfl (by kernel_rfl) (by kernel_rfl) (by kernel_rfl) (fun _ _ _ h => h) (Or.inl ⟨by kernel_rfl, fun W hW => ?y17⟩) hHeld ?r17
  · go_simp
  refine wpAnyH_done (by kernel_rfl) ?_ _
  refine NoPanic.normal ?_
  go_simp
  have FIN : Shut (After base w tw d Q w3) := (After.same ((h1.turn_no t2).turn_no t3) ((tb1.then_no t2).then_no t3)).pre HT0.out
  clear ml1 ml2 tx1 tx2 h1 tb1 t1 bk1 t2 t3 t01 t02 hHeld
  go_wp2_with fail
  go_ret
  exact ⟨rfl, FIN.out⟩
set_option maxRecDepth 100000 in
set_option maxHeartbeats 4000000 in
theorem step10_addr0 (h : Tw base w tw d vq Q) (x : Opx) (hx : x.ok) (hb : Bs w x.va x.bs) (hl0 : Laid0 w) (hl1 : Laid1 w) (h2 : 2 ≤ base) (hm : ∀ k, k < 2 → (d k).E.length + (d k).R.length ≤ 1599289640401) (hQl : Q.length ≤ 4398046511104) (hKd : x.kind = 7) (hE0 : (d x.k).E.length = 0) : Calls Tryd.prog 10 #[.pointer (some ⟨tw, 0, none⟩), .agg (opC x).toArray] w fun e w' =>
    e = .returned (.bool true) ∧ After base w tw d Q w' := by
  have hk := x.k_lt
  have hand := i64_and1 x.who
  rw [x.k_eq] at hand
  obtain ⟨w0, hw0⟩ : ∃ w0, w.alloc (.cells (opC x).toArray 33) = w0 := ⟨_, rfl⟩
  have T0 : Turn no w w0 := by rw [← hw0]; exact (Turn.refl no w).alloc _
  have B0 : Row w0 w.heap.size (opC x).toArray 33 := by rw [← hw0]; exact Row.new w _ 33
  have bo := Bo.of hx B0
  have h0 := h.turn_no T0
  obtain ⟨gB, hgB⟩ : ∃ g, w.heap.size = g := ⟨_, rfl⟩
  rw [hgB] at B0 bo
  have s33 := sizeOp hx
  have xw := bo.who
  have xk := bo.kind
  have xa := bo.a
  have xp := bo.pos
  generalize hkk : x.k = k at *
  have hk' : (k : Int) < 2 := by omega
  have HT0 := shutX T0
  have Hh0 := shutX h0
  have hb0 := hb.turn_no T0
  have hl00 := hl0.turn T0 (fun q => q)
  have hl10 := hl1.turn T0 (fun q => q)
  have hmk := hm k hk
  have gBl := B0.lt
  have offB : ¬ PFp (d k) gB := (h0.side k hk).away B0 (by decide)
  have offtw := h0.tw_off hk
  have cp0 : w0.cell? ⟨tw, k, none⟩ = some (.pointer (some ⟨(d k).p, 0, none⟩)) := (h0.at (i := 0) hk).1
  have cq0 : w0.cell? ⟨tw, 2 + k, none⟩ = some (.pointer (some ⟨(d k).q, 0, none⟩)) := (h0.at (i := 0) hk).2.1
  have c4 : w0.cell? ⟨tw, 4 + k, none⟩ = some (d k).vs := (h0.at (i := 0) hk).2.2.1
  have c6 : w0.cell? ⟨tw, 6 + k, none⟩ = some (d k).vt := (h0.at (i := 0) hk).2.2.2
  rw [hKd] at xk
  obtain ⟨va, vc, hvs⟩ : ∃ a c, (d k).vs = .slice a 0 c := by
    have hl := (h0.side k hk).len
    rcases (h0.side k hk).os.shape with ⟨e, _⟩ | ⟨g, cap, cur, e, _⟩
    · exact ⟨none, 0, e⟩
    · have hz : (d k).ss.length = 0 := by omega
      exact ⟨_, cap, by rw [e, List.length_map, hz]⟩
  rw [hvs] at c4
  clear hb hl0 hl1 bo T0 h0 h
  generalize hCC : (opC x).toArray = C at *
  go_enter Tryd.func10, Tryd.ntmps10
  go_upto_region 1 with fail
  try rw [hw0]
  try rw [hgB]
  clear hw0
  go_wp2_with fail
  go_ret
  exact ⟨rfl, .same Hh0.out HT0.out.of_no⟩
set_option maxRecDepth 100000 in
set_option maxHeartbeats 4000000 in
theorem step10_addr1 (h : Tw base w tw d vq Q) (x : Opx) (hx : x.ok) (hb : Bs w x.va x.bs) (hl0 : Laid0 w) (hl1 : Laid1 w) (h2 : 2 ≤ base) (hm : ∀ k, k < 2 → (d k).E.length + (d k).R.length ≤ 1599289640401) (hQl : Q.length ≤ 4398046511104) (hKd : x.kind = 7) (hE : 0 < (d x.k).E.length) : Calls Tryd.prog 10 #[.pointer (some ⟨tw, 0, none⟩), .agg (opC x).toArray] w fun e w' =>
    e = .returned (.bool true) ∧ After base w tw d Q w' := by
  have hk := x.k_lt
  have hand := i64_and1 x.who
  rw [x.k_eq] at hand
  obtain ⟨w0, hw0⟩ : ∃ w0, w.alloc (.cells (opC x).toArray 33) = w0 := ⟨_, rfl⟩
  have T0 : Turn no w w0 := by rw [← hw0]; exact (Turn.refl no w).alloc _
  have B0 : Row w0 w.heap.size (opC x).toArray 33 := by rw [← hw0]; exact Row.new w _ 33
  have bo := Bo.of hx B0
  have h0 := h.turn_no T0
  obtain ⟨gB, hgB⟩ : ∃ g, w.heap.size = g := ⟨_, rfl⟩
  rw [hgB] at B0 bo
  have s33 := sizeOp hx
  have xw := bo.who
  have xk := bo.kind
  have xa := bo.a
  have xp := bo.pos
  generalize hkk : x.k = k at *
  have hk' : (k : Int) < 2 := by omega
  have HT0 := shutX T0
  have Hh0 := shutX h0
  have hb0 := hb.turn_no T0
  have hl00 := hl0.turn T0 (fun q => q)
  have hl10 := hl1.turn T0 (fun q => q)
  have hmk := hm k hk
  have gBl := B0.lt
  have offB : ¬ PFp (d k) gB := (h0.side k hk).away B0 (by decide)
  have offtw := h0.tw_off hk
  have cp0 : w0.cell? ⟨tw, k, none⟩ = some (.pointer (some ⟨(d k).p, 0, none⟩)) := (h0.at (i := 0) hk).1
  have cq0 : w0.cell? ⟨tw, 2 + k, none⟩ = some (.pointer (some ⟨(d k).q, 0, none⟩)) := (h0.at (i := 0) hk).2.1
  have c4 : w0.cell? ⟨tw, 4 + k, none⟩ = some (d k).vs := (h0.at (i := 0) hk).2.2.1
  have c6 : w0.cell? ⟨tw, 6 + k, none⟩ = some (d k).vt := (h0.at (i := 0) hk).2.2.2
  rw [hKd] at xk
  have S0 := h0.side k hk
  obtain ⟨gS, cS, hvs, lS, mS, cellS⟩ := S0.os.at (by simp [S0.len]; exact hE)
  obtain ⟨gT, cT, hvt, lT, mT, cellT⟩ := S0.ot.at (by simp [S0.lent]; exact hE)
  simp only [List.length_map, S0.len] at hvs lS
  simp only [List.length_map, S0.lent] at hvt lT
  have hEl : (d k).E.length ≤ 9223372036854775807 := by omega
  have har := fun W => around22 W x.pos (d k).E.length hE hEl
  have hal := around_lt x.pos (d k).E.length hE
  generalize around x.pos (d k).E.length = i at *
  obtain ⟨a, ha⟩ : ∃ a, (d k).E[i]? = some a := ⟨(d k).E[i]'hal, List.getElem?_eq_getElem _⟩
  obtain ⟨s, hs⟩ : ∃ s, (d k).ss[i]? = some s := ⟨(d k).ss[i]'(by rw [S0.len]; exact hal), List.getElem?_eq_getElem _⟩
  obtain ⟨t, ht⟩ : ∃ t, (d k).ts[i]? = some t := ⟨(d k).ts[i]'(by rw [S0.lent]; exact hal), List.getElem?_eq_getElem _⟩
  have cs0 : w0.cell? ⟨gS, i, none⟩ = some (.pointer (some ⟨s, 0, none⟩)) := cellS i _ (by simp [hs]; rfl)
  have ct0 : w0.cell? ⟨gT, i, none⟩ = some (.pointer (some ⟨t, 0, none⟩)) := cellT i _ (by simp [ht]; rfl)
  rw [hvs] at c4
  rw [hvt] at c6
  have hsg := fun W (t : Turn no w0 W) => addr16 W s (d k).p a (Row.turn (S0.sg i s a hs ha) t (fun q => q))
  have hrs := fun W (tt : Turn no w0 W) => raddr30 W t (d k).q a (Row.turn (S0.rs i t a ht ha) tt (fun q => q))
  obtain ⟨n, hn⟩ : ∃ n, Shut ((d k).E.length = n) := ⟨_, rfl⟩
  rw [show (d k).E.length = n from hn.out] at c4 c6 har hal hEl lS lT hE
  have hn0 : (0 : Int) < (n : Int) := by omega
  have hal' : (i : Int) < (n : Int) := by omega
  clear S0 hvs hvt cellS cellT hs ht ha mS mT
  clear hb hl0 hl1 bo T0 h0 h
  generalize hCC : (opC x).toArray = C at *
  go_enter Tryd.func10, Tryd.ntmps10
  go_upto_region 1 with fail
  try rw [hw0]
  try rw [hgB]
  clear hw0
  go_wp2_with fail
  refine wp_region_noPanic ?_
  refine wp_region_held_drew (S := fun W => Turn no w0 W) (by kernel_rfl) ((Turn.refl no w0).drew) (fun hHeld => ?_)
  refine' wpAnyH_take (i := 0) (v := .pointer (some ⟨gB, 2, none⟩)) rfl (by kernel_rfl) (by kernel_rfl) (by kernel_rfl) (fun _ _ _ h => h) (Or.inl ⟨by kernel_rfl, fun W hW => ?y18⟩) hHeld ?r18
  · go_simp
  refine' wpAnyH_take (i := 1) (v := .int .i64 x.pos) rfl (by kernel_rfl) (by kernel_rfl) (by kernel_rfl) (fun _ _ _ h => h) (Or.inl ⟨by kernel_rfl, fun W hW => ?y19⟩) hHeld ?r19
  · have c := hW.keep xp (fun q => q)
    go_simp
  refine' wpAnyH_take (i := 2) (v := .pointer (some ⟨tw, 0, none⟩)) rfl (by kernel_rfl) (by kernel_rfl) (by kernel_rfl) (fun _ _ _ h => h) (Or.inl ⟨by kernel_rfl, fun W hW => ?y20⟩) hHeld ?r20
  · go_simp
  refine' wpAnyH_take (i := 3) (v := .int .i64 k) rfl (by kernel_rfl) (by kernel_rfl) (by kernel_rfl) (fun _ _ _ h => h) (Or.inl ⟨by kernel_rfl, fun W hW => ?y21⟩) hHeld ?r21
  · go_simp
  refine' wpAnyH_take (i := 4) (v := .pointer (some ⟨tw, 0, none⟩)) rfl (by kernel_rfl) (by kernel_rfl) (by kernel_rfl) (fun _ _ _ h => h) (Or.inl ⟨by kernel_rfl, fun W hW => ?y22⟩) hHeld ?r22
  · go_simp
  refine' wpAnyH_take (i := 5) (v := .pointer (some ⟨tw, 4, none⟩)) rfl (by kernel_rfl) (by kernel_rfl) (by kernel_rfl) (fun _ _ _ h => h) (Or.inl ⟨by kernel_rfl, fun W hW => ?y23⟩) hHeld ?r23
  · go_simp
  refine' wpAnyH_take (i := 6) (v := .pointer (some ⟨tw, 4 + k, none⟩)) rfl (by kernel_rfl) (by kernel_rfl) (by kernel_rfl) (fun _ _ _ h => h) (Or.inl ⟨by kernel_rfl, fun W hW => ?y24⟩) hHeld ?r24
  · go_simp
  refine' wpAnyH_take (i := 7) (v := .slice (some ⟨gS, 0, none⟩) n cS) rfl (by kernel_rfl) (by kernel_rfl) (by kernel_rfl) (fun _ _ _ h => h) (Or.inl ⟨by kernel_rfl, fun W hW => ?y25⟩) hHeld ?r25
  · have c := hW.keep c4 (fun q => q)
    go_simp
  refine' wpAnyH_take (i := 8) (v := .int .i64 n) rfl (by kernel_rfl) (by kernel_rfl) (by kernel_rfl) (fun _ _ _ h => h) (Or.inl ⟨by kernel_rfl, fun W hW => ?y26⟩) hHeld ?r26
  · go_simp
  refine wpAnyH_ready (rs := [9]) (by kernel_rfl) (by simp) ?_
  refine AllReadyH.cons rfl (fun K hK => ?_) AllReadyH.nil
  go_simp
  refine (har _).mono ?_
  rintro e wa ⟨rfl, ea⟩
  have ea := ea.symm
  subst ea
  refine hK.out _ _ ((Turn.refl no w0).drew) (fun hHeld => ?_)
  clear hK
  refine' wpAnyH_take (i := 10) (v := .int .i64 i) rfl (by kernel_rfl) (by kernel_rfl) (by kernel_rfl) (fun _ _ _ h => h) (Or.inl ⟨by kernel_rfl, fun W hW => ?y27⟩) hHeld ?r27
  · go_simp
  refine wpAnyH_done (by kernel_rfl) ?_ _
  refine NoPanic.normal ?_
  go_simp
  have td : Turn no w0 w0.drew := (Turn.refl no w0).drew
  clear hHeld har
  go_wp2_with fail
  refine wp_region_noPanic ?_
  refine wp_region_held_drew (S := fun W => Turn no w0 W) (by kernel_rfl) ((Turn.refl no w0).drew.drew) (fun hHeld => ?_)
  refine' wpAnyH_take (i := 0) (v := .pointer (some ⟨tw, 0, none⟩)) rfl (by kernel_rfl) (by kernel_rfl) (by kernel_rfl) (fun _ _ _ h => h) (Or.inl ⟨by kernel_rfl, fun W hW => ?y28⟩) hHeld ?r28
  · go_simp
  refine' wpAnyH_take (i := 1) (v := .int .i64 k) rfl (by kernel_rfl) (by kernel_rfl) (by kernel_rfl) (fun _ _ _ h => h) (Or.inl ⟨by kernel_rfl, fun W hW => ?y29⟩) hHeld ?r29
  · go_simp
  refine' wpAnyH_take (i := 2) (v := .pointer (some ⟨tw, 0, none⟩)) rfl (by kernel_rfl) (by kernel_rfl) (by kernel_rfl) (fun _ _ _ h => h) (Or.inl ⟨by kernel_rfl, fun W hW => ?y30⟩) hHeld ?r30
  · go_simp
  refine' wpAnyH_take (i := 3) (v := .pointer (some ⟨tw, 4, none⟩)) rfl (by kernel_rfl) (by kernel_rfl) (by kernel_rfl) (fun _ _ _ h => h) (Or.inl ⟨by kernel_rfl, fun W hW => ?y31⟩) hHeld ?r31
  · go_simp
  refine' wpAnyH_take (i := 4) (v := .pointer (some ⟨tw, 4 + k, none⟩)) rfl (by kernel_rfl) (by kernel_rfl) (by kernel_rfl) (fun _ _ _ h => h) (Or.inl ⟨by kernel_rfl, fun W hW => ?y32⟩) hHeld ?r32
  · go_simp
  refine' wpAnyH_take (i := 5) (v := .slice (some ⟨gS, 0, none⟩) n cS) rfl (by kernel_rfl) (by kernel_rfl) (by kernel_rfl) (fun _ _ _ h => h) (Or.inl ⟨by kernel_rfl, fun W hW => ?y33⟩) hHeld ?r33
  · have c := hW.keep c4 (fun q => q)
    go_simp
  refine' wpAnyH_take (i := 6) (v := .int .i64 i) rfl (by kernel_rfl) (by kernel_rfl) (by kernel_rfl) (fun _ _ _ h => h) (Or.inl ⟨by kernel_rfl, fun W hW => ?y34⟩) hHeld ?r34
  · go_simp
  refine' wpAnyH_take (i := 7) (v := .pointer (some ⟨gS, i, none⟩)) rfl (by kernel_rfl) (by kernel_rfl) (by kernel_rfl) (fun _ _ _ h => h) (Or.inl ⟨by kernel_rfl, fun W hW => ?y35⟩) hHeld ?r35
  · go_simp
  refine' wpAnyH_take (i := 8) (v := .pointer (some ⟨s, 0, none⟩)) rfl (by kernel_rfl) (by kernel_rfl) (by kernel_rfl) (fun _ _ _ h => h) (Or.inl ⟨by kernel_rfl, fun W hW => ?y36⟩) hHeld ?r36
  · have c := hW.keep cs0 (fun q => q)
    go_simp
  refine' wpAnyH_take (i := 10) (v := .pointer (some ⟨tw, 0, none⟩)) rfl (by kernel_rfl) (by kernel_rfl) (by kernel_rfl) (fun _ _ _ h => h) (Or.inl ⟨by kernel_rfl, fun W hW => ?y37⟩) hHeld ?r37
  · go_simp
  refine' wpAnyH_take (i := 11) (v := .int .i64 k) rfl (by kernel_rfl) (by kernel_rfl) (by kernel_rfl) (fun _ _ _ h => h) (Or.inl ⟨by kernel_rfl, fun W hW => ?y38⟩) hHeld ?r38
  · go_simp
  refine' wpAnyH_take (i := 12) (v := .pointer (some ⟨tw, 0, none⟩)) rfl (by kernel_rfl) (by kernel_rfl) (by kernel_rfl) (fun _ _ _ h => h) (Or.inl ⟨by kernel_rfl, fun W hW => ?y39⟩) hHeld ?r39
  · go_simp
  refine' wpAnyH_take (i := 13) (v := .pointer (some ⟨tw, 6, none⟩)) rfl (by kernel_rfl) (by kernel_rfl) (by kernel_rfl) (fun _ _ _ h => h) (Or.inl ⟨by kernel_rfl, fun W hW => ?y40⟩) hHeld ?r40
  · go_simp
  refine' wpAnyH_take (i := 14) (v := .pointer (some ⟨tw, 6 + k, none⟩)) rfl (by kernel_rfl) (by kernel_rfl) (by kernel_rfl) (fun _ _ _ h => h) (Or.inl ⟨by kernel_rfl, fun W hW => ?y41⟩) hHeld ?r41
  · go_simp
  refine' wpAnyH_take (i := 15) (v := .slice (some ⟨gT, 0, none⟩) n cT) rfl (by kernel_rfl) (by kernel_rfl) (by kernel_rfl) (fun _ _ _ h => h) (Or.inl ⟨by kernel_rfl, fun W hW => ?y42⟩) hHeld ?r42
  · have c := hW.keep c6 (fun q => q)
    go_simp
  refine' wpAnyH_take (i := 16) (v := .int .i64 i) rfl (by kernel_rfl) (by kernel_rfl) (by kernel_rfl) (fun _ _ _ h => h) (Or.inl ⟨by kernel_rfl, fun W hW => ?y43⟩) hHeld ?r43
  · go_simp
  refine' wpAnyH_take (i := 17) (v := .pointer (some ⟨gT, i, none⟩)) rfl (by kernel_rfl) (by kernel_rfl) (by kernel_rfl) (fun _ _ _ h => h) (Or.inl ⟨by kernel_rfl, fun W hW => ?y44⟩) hHeld ?r44
  · go_simp
  refine' wpAnyH_take (i := 18) (v := .pointer (some ⟨t, 0, none⟩)) rfl (by kernel_rfl) (by kernel_rfl) (by kernel_rfl) (fun _ _ _ h => h) (Or.inl ⟨by kernel_rfl, fun W hW => ?y45⟩) hHeld ?r45
  · have c := hW.keep ct0 (fun q => q)
    go_simp
  refine wpAnyH_ready (rs := [9]) (by kernel_rfl) (by simp) ?_
  refine AllReadyH.cons rfl (fun K hK => ?_) AllReadyH.nil
  go_simp
  refine (hsg _ hHeld).mono ?_
  rintro e wa ⟨rfl, ea⟩
  have ea := ea.symm
  subst ea
  refine hK.out _ _ hHeld (fun hHeld => ?_)
  clear hK
  refine wpAnyH_ready (rs := [19]) (by kernel_rfl) (by simp) ?_
  refine AllReadyH.cons rfl (fun K hK => ?_) AllReadyH.nil
  go_simp
  refine (hrs _ hHeld).mono ?_
  rintro e wa ⟨rfl, ea⟩
  have ea := ea.symm
  subst ea
  refine hK.out _ _ hHeld (fun hHeld => ?_)
  clear hK
  refine' wpAnyH_take (i := 20) (v := .bool true) rfl (by kernel_rfl) (by kernel_rfl) (by kernel_rfl) (fun _ _ _ h => h) (Or.inl ⟨by kernel_rfl, fun W hW => ?y46⟩) hHeld ?r46
  · go_simp
  refine' wpAnyH_take (i := 21) (v := .bool true) rfl (by kernel_rfl) (by kernel_rfl) (by kernel_rfl) (fun _ _ _ h => h) (Or.inl ⟨by kernel_rfl, fun W hW => ?y47⟩) hHeld ?r47
  · go_simp
  refine wpAnyH_done (by kernel_rfl) ?_ _
  refine NoPanic.normal ?_
  go_simp
  go_wp2_with fail
  go_ret
  exact ⟨rfl, (After.same (Hh0.out.turn_no hHeld) hHeld.of_no).pre HT0.out⟩
theorem step10 (h : Tw base w tw d vq Q) (x : Opx) (hx : x.ok) (hb : Bs w x.va x.bs) (hl0 : Laid0 w) (hl1 : Laid1 w) (h2 : 2 ≤ base) (hm : ∀ k, k < 2 → (d k).E.length + (d k).R.length ≤ 1599289640401) (hQl : Q.length ≤ 4398046511104) : Calls Tryd.prog 10 #[.pointer (some ⟨tw, 0, none⟩), .agg (opC x).toArray] w fun e w' =>
    e = .returned (.bool true) ∧ After base w tw d Q w' := by
  by_cases h1 : x.kind = 1
  · exact step10_enter h x hx hb hl0 hl1 h2 hm hQl h1
  by_cases h22 : x.kind = 2
  · exact step10_sign h x hx hb hl0 hl1 h2 hm hQl h22
  by_cases h3 : x.kind = 3
  · exact step10_check h x hx hb hl0 hl1 h2 hm hQl h3
  by_cases h4 : x.kind = 4
  · exact step10_known h x hx hb hl0 hl1 h2 hm hQl h4
  by_cases h5 : x.kind = 5
  · exact step10_count h x hx hb hl0 hl1 h2 hm hQl h5
  by_cases h6 : x.kind = 6
  · exact step10_signed h x hx hb hl0 hl1 h2 hm hQl h6
  by_cases h7 : x.kind = 7
  · by_cases hE : (d x.k).E.length = 0
    · exact step10_addr0 h x hx hb hl0 hl1 h2 hm hQl h7 hE
    · exact step10_addr1 h x hx hb hl0 hl1 h2 hm hQl h7 (by omega)
  exact step10_else h x hx hb hl0 hl1 h2 hm hQl ⟨h1, h22, h3, h4, h5, h6, h7⟩
end
end Go.Proofs.YtnlcngcilojnkabDoor
