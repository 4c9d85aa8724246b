/- alive. -/
import Derived.Test.YtcjijofckjgikaaDoorT5
import Derived.Test.YtcjijofckjgikaaDoorT8
namespace Go.Proofs.YtcjijofckjgikaaDoor
open Go.RowKit
set_option linter.unusedVariables false

/-- The first vote. -/
def v1 : Vt := ⟨1, 1, 0, 1 :: List.replicate 31 0, 0, 1, List.replicate 16 0⟩
theorem v1_ok : v1.ok := ⟨rfl, rfl⟩
theorem built24_1 : Tryd.prog.built 24 [(0, .int .u8 1)] = some (v1.id.map bv).toArray := by kernel_rfl
theorem built29_1 : Tryd.prog.built 29 [(0, .int .i64 1), (1, .int .u64 1), (3, .agg (v1.id.map bv).toArray), (5, .int .u64 1)] = some v1.cs.toArray := by kernel_rfl
theorem eql42 (w : World) : (binOp .eql 42 (.agg A1) (.agg A1)).run Tryd.prog w = .ok (.bool true) w := by kernel_rfl
theorem one29_1 : v1.cs.toArray.all (·.oneCell') = true := by kernel_rfl
theorem ms1 (w : World) : Ms (w.alloc (.cells #[.int .u64 1, .int .u64 5, .int .i64 0] 70)) (.slice (some ⟨w.heap.size, 0, none⟩) 1 1) [mb1] := by
  refine ⟨_, _, rfl, by decide, by decide, ?_, fun j m hm => ?_⟩
  · intro m hm
    simp at hm
    subst hm
    unfold Mb.ok mb1
    decide
  · have R := Row.new w #[.int .u64 1, .int .u64 5, .int .i64 0] 70
    obtain rfl : j = 0 := by have := (List.getElem?_eq_some_iff.1 hm).1; simpa using this
    obtain rfl : mb1 = m := by simpa using hm
    exact ⟨_, _, rfl, R.cell 0 _ rfl, R.cell 1 _ rfl, R.cell 2 _ rfl⟩
section
variable {P : Program} {ops : Array Oper} {rest : List Oper} {o : Oper} {a : Act} {w : World} {Q : Exit → Act → World → Prop}
theorem wpList_build4 (hg : o.guard = none) (t : TypeId) (i0 i1 i2 i3 : Nat) (x0 x1 x2 x3 : Operand) (ho : o.op = .build t #[(i0, x0), (i1, x1), (i2, x2), (i3, x3)]) (v0 v1 v2 v3 : Value) (h0 : a.eval x0 = v0) (h1 : a.eval x1 = v1) (h2 : a.eval x2 = v2) (h3 : a.eval x3 = v3) (cells : Array Value)
    (hf : P.built t [(i0, v0), (i1, v1), (i2, v2), (i3, v3)] = some cells) (h : wpList P ops Q rest (a.put o.dst (.agg cells)) w) : wpList P ops Q (o :: rest) a w := by
  have e : (#[(i0, x0), (i1, x1), (i2, x2), (i3, x3)].map fun (i, x) => (i, a.eval x)).toList = [(i0, v0), (i1, v1), (i2, v2), (i3, v3)] := by simp [h0, h1, h2, h3]
  exact wpList_build hg t _ ho (by rw [e, hf]; rfl) (by rw [e, hf]; exact h)
theorem wpList_build1G (hg : Region.wanted o (yielded ops a.tmps) = true) (t : TypeId) (i0 : Nat) (x0 : Operand) (ho : o.op = .build t #[(i0, x0)]) (v0 : Value) (h0 : a.eval x0 = v0) (cells : Array Value)
    (hf : P.built t [(i0, v0)] = some cells) (h : wpList P ops Q rest (a.put o.dst (.agg cells)) w) : wpList P ops Q (o :: rest) a w := by
  have e : (#[(i0, x0)].map fun (i, x) => (i, a.eval x)).toList = [(i0, v0)] := by simp [h0]
  refine wpList_want hg fun K hK => ?_
  refine wp_build t _ ho (by rw [e, hf]; rfl) ?_
  rw [e, hf]
  exact hK _ _ h
end
set_option maxRecDepth 100000 in
set_option maxHeartbeats 4000000 in
theorem alive4_any (w : World) (hl : LaidK w) (v : Vt) (hv : v.ok) (v0 : v.cs.toArray[(0 : Nat)]? = some (.int .i64 1)) (v1 : v.cs.toArray[(1 : Nat)]? = some (.int .u64 1)) (v2 : v.cs.toArray[(2 : Nat)]? = some (.int .i64 0)) (v36 : v.cs.toArray[(36 : Nat)]? = some (.int .u64 1))
    (b24 : Tryd.prog.built 24 [(0, .int .u8 1)] = some (v.id.map bv).toArray) (b29 : Tryd.prog.built 29 [(0, .int .i64 1), (1, .int .u64 1), (3, .agg (v.id.map bv).toArray), (5, .int .u64 1)] = some v.cs.toArray) (o29 : v.cs.toArray.all (·.oneCell') = true)
    (A : Array Value) (hA : A1 = A) (e42 : ∀ W, (binOp .eql 42 (.agg A) (.agg A)).run Tryd.prog W = .ok (.bool true) W) (b42 : Tryd.prog.built 42 [(0, .bool true)] = some A) (s42 : (Tryd.prog.info? 42).map (·.size) = some A.size) (o42 : A.all (·.oneCell') = true) (z42 : Tryd.zeroCells42.size = A.size) :
    Calls Tryd.prog 4 #[] w fun e w' => e = .returned (.bool true) ∧ Turn no w w' := by
  have cn := new17 _ _ (ms1 w)
  have s29 : (Tryd.prog.info? 29).map (·.size) = some v.cs.toArray.size := by rw [size29, Vt.size hv]
  have z29 : Z29.size = v.cs.toArray.size := by rw [Vt.size hv]; rfl
  have ca := fun W p m g cap (h : Tl W p m g cap) (hm : W.heap[m]? = some (.map #[] 0)) (hl : LaidK W) => add5 W p m g cap h hm hl v.cs.toArray (Vt.size hv) o29 v0 v1 v2 v36
  rw [hA] at ca
  have cp := fun W p m g cap (h : Tl W p m g cap) hm => power13 W p m g cap v hv h hm
  have cid := fun W g (r : Row W g v.cs.toArray 29) => (r.vt hv).cid
  have s24 : (Tryd.prog.info? 24).map (·.size) = some (v.id.map bv).length := by rw [size24]; simp [hv.1]
  generalize v.cs.toArray = V at *
  generalize v.id.map bv = I at *
  obtain ⟨Z, hZ⟩ : ∃ Z, Tryd.zeroCells42 = Z := ⟨_, rfl⟩
  rw [hZ] at z42
  have HL := shut hl
  clear hl v0 v1 v2 v36 hA hv
  go_enter Tryd.func4, Tryd.ntmps4
  go_upto_region 4 with (first | (go_at_call 17; refine cn.mono ?_; rintro e w1 ⟨p, m, g, cap, rfl, h1, m1, hp, hm, hg, hmg, t1⟩) | (go_at_call 10; refine (num10 _ _).mono ?_; rintro e w2 ⟨rfl, e2⟩; subst e2))
  have HT1 := shut (((Turn.refl no w).alloc _).then_no t1)
  clear t1 cn
  go_upto_region 5 with (first | (refine wpList_build1 rfl 24 0 (.const (.int .u8 1)) rfl _ rfl I.toArray b24 ?_) | (refine wpList_build4 rfl 29 0 1 3 5 (.const (.int .i64 1)) (.const (.int .u64 1)) (.tmp 20) (.const (.int .u64 1)) rfl _ _ _ _ rfl rfl rfl rfl V b29 ?_) | (refine wpList_store_anyN rfl rfl 29 (.tmp 3) (.tmp 21) rfl w2.heap.size V rfl rfl 29 Z29 (Row.new w2 _ 29) s29 z29 o29 ?_; intro w3 R3 T3))
  have t23 : Turn no w2 w3 := ((Turn.refl no w2).alloc _).trans T3 (fun k hk q => by have q : k = w2.heap.size := q; omega)
  have h3 := h1.turn t23 (fun q => q) (fun q => q)
  have m3 := obj_turn m1 t23 (fun q => q)
  have HT3 := shut (HT1.out.then_no t23)
  have ca3 := ca w3 p m g cap h3 m3 (HL.out.turn HT3.out)
  have Hh3 := shut h3
  have hm2 := lt_of_obj m1
  have hmw : w.heap.size ≤ m := Nat.le_trans ((Turn.refl no w).alloc (.cells #[.int .u64 1, .int .u64 5, .int .i64 0] 70)).size hm
  have hgm : g ≠ m := fun q => hmg q.symm
  have hpm : p ≠ m := by
    rintro rfl
    have := h3.row
    unfold Row at this
    rw [m3] at this
    simp at this
  clear t23 T3 h3 h1 m1 m3 HT1 ca hm hg hp hmg HL
  have hA42 : Tryd.zeroCells42 = Z := hZ
  go_upto_region 6 with (first | (refine wpList_load_row rfl 29 (.tmp 3) rfl w2.heap.size rfl 29 V _ _ R3 Tryd.underlying29 rfl s29 ?_) | (go_at_call 5; refine ca3.mono ?_; rintro e w4 ⟨rfl, m4, t4⟩) | (refine wpList_store_anyN rfl rfl 42 (.tmp 4) (.tmp 26) rfl w4.heap.size A rfl rfl 42 Z (Row.new w4 _ 42) s42 z42 o42 ?_; intro w5 R5 T5))
  have t45 : Turn no w4 w5 := ((Turn.refl no w4).alloc _).trans T5 (fun k hk q => by have q : k = w4.heap.size := q; omega)
  have t35 : Turn (fun k => k = m) w3 w5 := t4.trans t45.of_no (fun _ _ q => q)
  have h5 := Hh3.out.turn t35 hpm hgm
  have m5 := obj_turn m4 t45 (fun q => q)
  have R3' := R3.turn t35 (fun q => by have q : w2.heap.size = m := q; omega)
  have T05 : Turn no w w5 := HT3.out.trans t35 (fun k hk q => by have q : k = m := q; omega)
  have cid5 := cid _ _ R3'
  have cp5 := cp w5 p m g cap h5 m5
  have HT5 := shut T05
  clear t45 t35 T05 R3 R3' HT3 Hh3 h5 m5 m4 t4 T5 cp cid ca3 hgm hpm hmw
  go_wp2_with (first | (go_at_call 10; refine (num10 _ _).mono ?_; rintro e w6 ⟨rfl, e6⟩; subst e6) | (refine wpList_load_rowG (by rfl) 42 (.tmp 4) rfl w4.heap.size rfl A 42 _ R5 Tryd.underlying42 rfl s42 ?_) | (refine wpList_build1G (by rfl) 42 0 (.const (.bool true)) rfl _ rfl A b42 ?_) | (refine wpList_load_midG (by rfl) 24 (.tmp 38) rfl w2.heap.size 3 rfl I _ cid5 Tryd.underlying24 rfl s24 ?_) | (go_at_call 13; refine cp5.mono ?_; rintro e w7 ⟨rfl, t7⟩))
  go_ret
  exact ⟨rfl, HT5.out.then_no t7⟩
theorem alive4 (w : World) (hl : LaidK w) : Calls Tryd.prog 4 #[] w fun e w' => e = .returned (.bool true) ∧ Turn no w w' :=
  alive4_any w hl v1 v1_ok v1.c0 v1.c1 v1.c2 (Vt.c36 v1_ok) built24_1 built29_1 one29_1 A1 rfl eql42 built42a size42a one42a sizeZA
end Go.Proofs.YtcjijofckjgikaaDoor
