/- put of a first vote. -/
import Derived.Test.YtcjijofckjgikaaDoorT3
import Derived.Deep.RegionHeld3
namespace Go.Proofs.YtcjijofckjgikaaDoor
open Go.RowKit
open Go.ChangeMaps (setBlock)
set_option linter.unusedVariables false

theorem setBlock_turn {w : World} {b : Nat} (o : Obj) : Turn (fun k => k = b) w (setBlock w b o) :=
  ⟨rfl, rfl, rfl, by simp [setBlock], fun k _ hk => by simp [setBlock, Ne.symm hk]⟩
theorem setBlock_at {w : World} {b : Nat} (o : Obj) (h : b < w.heap.size) : (setBlock w b o).heap[b]? = some o := by
  simp [setBlock, h]
theorem obj_turn {S : Nat → Prop} {w w' : World} {b : Nat} {o : Obj} (h : w.heap[b]? = some o) (t : Turn S w w') (hn : ¬ S b) : w'.heap[b]? = some o := t.obj h hn
theorem size29z : (Tryd.prog.info? 29).map (·.size) = some Z29.size := by kernel_rfl
theorem one29 : Z29.all (·.oneCell') = true := by kernel_rfl
/-- What Add answers of a first vote. -/
def voC : List Value := [.int .i64 0, .int .u64 0, .int .i64 0] ++ (List.replicate 32 (.int .u8 0) ++ ([.int .u64 0, .int .u64 0] ++ List.replicate 16 (.int .u8 0)))
def A1 : Array Value := ([Value.bool true, Value.bool false, Value.bool false, Value.bool false] ++ (voC ++ voC)).toArray
theorem built42a : Tryd.prog.built 42 [(0, .bool true)] = some A1 := by kernel_rfl
theorem size42a : (Tryd.prog.info? 42).map (·.size) = some A1.size := by kernel_rfl
theorem one42a : A1.all (·.oneCell') = true := by kernel_rfl
theorem sizeZA : Tryd.zeroCells42.size = A1.size := by kernel_rfl

section
variable {P : Program} {ops : Array Oper} {rest : List Oper} {o : Oper} {a : Act} {w : World} {Q : Exit → Act → World → Prop}
theorem wpList_build1 (hg : o.guard = none) (t : TypeId) (i0 : Nat) (x0 : Operand) (ho : o.op = .build t #[(i0, x0)]) (v0 : Value) (h0 : a.eval x0 = v0) (cells : Array Value)
    (hf : P.built t [(i0, v0)] = some cells) (h : wpList P ops Q rest (a.put o.dst (.agg cells)) w) : wpList P ops Q (o :: rest) a w := by
  have e : (#[(i0, x0)].map fun (i, x) => (i, a.eval x)).toList = [(i0, v0)] := by simp [h0]
  exact wpList_build hg t _ ho (by rw [e, hf]; rfl) (by rw [e, hf]; exact h)
end
theorem yieldsIf_load_row {P : Program} {ops : Array Oper} {S : World → Prop} {op : Oper} {a : Act} (hw : Region.wanted op (yielded ops a.tmps) = true) (ty : TypeId) (x : Operand) (ho : op.op = .load ty x)
    (b : Nat) (hx : a.eval x = .pointer (some ⟨b, 0, none⟩)) (cs : Array Value) (d : TypeDesc) (hS : ∀ w, S w → w.rangeAt b 0 cs.toList)
    (hu : P.underlying ty = some d) (hd : d.isRow = true) (hi : (P.info? ty).map (·.size) = some cs.toList.length) : YieldsIf P ops S op (.agg cs) a := by
  have := yieldsIf_load_mid (P := P) hw ty x ho b 0 hx cs.toList d hS hu hd hi
  rwa [Array.toArray_toList] at this
set_option maxRecDepth 100000 in
set_option maxHeartbeats 4000000 in
theorem put24 (w : World) (p m g cap : Nat) (h : Tl w p m g cap) (hm : w.heap[m]? = some (.map #[] 0)) (V : Array Value) (hV : V.size = 53) (hV1 : V.all (·.oneCell') = true) :
    Calls Tryd.prog 24 #[.pointer (some ⟨p, 0, none⟩), k0, .agg V] w fun e w' => e = .returned (.agg A1) ∧ w'.heap[m]? = some (.map #[⟨k0, .agg V, 0⟩] 1) ∧ Turn (fun k => k = m) w w' := by
  have hi29 : (Tryd.prog.info? 29).map (·.size) = some V.toList.length := by rw [size29]; simp [hV]
  obtain ⟨w0, hw0⟩ : ∃ w0, ((w.alloc (.cells #[.int .i64 1, .int .i64 0, .int .i64 0] 74)).alloc (.cells V 29)).alloc (.cells Tryd.zeroCells42 42) = w0 := ⟨_, rfl⟩
  have T0 : Turn no w w0 := by rw [← hw0]; exact (((Turn.refl no w).alloc _).alloc _).alloc _
  have B0 : Row w0 w.heap.size #[.int .i64 1, .int .i64 0, .int .i64 0] 74 := by rw [← hw0]; exact ((Row.new w _ 74).alloc _).alloc _
  have B1 : Row w0 (w.heap.size + 1) V 29 := by rw [← hw0]; exact (Row.newAt _ _ _ _ (by simp)).alloc _
  have B2 : Row w0 (w.heap.size + 1 + 1) Tryd.zeroCells42 42 := by rw [← hw0]; exact Row.newAt _ _ _ _ (by simp)
  have m0 := obj_turn hm T0 (fun q => q)
  have c4 := fun W (t : Turn no w0 W) => ((h.turn T0 (fun q => q) (fun q => q)).turn t (fun q => q) (fun q => q)).c4
  have hl := fun W (t : Turn no w0 W) => look0 W m (obj_turn m0 t (fun q => q))
  unfold k0 at hl ⊢
  go_enter Tryd.func24, Tryd.ntmps24
  go_upto_region 1 with fail
  try rw [hw0]
  refine wp_region_noPanic ?_
  refine wp_region_held_drew (S := fun W => Turn no w0 W) (by kernel_rfl) ((Turn.refl no w0).drew) (fun hHeld => ?_)
  refine' wpAnyH_take (i := 0) (v := .pointer (some ⟨p, 0, none⟩)) rfl (by kernel_rfl) (by kernel_rfl) (by kernel_rfl) (fun _ _ _ h => h) (Or.inl ⟨by kernel_rfl, fun W hW => ?y1⟩) hHeld ?r1
  · go_simp
  refine' wpAnyH_take (i := 1) (v := .pointer (some ⟨p, 0, none⟩)) rfl (by kernel_rfl) (by kernel_rfl) (by kernel_rfl) (fun _ _ _ h => h) (Or.inl ⟨by kernel_rfl, fun W hW => ?y2⟩) hHeld ?r2
  · go_simp
  refine' wpAnyH_take (i := 2) (v := .pointer (some ⟨p, 4, none⟩)) rfl (by kernel_rfl) (by kernel_rfl) (by kernel_rfl) (fun _ _ _ h => h) (Or.inl ⟨by kernel_rfl, fun W hW => ?y3⟩) hHeld ?r3
  · go_simp
  refine' wpAnyH_take (i := 3) (v := .map (some m)) rfl (by kernel_rfl) (by kernel_rfl) (by kernel_rfl) (fun _ _ _ h => h) (Or.inl ⟨by kernel_rfl, fun W hW => ?y4⟩) hHeld ?r4
  · have c := c4 W hW
    go_simp
  refine' wpAnyH_take (i := 4) (v := .agg #[.int .i64 1, .int .i64 0, .int .i64 0]) rfl (by kernel_rfl) (by kernel_rfl) (by kernel_rfl) (fun _ _ _ h => h) (Or.inl ⟨by kernel_rfl, fun W hW => ?y5⟩) hHeld ?r5
  · have d0 : W.cell? ⟨w.heap.size, 0, none⟩ = some (.int .i64 1) := (B0.turn hW (fun q => q)).cell 0 _ rfl
    have d1 : W.cell? ⟨w.heap.size, 1, none⟩ = some (.int .i64 0) := (B0.turn hW (fun q => q)).cell 1 _ rfl
    have d2 : W.cell? ⟨w.heap.size, 2, none⟩ = some (.int .i64 0) := (B0.turn hW (fun q => q)).cell 2 _ rfl
    go_simp
  refine' wpAnyH_take (i := 5) (v := .tuple #[.agg Z29, .bool false]) rfl (by kernel_rfl) (by kernel_rfl) (by kernel_rfl) (fun _ _ _ h => h) (Or.inl ⟨by kernel_rfl, fun W hW => ?y6⟩) hHeld ?r6
  · have c := hl W hW
    go_simp
  refine' wpAnyH_take (i := 6) (v := .tuple #[.agg Z29, .bool false]) rfl (by kernel_rfl) (by kernel_rfl) (by kernel_rfl) (fun _ _ _ h => h) (Or.inl ⟨by kernel_rfl, fun W hW => ?y7⟩) hHeld ?r7
  · go_simp
  refine' wpAnyH_take (i := 7) (v := .agg Z29) rfl (by kernel_rfl) (by kernel_rfl) (by kernel_rfl) (fun _ _ _ h => h) (Or.inl ⟨by kernel_rfl, fun W hW => ?y8⟩) hHeld ?r8
  · go_simp
  refine' wpAnyH_take (i := 8) (v := .bool false) rfl (by kernel_rfl) (by kernel_rfl) (by kernel_rfl) (fun _ _ _ h => h) (Or.inl ⟨by kernel_rfl, fun W hW => ?y9⟩) hHeld ?r9
  · go_simp
  refine wpAnyH_ready (rs := [9]) (by kernel_rfl) (by simp) ?_
  refine AllReadyH.cons rfl (fun K hK => ?_) AllReadyH.nil
  go_simp
  obtain ⟨w1, hw1⟩ : ∃ w1, (w0.alloc (.cells #[.int .i64 0, .int .u64 0, .int .i64 0, .int .u8 0, .int .u8 0, .int .u8 0, .int .u8 0, .int .u8 0, .int .u8 0, .int .u8 0, .int .u8 0, .int .u8 0, .int .u8 0, .int .u8 0, .int .u8 0, .int .u8 0, .int .u8 0, .int .u8 0, .int .u8 0, .int .u8 0, .int .u8 0, .int .u8 0, .int .u8 0, .int .u8 0, .int .u8 0, .int .u8 0, .int .u8 0, .int .u8 0, .int .u8 0, .int .u8 0, .int .u8 0, .int .u8 0, .int .u8 0, .int .u8 0, .int .u8 0, .int .u64 0, .int .u64 0, .int .u8 0, .int .u8 0, .int .u8 0, .int .u8 0, .int .u8 0, .int .u8 0, .int .u8 0, .int .u8 0, .int .u8 0, .int .u8 0, .int .u8 0, .int .u8 0, .int .u8 0, .int .u8 0, .int .u8 0, .int .u8 0] 29)).drew = w1 := ⟨_, rfl⟩
  have T1 : Turn no w0 w1 := by rw [← hw1]; exact ((Turn.refl no w0).alloc _).drew
  have C1 : Row w1 w0.heap.size Z29 29 := by rw [← hw1]; exact Row.new w0 _ 29
  rw [hw1]
  clear hw1
  refine hK.out _ _ T1 (fun hHeld => ?_)
  clear hK
  refine wpAnyH_ready (rs := [10]) (by kernel_rfl) (by simp) ?_
  refine AllReadyH.cons rfl (fun K hK => ?_) AllReadyH.nil
  rw [if_pos (by kernel_rfl)]
  refine wp_store_row 29 _ _ rfl w0.heap.size Z29 rfl rfl 29 Z29 C1 size29z rfl one29 ?_
  refine hK.out _ _ (T1.setRow _ _ (fun q => absurd q (Nat.lt_irrefl _))) (fun hHeld => ?_)
  clear hK
  have T2 : Turn no w0 (w1.setRow w0.heap.size Z29) := T1.setRow _ _ (fun q => absurd q (Nat.lt_irrefl _))
  generalize w1.setRow w0.heap.size Z29 = w2 at *
  refine' wpAnyH_take (i := 11) (v := .bool false) rfl (by kernel_rfl) (by kernel_rfl) (by kernel_rfl) (fun _ _ _ h => h) (Or.inl ⟨by kernel_rfl, fun W hW => ?y10⟩) hHeld ?r10
  · go_simp
  refine wpAnyH_done (by kernel_rfl) ?_ _
  refine NoPanic.normal ?_
  have T02 : Turn no w w2 := T0.then_no T2
  have m2 := obj_turn hm T02 (fun q => q)
  have B0' := B0.turn T2 (fun q => q)
  have B1' := B1.turn T2 (fun q => q)
  have B2' := B2.turn T2 (fun q => q)
  have c4' := fun W (t : Turn no w2 W) => ((h.turn T02 (fun q => q) (fun q => q)).turn t (fun q => q) (fun q => q)).c4
  clear C1 T1 T2 hl c4 B0 B1 B2
  go_wp2_with fail
  have u0 := upd0 w2.drew m (.agg V) m2
  have T3 : Turn (fun k => k = m) w2 (setBlock w2.drew m (.map #[⟨k0, .agg V, 0⟩] 1)) := (Turn.refl no w2).drew.of_no.trans (setBlock_turn _) (fun _ _ q => q)
  have M3 : (setBlock w2.drew m (.map #[⟨k0, .agg V, 0⟩] 1)).heap[m]? = some (.map #[⟨k0, .agg V, 0⟩] 1) := setBlock_at _ (lt_of_obj m2)
  generalize setBlock w2.drew m (.map #[⟨k0, .agg V, 0⟩] 1) = w3 at *
  unfold k0 at u0
  have hmB : m < w.heap.size := lt_of_obj hm
  have B2'' := B2'.turn T3 (fun q => by have q : w.heap.size + 1 + 1 = m := q; omega)
  have hpm : p ≠ m := by
    rintro rfl
    have := h.row
    unfold Row at this
    rw [hm] at this
    simp at this
  have HC3 : w3.cell? ⟨p, 4, none⟩ = some (.map (some m)) := T3.keep (c4' _ (Turn.refl _ w2)) (fun q => hpm q)
  have HR3 : w3.rangeAt (w.heap.size + 1) 0 V.toList := (B1'.turn T3 (fun q => by have q : w.heap.size + 1 = m := q; omega)).range
  refine wp_region_noPanic ?_
  refine wp_region_held_drew (S := fun W => Turn (fun k => k = m) w2 W ∧ W.cell? ⟨p, 4, none⟩ = some (.map (some m)) ∧ W.rangeAt (w.heap.size + 1) 0 V.toList) (by kernel_rfl) ⟨(Turn.refl _ w2).drew, c4' _ (Turn.refl _ w2).drew, (B1'.drew).range⟩ (fun hHeld => ?_)
  refine' wpAnyH_take (i := 0) (v := .pointer (some ⟨p, 0, none⟩)) rfl (by kernel_rfl) (by kernel_rfl) (by kernel_rfl) (fun _ _ _ h => h) (Or.inl ⟨by kernel_rfl, fun W hW => ?y11⟩) hHeld ?r11
  · go_simp
  refine' wpAnyH_take (i := 1) (v := .pointer (some ⟨p, 0, none⟩)) rfl (by kernel_rfl) (by kernel_rfl) (by kernel_rfl) (fun _ _ _ h => h) (Or.inl ⟨by kernel_rfl, fun W hW => ?y12⟩) hHeld ?r12
  · go_simp
  refine' wpAnyH_take (i := 2) (v := .pointer (some ⟨p, 4, none⟩)) rfl (by kernel_rfl) (by kernel_rfl) (by kernel_rfl) (fun _ _ _ h => h) (Or.inl ⟨by kernel_rfl, fun W hW => ?y13⟩) hHeld ?r13
  · go_simp
  refine' wpAnyH_take (i := 3) (v := .map (some m)) rfl (by kernel_rfl) (by kernel_rfl) (by kernel_rfl) (fun _ _ _ h => h) (Or.inl ⟨by kernel_rfl, fun W hW => ?y14⟩) hHeld ?r14
  · have c := hW.2.1
    go_simp
  refine' wpAnyH_take (i := 4) (v := .agg #[.int .i64 1, .int .i64 0, .int .i64 0]) rfl (by kernel_rfl) (by kernel_rfl) (by kernel_rfl) (fun _ _ _ h => h) (Or.inl ⟨by kernel_rfl, fun W hW => ?y15⟩) hHeld ?r15
  · have d0 : W.cell? ⟨w.heap.size, 0, none⟩ = some (.int .i64 1) := (B0'.turn hW.1 (fun q => by have q : w.heap.size = m := q; omega)).cell 0 _ rfl
    have d1 : W.cell? ⟨w.heap.size, 1, none⟩ = some (.int .i64 0) := (B0'.turn hW.1 (fun q => by have q : w.heap.size = m := q; omega)).cell 1 _ rfl
    have d2 : W.cell? ⟨w.heap.size, 2, none⟩ = some (.int .i64 0) := (B0'.turn hW.1 (fun q => by have q : w.heap.size = m := q; omega)).cell 2 _ rfl
    go_simp
  refine' wpAnyH_take (i := 5) (v := .agg V) rfl (by kernel_rfl) (by kernel_rfl) (by kernel_rfl) (fun _ _ _ h => h) (yieldsIf_load_row (by kernel_rfl) 29 (.tmp 5) rfl (w.heap.size + 1) (by kernel_rfl) V _ (fun W h => h.2.2) Tryd.underlying29 rfl hi29) hHeld ?s0
  refine wpAnyH_ready (rs := [6]) (by kernel_rfl) (by simp) ?_
  refine AllReadyH.cons rfl (fun K hK => ?_) AllReadyH.nil
  go_simp
  refine hK.out _ _ ⟨T3, HC3, HR3⟩ (fun hHeld => ?_)
  clear hK
  refine wpAnyH_done (by kernel_rfl) ?_ _
  refine NoPanic.normal ?_
  have b42 := built42a
  have s42 := size42a
  have o42 := one42a
  have z42 := sizeZA
  generalize hA : A1 = A at *
  have HA := shut hA
  clear hA
  generalize Tryd.zeroCells42 = Z at *
  go_wp2_with (first | (refine wpList_build1 rfl 42 0 (.const (.bool true)) rfl _ rfl A b42 ?_) | (refine wpList_store_anyN rfl rfl 42 (.tmp 6) (.tmp 27) rfl (w.heap.size + 1 + 1) A rfl rfl 42 Z B2'' s42 z42 o42 ?_; intro w4 R4 T4))
  have T34 : Turn (fun k => k = m) w w4 := ((T02.of_no (S := fun k => k = m)).trans T3 (fun _ _ q => q)).trans T4 (fun k hk q => by have q : k = w.heap.size + 1 + 1 := q; omega)
  refine bodyPost_ret (v := .agg A) ?_ rfl ⟨by rw [HA.out], ?_, T34⟩
  · exact results_cell_row (P := Tryd.prog) Tryd.results24 _ _ (w.heap.size + 1 + 1) 42 A (0, 0) _ rfl R4 Tryd.underlying42 rfl s42
  · exact obj_turn M3 T4 (fun q => by have q : m = w.heap.size + 1 + 1 := q; omega)
end Go.Proofs.YtcjijofckjgikaaDoor
