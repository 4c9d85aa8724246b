/- Lists of items; Root of both; Clash. -/
import Derived.Test.YtgjhhmdpepdepaaDoorJ4
import Derived.Deep.MidRow
import Derived.Laws.Strings
namespace Go.Proofs.YtgjhhmdpepdepaaDoor
open Go.RowKit
set_option linter.unusedVariables false

section
variable {P : Program} {ops : Array Oper} {rest : List Oper} {op : Oper} {a : Act} {w : World} {Q : Exit → Act → World → Prop}
/-- A load of many cells whose guard is on. -/
theorem wpList_load_midG (hgd : Region.wanted op (yielded ops a.tmps) = true) (ty : TypeId) (x : Operand) (ho : op.op = .load ty x)
    (b o : Nat) (hx : a.eval x = .pointer (some ⟨b, o, none⟩)) (cs : List Value) (d : TypeDesc) (hc : w.rangeAt b o cs)
    (hu : P.underlying ty = some d) (hd : d.isRow = true) (hi : (P.info? ty).map (·.size) = some cs.length)
    (h : wpList P ops Q rest (a.put op.dst (.agg cs.toArray)) w) : wpList P ops Q (op :: rest) a w :=
  wpList_want hgd fun _ hK => wp_load_mid ty x ho b o hx cs d hc hu hd hi (hK _ _ h)
end
abbrev Its := List (Value × List UInt8)
def txs (l : Its) : List (List UInt8) := l.map (·.2)
theorem txs_len (l : Its) : (txs l).length = l.length := by simp [txs]
/-- A list of items, wherever it lies. -/
structure BlAt (w : World) (a : Option Addr) (cap : Nat) (l : Its) : Prop where
  le : l.length ≤ cap
  cap : cap ≤ maxLen
  lt : l.length < 4611686018427387904
  pcs : l = [] ∨ ∃ b o, a = some ⟨b, o, none⟩ ∧ Pcs w b o l
theorem BlAt.turn_no {w w' : World} {a : Option Addr} {cap : Nat} {l : Its} (h : BlAt w a cap l) (t : Turn no w w') : BlAt w' a cap l :=
  ⟨h.le, h.cap, h.lt, h.pcs.elim .inl (fun ⟨b, o, e, p⟩ => .inr ⟨b, o, e, p.turn_no t⟩)⟩
def okL (l : Its) : Prop := l.length ≤ 65536 ∧ ∀ x ∈ l, x.2.length ≤ 1048576
theorem big_of (l : Its) : bigOf (txs l) = false ↔ okL l := by
  unfold bigOf okL txs
  simp [Bool.or_eq_false_iff]
section
variable {w : World} {a : Option Addr} {cap : Nat} {l : Its}
theorem big_all (h : BlAt w a cap l) : Calls Tryd.prog 23 #[.slice a l.length cap] w fun e w' => e = .returned (.bool (bigOf (txs l))) ∧ w' = w := by
  rcases h.pcs with rfl | ⟨b, o, rfl, p⟩
  · exact tooBig_none w a cap
  · exact tooBig_any w l l.length b o cap rfl p h.le h.lt
theorem rbig_all (h : BlAt w a cap l) : Calls Tryd.prog 27 #[.slice a l.length cap] w fun e w' => e = .returned (.bool (bigOf (txs l))) ∧ w' = w := by
  rcases h.pcs with rfl | ⟨b, o, rfl, p⟩
  · exact large_none w a cap
  · exact large_any w l l.length b o cap rfl p h.le h.lt
theorem top_all (h : BlAt w a cap l) (ho : okL l) (hl : Laid1 w) (h2 : 2 ≤ w.heap.size) : Calls Tryd.prog 25 #[.slice a l.length cap] w fun e w' => e = .returned (.agg (hb32 (topH (txs l)))) ∧ Turn no w w' := by
  by_cases h0 : l = []
  · subst h0
    rw [topH_none (txs []) rfl]
    exact top_none w a cap hl h2
  · rcases h.pcs with q | ⟨b, o, rfl, p⟩
    · exact absurd q h0
    · exact top_any l.length l b o cap w rfl p h.le (List.length_pos_iff.2 h0) ho.1 ho.2 hl h2
theorem rtop_all (h : BlAt w a cap l) (ho : okL l) (hl : Laid0 w) (h2 : 2 ≤ w.heap.size) : Calls Tryd.prog 28 #[.slice a l.length cap] w fun e w' => e = .returned (.agg (hb32 (topH (txs l)))) ∧ Turn no w w' := by
  by_cases h0 : l = []
  · subst h0
    rw [topH_none (txs []) rfl]
    exact rtop_none w a cap hl h2
  · rcases h.pcs with q | ⟨b, o, rfl, p⟩
    · exact absurd q h0
    · exact rtop_any l.length l b o cap w rfl p h.le (List.length_pos_iff.2 h0) ho.1 ho.2 hl h2
end
/-- What Root answers. -/
def rootE (l : Its) : Int := if bigOf (txs l) = true then 4 else 0
def rootT (l : Its) : List UInt8 := 2 :: (numE l.length ++ topH (txs l))
def rootH (l : Its) : List UInt8 := if bigOf (txs l) = true then z32 else hashOf (rootT l)
theorem rootH_len (l : Its) : (rootH l).length = 32 := by
  unfold rootH
  split
  · rfl
  · exact hashOf_len _
set_option maxRecDepth 100000 in
set_option maxHeartbeats 4000000 in
theorem root7 (w : World) (a : Option Addr) (cap : Nat) (l : Its) (h : BlAt w a cap l) (hl : Laid1 w) (h2 : 2 ≤ w.heap.size) : Calls Tryd.prog 12 #[.slice a l.length cap] w fun e w' => e = .returned (.tuple #[.agg (hb32 (rootH l)), .int .i64 (rootE l)]) ∧ Turn no w w' := by
  have hZ := hb32_size z32_len
  have oZ := hb32_one z32
  have iZ := hb32_info z32_len
  have hzv := zero35v
  have hbd := shut bld35
  obtain ⟨w0, hw0⟩ : ∃ w0, w.alloc (.cells (hb32 z32) 27) = w0 := ⟨_, rfl⟩
  have T0 : Turn no w w0 := by rw [← hw0]; exact (Turn.refl no w).alloc _
  have RZ : Row w0 w.heap.size (hb32 z32) 27 := by rw [← hw0]; exact Row.new w _ 27
  have hb := big_all (h.turn_no T0)
  cases hbg : bigOf (txs l) with
  | true =>
    have e1 : rootE l = 4 := if_pos hbg
    have e2 : rootH l = z32 := if_pos hbg
    rw [e1, e2]
    rw [hbg] at hb
    generalize hb32 z32 = Z at *
    generalize l.length = n at *
    clear e1 e2 hbg h
    go_enter Tryd.func12, Tryd.ntmps12
    go_upto_region 1 with fail
    try rw [hw0]
    clear hw0 hzv
    go_wp2_with (first | (go_at_call 23; refine hb.mono ?_; clear hb; rintro e w1 ⟨rfl, hw1⟩; subst hw1) | (guard_target =~ wpList _ _ _ ({ dst := _, op := Op.build 27 _, .. } :: _) _ _; refine wpList_buildG (by kernel_rfl) 27 rfl _ (hbd.out _) ?_) | (guard_target =~ wpList _ _ _ ({ dst := _, op := Op.store 27 _ _, .. } :: _) _ _; refine wpList_store_row rfl 27 (.tmp 2) (.tmp 6) rfl w.heap.size Z rfl rfl 27 Z RZ iZ rfl oZ ?_))
    refine bodyPost_ret (v := .tuple #[.agg Z, .int .i64 4]) ?_ rfl ⟨rfl, T0.setRow _ _ (fun q => by omega)⟩
    exact results_cell_row_tmp (P := Tryd.prog) Tryd.results12 _ _ w.heap.size 27 Z (0, 0) _ rfl (setRow_heap _ _ _ _ _ _ RZ) Tryd.underlying27 rfl iZ
  | false =>
    have ho := (big_of l).1 hbg
    have e1 : rootE l = 0 := if_neg (by rw [hbg]; decide)
    have e2 : rootH l = hashOf (rootT l) := if_neg (by rw [hbg]; decide)
    rw [e1, e2]
    rw [hbg] at hb
    have lt := topH_len (txs l)
    have ht := top_all (h.turn_no T0) ho (hl.turn T0 (fun q => q)) (by have := T0.size; omega)
    have hr := fun W (T : Turn no w W) => rootOf_any W l.length ho.1 (topH (txs l)) lt (hl.turn T (fun q => q)) (by have := T.size; omega)
    rw [show hb32 (hashOf (rootT l)) = hv (rootT l) from rfl]
    have hs := hv_size (rootT l)
    have o1 := hv_one (rootT l)
    have hi := hv_info (rootT l)
    have HR : Shut (∀ W, Turn no w W → Calls Tryd.prog 24 #[.int .i64 l.length, .agg (hb32 (topH (txs l)))] W fun e w' => e = .returned (.agg (hv (rootT l))) ∧ Turn no W w') := hr
    clear hr
    generalize hv (rootT l) = H at *
    generalize hb32 (topH (txs l)) = TP at *
    generalize hb32 z32 = Z at *
    generalize l.length = n at *
    clear e1 e2 hbg h lt ho
    go_enter Tryd.func12, Tryd.ntmps12
    go_upto_region 1 with fail
    try rw [hw0]
    clear hw0 hzv
    go_wp2_with (first | (go_at_call 23; refine hb.mono ?_; clear hb; rintro e w1 ⟨rfl, hw1⟩; subst hw1) | (go_at_call 25; refine ht.mono ?_; clear ht; rintro e w2 ⟨rfl, t2⟩; have T2 := T0.then_no t2; have hr := HR.out w2 T2) | (go_at_call 24; refine hr.mono ?_; clear hr; rintro e w3 ⟨rfl, t3⟩; have T3 := T2.then_no t3; have RZ3 := Row.turn (Row.turn RZ t2 (fun q => q)) t3 (fun q => q)) | (guard_target =~ wpList _ _ _ ({ dst := _, op := Op.store 27 _ _, .. } :: _) _ _; refine wpList_store_row rfl 27 (.tmp 2) (.tmp 11) rfl w.heap.size H rfl rfl 27 Z RZ3 hi (by rw [hZ, hs]) o1 ?_))
    refine bodyPost_ret (v := .tuple #[.agg H, .int .i64 0]) ?_ rfl ⟨rfl, T3.setRow _ _ (fun q => by omega)⟩
    exact results_cell_row_tmp (P := Tryd.prog) Tryd.results12 _ _ w.heap.size 27 H (0, 0) _ rfl (setRow_heap _ _ _ _ _ _ RZ3) Tryd.underlying27 rfl hi
set_option maxRecDepth 100000 in
set_option maxHeartbeats 4000000 in
theorem root8 (w : World) (a : Option Addr) (cap : Nat) (l : Its) (h : BlAt w a cap l) (hl : Laid0 w) (h2 : 2 ≤ w.heap.size) : Calls Tryd.prog 14 #[.slice a l.length cap] w fun e w' => e = .returned (.tuple #[.agg (hb32 (rootH l)), .int .i64 (rootE l)]) ∧ Turn no w w' := by
  have hZ := hb32_size z32_len
  have oZ := hb32_one z32
  have iZ := hb32_info z32_len
  have hzv := zero35v
  have hbd := shut bld35
  obtain ⟨w0, hw0⟩ : ∃ w0, w.alloc (.cells (hb32 z32) 27) = w0 := ⟨_, rfl⟩
  have T0 : Turn no w w0 := by rw [← hw0]; exact (Turn.refl no w).alloc _
  have RZ : Row w0 w.heap.size (hb32 z32) 27 := by rw [← hw0]; exact Row.new w _ 27
  have hb := rbig_all (h.turn_no T0)
  cases hbg : bigOf (txs l) with
  | true =>
    have e1 : rootE l = 4 := if_pos hbg
    have e2 : rootH l = z32 := if_pos hbg
    rw [e1, e2]
    rw [hbg] at hb
    generalize hb32 z32 = Z at *
    generalize l.length = n at *
    clear e1 e2 hbg h
    go_enter Tryd.func14, Tryd.ntmps14
    go_upto_region 1 with fail
    try rw [hw0]
    clear hw0 hzv
    go_wp2_with (first | (go_at_call 27; refine hb.mono ?_; clear hb; rintro e w1 ⟨rfl, hw1⟩; subst hw1) | (guard_target =~ wpList _ _ _ ({ dst := _, op := Op.build 27 _, .. } :: _) _ _; refine wpList_buildG (by kernel_rfl) 27 rfl _ (hbd.out _) ?_) | (guard_target =~ wpList _ _ _ ({ dst := _, op := Op.store 27 _ _, .. } :: _) _ _; refine wpList_store_row rfl 27 (.tmp 2) (.tmp 8) rfl w.heap.size Z rfl rfl 27 Z RZ iZ rfl oZ ?_))
    refine bodyPost_ret (v := .tuple #[.agg Z, .int .i64 4]) ?_ rfl ⟨rfl, T0.setRow _ _ (fun q => by omega)⟩
    exact results_cell_row_tmp (P := Tryd.prog) Tryd.results14 _ _ w.heap.size 27 Z (0, 0) _ rfl (setRow_heap _ _ _ _ _ _ RZ) Tryd.underlying27 rfl iZ
  | false =>
    have ho := (big_of l).1 hbg
    have e1 : rootE l = 0 := if_neg (by rw [hbg]; decide)
    have e2 : rootH l = hashOf (rootT l) := if_neg (by rw [hbg]; decide)
    rw [e1, e2]
    rw [hbg] at hb
    have lt := topH_len (txs l)
    have ht := rtop_all (h.turn_no T0) ho (hl.turn T0 (fun q => q)) (by have := T0.size; omega)
    have sT := hb32_size lt
    have oT := hb32_one (topH (txs l))
    have iT := hb32_info lt
    have HR : Shut (∀ W, Turn no w W → Calls Tryd.prog 30 #[.int .i64 l.length, .agg (hb32 (topH (txs l)))] W fun e w' => ∃ v, e = .returned v ∧ Bs w' v (rootT l) ∧ Turn no W w') := fun W T => (rootText_any W l.length ho.1 (topH (txs l)) lt).mono (fun e w' ⟨v, e1, o, t⟩ => ⟨v, e1, o.bs, t⟩)
    have hln : (rootT l).length ≤ 140737488355328 := by simp [rootT, numE_len, lt]
    have HS : Shut (∀ W, Turn no w W → ∀ v, Bs W v (rootT l) → Calls Tryd.prog 29 #[v] W fun e w' => e = .returned (.agg (hv (rootT l))) ∧ Turn no W w') := fun W T v b => rsum_all W v _ b (hl.turn T (fun q => q)) (by have := T.size; omega) hln
    rw [show hb32 (hashOf (rootT l)) = hv (rootT l) from rfl]
    have hs := hv_size (rootT l)
    have o1 := hv_one (rootT l)
    have hi := hv_info (rootT l)
    generalize hv (rootT l) = H at *
    generalize rootT l = TX at *
    generalize hb32 (topH (txs l)) = TP at *
    generalize hb32 z32 = Z at *
    generalize l.length = n at *
    clear e1 e2 hbg h lt ho hln
    go_enter Tryd.func14, Tryd.ntmps14
    go_upto_region 1 with fail
    try rw [hw0]
    clear hw0
    go_upto_region 4 with (first | (go_at_call 27; refine hb.mono ?_; clear hb; rintro e w1 ⟨rfl, hw1⟩; subst hw1) | (go_at_call 28; refine ht.mono ?_; clear ht; rintro e w2 ⟨rfl, t2⟩) | (guard_target =~ wpList _ _ _ ({ dst := _, op := Op.store 27 _ _, .. } :: _) _ _; refine wpList_store_anyN rfl rfl 27 (.tmp 4) (.tmp 10) rfl _ TP rfl rfl 27 Z (Row.new _ Z 27) iT (by rw [hZ, sT]) oT ?_; intro w4 R4 t4))
    have T24 : Turn (fun q => q = w2.heap.size) w2 w4 := ((Turn.refl no w2).alloc _).of_no.trans t4 (fun _ _ e => e)
    have RZ2 := Row.turn RZ t2 (fun q => q)
    have T2 := T0.then_no t2
    have g2 := RZ2.lt
    have RZ4 := Row.turn RZ2 T24 (fun e => by omega)
    have T4 := T2.trans T24 (fun i hi e => by have := T2.size; omega)
    have hr := HR.out w4 T4
    clear T24 RZ2 RZ t2 t4 T2 T0
    generalize w2.heap.size = g4 at *
    go_upto_region 5 with (first | (guard_target =~ wpList _ _ _ ({ dst := _, op := Op.load 27 _, .. } :: _) _ _; refine wpList_load_row rfl 27 (.tmp 4) rfl g4 rfl 27 TP _ _ R4 Tryd.underlying27 rfl iT ?_) | (go_at_call 30; refine hr.mono ?_; clear hr; rintro e w5 ⟨v5, rfl, b5, t5⟩; have hsu := HS.out w5 (T4.then_no t5) v5 b5) | (go_at_call 29; refine hsu.mono ?_; clear hsu; rintro e w6 ⟨rfl, t6⟩) | (guard_target =~ wpList _ _ _ ({ dst := _, op := Op.store 27 _ _, .. } :: _) _ _; refine wpList_store_anyN rfl rfl 27 (.tmp 5) (.tmp 15) rfl _ H rfl rfl 27 Z (Row.new _ Z 27) hi (by rw [hZ, hs]) o1 ?_; intro w7 R7 t7))
    have T67 : Turn (fun q => q = w6.heap.size) w6 w7 := ((Turn.refl no w6).alloc _).of_no.trans t7 (fun _ _ e => e)
    have t56 := t5.then_no t6
    have T47 : Turn no w4 w7 := t56.trans T67 (fun i hi e => by have := t56.size; omega)
    have RZ7 := Row.turn RZ4 T47 (fun q => q)
    have T7 := T4.then_no T47
    clear T67 t56 T47 RZ4 t5 t6 t7 T4
    generalize w6.heap.size = g6 at *
    go_wp2_with (first | (guard_target =~ wpList _ _ _ ({ dst := _, op := Op.load 27 _, .. } :: _) _ _; refine wpList_load_row rfl 27 (.tmp 5) rfl g6 rfl 27 H _ _ R7 Tryd.underlying27 rfl hi ?_) | (guard_target =~ wpList _ _ _ ({ dst := _, op := Op.store 27 _ _, .. } :: _) _ _; refine wpList_store_row rfl 27 (.tmp 2) (.tmp 16) rfl w.heap.size H rfl rfl 27 Z RZ7 hi (by rw [hZ, hs]) o1 ?_))
    refine bodyPost_ret (v := .tuple #[.agg H, .int .i64 0]) ?_ rfl ⟨rfl, T7.setRow _ _ (fun q => by omega)⟩
    exact results_cell_row_tmp (P := Tryd.prog) Tryd.results14 _ _ w.heap.size 27 H (0, 0) _ rfl (setRow_heap _ _ _ _ _ _ RZ7) Tryd.underlying27 rfl hi
/-- Two unlike texts with one digest. -/
def clB (A B : List UInt8) : Bool := !(A == B) && hashOf A == hashOf B
theorem text_list (A : List UInt8) : (⟨A.toArray⟩ : ByteArray).toList = A := by
  rw [ByteArray.toList_eq]
end Go.Proofs.YtgjhhmdpepdepaaDoor

