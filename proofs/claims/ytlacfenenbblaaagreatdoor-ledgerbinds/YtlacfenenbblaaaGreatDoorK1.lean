/- Lists of items; Root of both; Clash. -/
import Derived.Test.YtlacfenenbblaaaGreatDoorJa
import Derived.Test.YtlacfenenbblaaaGreatDoorE7
import Derived.Laws.Strings
namespace Go.Proofs.YtlacfenenbblaaaGreatDoor
open Go.RowKit
set_option linter.unusedVariables false

section
variable {P : Program} {ops : Array Oper} {rest : List Oper} {op : Oper} {a : Act} {w : World} {Q : Exit → Act → World → Prop}
/-- A load of many cells whose guard is on. -/
theorem wpList_load_midG (hgd : Region.wanted op (yielded ops a.tmps) = true) (ty : TypeId) (x : Operand) (ho : op.op = .load ty x)
    (b o : Nat) (hx : a.eval x = .pointer (some ⟨b, o, none⟩)) (cs : List Value) (d : TypeDesc) (hc : w.rangeAt b o cs)
    (hu : P.underlying ty = some d) (hd : d.isRow = true) (hi : (P.info? ty).map (·.size) = some cs.length)
    (h : wpList P ops Q rest (a.put op.dst (.agg cs.toArray)) w) : wpList P ops Q (op :: rest) a w :=
  wpList_want hgd fun _ hK => wp_load_mid ty x ho b o hx cs d hc hu hd hi (hK _ _ h)
end
abbrev Its := List (Value × List UInt8)
def txs (l : Its) : List (List UInt8) := l.map (·.2)
theorem txs_len (l : Its) : (txs l).length = l.length := by simp [txs]
/-- A list of items, wherever it lies. -/
structure BlAt (w : World) (a : Option Addr) (cap : Nat) (l : Its) : Prop where
  le : l.length ≤ cap
  cap : cap ≤ maxLen
  lt : l.length < 4611686018427387904
  pcs : l = [] ∨ ∃ b o, a = some ⟨b, o, none⟩ ∧ Pcs w b o l
theorem BlAt.turn_no {w w' : World} {a : Option Addr} {cap : Nat} {l : Its} (h : BlAt w a cap l) (t : Turn no w w') : BlAt w' a cap l :=
  ⟨h.le, h.cap, h.lt, h.pcs.elim .inl (fun ⟨b, o, e, p⟩ => .inr ⟨b, o, e, p.turn_no t⟩)⟩
def okL (l : Its) : Prop := l.length ≤ 65536 ∧ ∀ x ∈ l, x.2.length ≤ 1048576
theorem big_of (l : Its) : bigOf (txs l) = false ↔ okL l := by
  unfold bigOf okL txs
  simp [Bool.or_eq_false_iff]
section
variable {w : World} {a : Option Addr} {cap : Nat} {l : Its}
theorem big_all (h : BlAt w a cap l) : Calls Tryz.prog 52 #[.slice a l.length cap] w fun e w' => e = .returned (.bool (bigOf (txs l))) ∧ w' = w := by
  rcases h.pcs with rfl | ⟨b, o, rfl, p⟩
  · exact tooBig_none w a cap
  · exact tooBig_any w l l.length b o cap rfl p h.le h.lt
theorem rbig_all (h : BlAt w a cap l) : Calls Tryz.prog 33 #[.slice a l.length cap] w fun e w' => e = .returned (.bool (bigOf (txs l))) ∧ w' = w := by
  rcases h.pcs with rfl | ⟨b, o, rfl, p⟩
  · exact large_none w a cap
  · exact large_any w l l.length b o cap rfl p h.le h.lt
theorem top_all (h : BlAt w a cap l) (ho : okL l) (hl : Laid1 w) (h2 : 2 ≤ w.heap.size) : Calls Tryz.prog 54 #[.slice a l.length cap] w fun e w' => e = .returned (.agg (hb32 (topH (txs l)))) ∧ Turn no w w' := by
  by_cases h0 : l = []
  · subst h0
    rw [topH_none (txs []) rfl]
    exact top_none w a cap hl h2
  · rcases h.pcs with q | ⟨b, o, rfl, p⟩
    · exact absurd q h0
    · exact top_any l.length l b o cap w rfl p h.le (List.length_pos_iff.2 h0) ho.1 ho.2 hl h2
theorem rtop_all (h : BlAt w a cap l) (ho : okL l) (hl : Laid0 w) (h2 : 2 ≤ w.heap.size) : Calls Tryz.prog 17 #[.slice a l.length cap] w fun e w' => e = .returned (.agg (hb32 (topH (txs l)))) ∧ Turn no w w' := by
  by_cases h0 : l = []
  · subst h0
    rw [topH_none (txs []) rfl]
    exact rtop_none w a cap hl h2
  · rcases h.pcs with q | ⟨b, o, rfl, p⟩
    · exact absurd q h0
    · exact rtop_any l.length l b o cap w rfl p h.le (List.length_pos_iff.2 h0) ho.1 ho.2 hl h2
end
/-- What Root answers. -/
def rootE (l : Its) : Int := if bigOf (txs l) = true then 4 else 0
def rootT (l : Its) : List UInt8 := 2 :: (numE l.length ++ topH (txs l))
def rootH (l : Its) : List UInt8 := if bigOf (txs l) = true then z32 else hashOf (rootT l)
theorem rootH_len (l : Its) : (rootH l).length = 32 := by
  unfold rootH
  split
  · rfl
  · exact hashOf_len _
set_option maxRecDepth 100000 in
set_option maxHeartbeats 4000000 in
theorem root7 (w : World) (a : Option Addr) (cap : Nat) (l : Its) (h : BlAt w a cap l) (hl : Laid1 w) (h2 : 2 ≤ w.heap.size) : Calls Tryz.prog 24 #[.slice a l.length cap] w fun e w' => e = .returned (.tuple #[.agg (hb32 (rootH l)), .int .i64 (rootE l)]) ∧ Turn no w w' := by
  have hZ := hb32_size z32_len
  have oZ := hb32_one z32
  have iZ := hb32_info z32_len
  have hzv := zero35v
  have hbd := shut bld35
  obtain ⟨w0, hw0⟩ : ∃ w0, w.alloc (.cells (hb32 z32) 29) = w0 := ⟨_, rfl⟩
  have T0 : Turn no w w0 := by rw [← hw0]; exact (Turn.refl no w).alloc _
  have RZ : Row w0 w.heap.size (hb32 z32) 29 := by rw [← hw0]; exact Row.new w _ 29
  have hb := big_all (h.turn_no T0)
  cases hbg : bigOf (txs l) with
  | true =>
    have e1 : rootE l = 4 := if_pos hbg
    have e2 : rootH l = z32 := if_pos hbg
    rw [e1, e2]
    rw [hbg] at hb
    generalize hb32 z32 = Z at *
    generalize l.length = n at *
    clear e1 e2 hbg h
    go_enter Tryz.func24, Tryz.ntmps24
    go_upto_region 1 with fail
    try rw [hw0]
    clear hw0 hzv
    go_wp2_with (first | (go_at_call 52; refine hb.mono ?_; clear hb; rintro e w1 ⟨rfl, hw1⟩; subst hw1) | (guard_target =~ wpList _ _ _ ({ dst := _, op := Op.build 29 _, .. } :: _) _ _; refine wpList_buildG (by kernel_rfl) 29 rfl _ (hbd.out _) ?_) | (guard_target =~ wpList _ _ _ ({ dst := _, op := Op.store 29 _ _, .. } :: _) _ _; refine wpList_store_row rfl 29 (.tmp 2) (.tmp 6) rfl w.heap.size Z rfl rfl 29 Z RZ iZ rfl oZ ?_))
    refine bodyPost_ret (v := .tuple #[.agg Z, .int .i64 4]) ?_ rfl ⟨rfl, T0.setRow _ _ (fun q => by omega)⟩
    exact results_cell_row_tmp (P := Tryz.prog) Tryz.results24 _ _ w.heap.size 29 Z (0, 0) _ rfl (setRow_heap _ _ _ _ _ _ RZ) Tryz.underlying29 rfl iZ
  | false =>
    have ho := (big_of l).1 hbg
    have e1 : rootE l = 0 := if_neg (by rw [hbg]; decide)
    have e2 : rootH l = hashOf (rootT l) := if_neg (by rw [hbg]; decide)
    rw [e1, e2]
    rw [hbg] at hb
    have lt := topH_len (txs l)
    have ht := top_all (h.turn_no T0) ho (hl.turn T0 (fun q => q)) (by have := T0.size; omega)
    have hr := fun W (T : Turn no w W) => rootOf_any W l.length ho.1 (topH (txs l)) lt (hl.turn T (fun q => q)) (by have := T.size; omega)
    rw [show hb32 (hashOf (rootT l)) = hv (rootT l) from rfl]
    have hs := hv_size (rootT l)
    have o1 := hv_one (rootT l)
    have hi := hv_info (rootT l)
    have HR : Shut (∀ W, Turn no w W → Calls Tryz.prog 53 #[.int .i64 l.length, .agg (hb32 (topH (txs l)))] W fun e w' => e = .returned (.agg (hv (rootT l))) ∧ Turn no W w') := hr
    clear hr
    generalize hv (rootT l) = H at *
    generalize hb32 (topH (txs l)) = TP at *
    generalize hb32 z32 = Z at *
    generalize l.length = n at *
    clear e1 e2 hbg h lt ho
    go_enter Tryz.func24, Tryz.ntmps24
    go_upto_region 1 with fail
    try rw [hw0]
    clear hw0 hzv
    go_wp2_with (first | (go_at_call 52; refine hb.mono ?_; clear hb; rintro e w1 ⟨rfl, hw1⟩; subst hw1) | (go_at_call 54; refine ht.mono ?_; clear ht; rintro e w2 ⟨rfl, t2⟩; have T2 := T0.then_no t2; have hr := HR.out w2 T2) | (go_at_call 53; refine hr.mono ?_; clear hr; rintro e w3 ⟨rfl, t3⟩; have T3 := T2.then_no t3; have RZ3 := Row.turn (Row.turn RZ t2 (fun q => q)) t3 (fun q => q)) | (guard_target =~ wpList _ _ _ ({ dst := _, op := Op.store 29 _ _, .. } :: _) _ _; refine wpList_store_row rfl 29 (.tmp 2) (.tmp 11) rfl w.heap.size H rfl rfl 29 Z RZ3 hi (by rw [hZ, hs]) o1 ?_))
    refine bodyPost_ret (v := .tuple #[.agg H, .int .i64 0]) ?_ rfl ⟨rfl, T3.setRow _ _ (fun q => by omega)⟩
    exact results_cell_row_tmp (P := Tryz.prog) Tryz.results24 _ _ w.heap.size 29 H (0, 0) _ rfl (setRow_heap _ _ _ _ _ _ RZ3) Tryz.underlying29 rfl hi
set_option maxRecDepth 100000 in
set_option maxHeartbeats 4000000 in
theorem root8 (w : World) (a : Option Addr) (cap : Nat) (l : Its) (h : BlAt w a cap l) (hl : Laid0 w) (h2 : 2 ≤ w.heap.size) : Calls Tryz.prog 8 #[.slice a l.length cap] w fun e w' => e = .returned (.tuple #[.agg (hb32 (rootH l)), .int .i64 (rootE l)]) ∧ Turn no w w' := by
  have hZ := hb32_size z32_len
  have oZ := hb32_one z32
  have iZ := hb32_info z32_len
  have hzv := zero35v
  have hbd := shut bld35
  obtain ⟨w0, hw0⟩ : ∃ w0, w.alloc (.cells (hb32 z32) 29) = w0 := ⟨_, rfl⟩
  have T0 : Turn no w w0 := by rw [← hw0]; exact (Turn.refl no w).alloc _
  have RZ : Row w0 w.heap.size (hb32 z32) 29 := by rw [← hw0]; exact Row.new w _ 29
  have hb := rbig_all (h.turn_no T0)
  cases hbg : bigOf (txs l) with
  | true =>
    have e1 : rootE l = 4 := if_pos hbg
    have e2 : rootH l = z32 := if_pos hbg
    rw [e1, e2]
    rw [hbg] at hb
    generalize hb32 z32 = Z at *
    generalize l.length = n at *
    clear e1 e2 hbg h
    go_enter Tryz.func8, Tryz.ntmps8
    go_upto_region 1 with fail
    try rw [hw0]
    clear hw0 hzv
    go_wp2_with (first | (go_at_call 33; refine hb.mono ?_; clear hb; rintro e w1 ⟨rfl, hw1⟩; subst hw1) | (guard_target =~ wpList _ _ _ ({ dst := _, op := Op.build 29 _, .. } :: _) _ _; refine wpList_buildG (by kernel_rfl) 29 rfl _ (hbd.out _) ?_) | (guard_target =~ wpList _ _ _ ({ dst := _, op := Op.store 29 _ _, .. } :: _) _ _; refine wpList_store_row rfl 29 (.tmp 2) (.tmp 8) rfl w.heap.size Z rfl rfl 29 Z RZ iZ rfl oZ ?_))
    refine bodyPost_ret (v := .tuple #[.agg Z, .int .i64 4]) ?_ rfl ⟨rfl, T0.setRow _ _ (fun q => by omega)⟩
    exact results_cell_row_tmp (P := Tryz.prog) Tryz.results8 _ _ w.heap.size 29 Z (0, 0) _ rfl (setRow_heap _ _ _ _ _ _ RZ) Tryz.underlying29 rfl iZ
  | false =>
    have ho := (big_of l).1 hbg
    have e1 : rootE l = 0 := if_neg (by rw [hbg]; decide)
    have e2 : rootH l = hashOf (rootT l) := if_neg (by rw [hbg]; decide)
    rw [e1, e2]
    rw [hbg] at hb
    have lt := topH_len (txs l)
    have ht := rtop_all (h.turn_no T0) ho (hl.turn T0 (fun q => q)) (by have := T0.size; omega)
    have sT := hb32_size lt
    have oT := hb32_one (topH (txs l))
    have iT := hb32_info lt
    have HR : Shut (∀ W, Turn no w W → Calls Tryz.prog 16 #[.int .i64 l.length, .agg (hb32 (topH (txs l)))] W fun e w' => ∃ v, e = .returned v ∧ Bs w' v (rootT l) ∧ Turn no W w') := fun W T => (rootText_any W l.length ho.1 (topH (txs l)) lt).mono (fun e w' ⟨v, e1, o, t⟩ => ⟨v, e1, o.bs, t⟩)
    have hln : (rootT l).length ≤ 140737488355328 := by simp [rootT, numE_len, lt]
    have HS : Shut (∀ W, Turn no w W → ∀ v, Bs W v (rootT l) → Calls Tryz.prog 12 #[v] W fun e w' => e = .returned (.agg (hv (rootT l))) ∧ Turn no W w') := fun W T v b => rsum_all W v _ b (hl.turn T (fun q => q)) (by have := T.size; omega) hln
    rw [show hb32 (hashOf (rootT l)) = hv (rootT l) from rfl]
    have hs := hv_size (rootT l)
    have o1 := hv_one (rootT l)
    have hi := hv_info (rootT l)
    generalize hv (rootT l) = H at *
    generalize rootT l = TX at *
    generalize hb32 (topH (txs l)) = TP at *
    generalize hb32 z32 = Z at *
    generalize l.length = n at *
    clear e1 e2 hbg h lt ho hln
    go_enter Tryz.func8, Tryz.ntmps8
    go_upto_region 1 with fail
    try rw [hw0]
    clear hw0
    go_upto_region 4 with (first | (go_at_call 33; refine hb.mono ?_; clear hb; rintro e w1 ⟨rfl, hw1⟩; subst hw1) | (go_at_call 17; refine ht.mono ?_; clear ht; rintro e w2 ⟨rfl, t2⟩) | (guard_target =~ wpList _ _ _ ({ dst := _, op := Op.store 29 _ _, .. } :: _) _ _; refine wpList_store_anyN rfl rfl 29 (.tmp 4) (.tmp 10) rfl _ TP rfl rfl 29 Z (Row.new _ Z 29) iT (by rw [hZ, sT]) oT ?_; intro w4 R4 t4))
    have T24 : Turn (fun q => q = w2.heap.size) w2 w4 := ((Turn.refl no w2).alloc _).of_no.trans t4 (fun _ _ e => e)
    have RZ2 := Row.turn RZ t2 (fun q => q)
    have T2 := T0.then_no t2
    have g2 := RZ2.lt
    have RZ4 := Row.turn RZ2 T24 (fun e => by omega)
    have T4 := T2.trans T24 (fun i hi e => by have := T2.size; omega)
    have hr := HR.out w4 T4
    clear T24 RZ2 RZ t2 t4 T2 T0
    generalize w2.heap.size = g4 at *
    go_upto_region 5 with (first | (guard_target =~ wpList _ _ _ ({ dst := _, op := Op.load 29 _, .. } :: _) _ _; refine wpList_load_row rfl 29 (.tmp 4) rfl g4 rfl 29 TP _ _ R4 Tryz.underlying29 rfl iT ?_) | (go_at_call 16; refine hr.mono ?_; clear hr; rintro e w5 ⟨v5, rfl, b5, t5⟩; have hsu := HS.out w5 (T4.then_no t5) v5 b5) | (go_at_call 12; refine hsu.mono ?_; clear hsu; rintro e w6 ⟨rfl, t6⟩) | (guard_target =~ wpList _ _ _ ({ dst := _, op := Op.store 29 _ _, .. } :: _) _ _; refine wpList_store_anyN rfl rfl 29 (.tmp 5) (.tmp 15) rfl _ H rfl rfl 29 Z (Row.new _ Z 29) hi (by rw [hZ, hs]) o1 ?_; intro w7 R7 t7))
    have T67 : Turn (fun q => q = w6.heap.size) w6 w7 := ((Turn.refl no w6).alloc _).of_no.trans t7 (fun _ _ e => e)
    have t56 := t5.then_no t6
    have T47 : Turn no w4 w7 := t56.trans T67 (fun i hi e => by have := t56.size; omega)
    have RZ7 := Row.turn RZ4 T47 (fun q => q)
    have T7 := T4.then_no T47
    clear T67 t56 T47 RZ4 t5 t6 t7 T4
    generalize w6.heap.size = g6 at *
    go_wp2_with (first | (guard_target =~ wpList _ _ _ ({ dst := _, op := Op.load 29 _, .. } :: _) _ _; refine wpList_load_row rfl 29 (.tmp 5) rfl g6 rfl 29 H _ _ R7 Tryz.underlying29 rfl hi ?_) | (guard_target =~ wpList _ _ _ ({ dst := _, op := Op.store 29 _ _, .. } :: _) _ _; refine wpList_store_row rfl 29 (.tmp 2) (.tmp 16) rfl w.heap.size H rfl rfl 29 Z RZ7 hi (by rw [hZ, hs]) o1 ?_))
    refine bodyPost_ret (v := .tuple #[.agg H, .int .i64 0]) ?_ rfl ⟨rfl, T7.setRow _ _ (fun q => by omega)⟩
    exact results_cell_row_tmp (P := Tryz.prog) Tryz.results8 _ _ w.heap.size 29 H (0, 0) _ rfl (setRow_heap _ _ _ _ _ _ RZ7) Tryz.underlying29 rfl hi
/-- Two unlike texts with one digest. -/
def clB (A B : List UInt8) : Bool := !(A == B) && hashOf A == hashOf B
theorem text_list (A : List UInt8) : (⟨A.toArray⟩ : ByteArray).toList = A := by
  rw [ByteArray.toList_eq]
set_option maxRecDepth 100000 in
set_option maxHeartbeats 4000000 in
theorem clash26 (w : World) (va vb : Value) (A B : List UInt8) (ha : Bs w va A) (hb : Bs w vb B) (la : A.length ≤ 140737488355328) (lb : B.length ≤ 140737488355328) (hl : Laid0 w) (h2 : 2 ≤ w.heap.size) : Calls Tryz.prog 15 #[va, vb] w fun e w' => e = .returned (.bool (clB A B)) ∧ Turn no w w' := by
  have sA := hv_size A
  have oA := hv_one A
  have iA := hv_info A
  have sB := hv_size B
  have oB := hv_one B
  have iB := hv_info B
  have hZ := hb32_size z32_len
  have hzv := zero35v
  have hA := rsum_all w va A ha hl h2 la
  have HB : Shut (∀ W, Turn no w W → Calls Tryz.prog 12 #[vb] W fun e w' => e = .returned (.agg (hv B)) ∧ Turn no W w') := fun W T => rsum_all W vb B (hb.turn_no T) (hl.turn T (fun q => q)) (by have := T.size; omega) lb
  have cA : Shut (∀ W, Turn no w W → (convert 48 9 va).run Tryz.prog W = .ok (.string ⟨A.toArray⟩) W) := fun W T => bytes_text (ha.turn_no T)
  have cB : Shut (∀ W, Turn no w W → (convert 48 9 vb).run Tryz.prog W = .ok (.string ⟨B.toArray⟩) W) := fun W T => bytes_text (hb.turn_no T)
  have hq : Shut (((⟨A.toArray⟩ : ByteArray).toList == (⟨B.toArray⟩ : ByteArray).toList) = (A == B)) := by show _ = _; rw [text_list, text_list]
  have HE : Shut (∀ W, (Op.equalIn 10000 29 (.agg (hv A)) (.agg (hv B))).run Tryz.prog W = .ok (hashOf A == hashOf B) W) := fun W => eqIn35 W _ _ (hashOf_len A) (hashOf_len B)
  obtain ⟨xa, ca, rfl⟩ := ha.slice
  obtain ⟨xb, cb, rfl⟩ := hb.slice
  unfold clB
  generalize (hashOf A == hashOf B) = q2 at *
  generalize (A == B) = q1 at *
  generalize hv A = HA at *
  generalize hv B = HBv at *
  generalize (⟨A.toArray⟩ : ByteArray) = tA at *
  generalize (⟨B.toArray⟩ : ByteArray) = tB at *
  generalize A.length = nA at *
  generalize B.length = nB at *
  generalize hb32 z32 = Z at *
  clear ha hb la lb
  go_enter Tryz.func15, Tryz.ntmps15
  go_upto_region 2 with (first | (go_at_call 12; refine hA.mono ?_; clear hA; rintro e w1 ⟨rfl, t1⟩) | (guard_target =~ wpList _ _ _ ({ dst := _, op := Op.store 29 _ _, .. } :: _) _ _; refine wpList_store_anyN rfl rfl 29 (.tmp 5) (.tmp 8) rfl _ HA rfl rfl 29 Z (Row.new _ Z 29) iA (by rw [hZ, sA]) oA ?_; intro w2 R2 t2))
  have T12 : Turn (fun q => q = w1.heap.size) w1 w2 := ((Turn.refl no w1).alloc _).of_no.trans t2 (fun _ _ e => e)
  have T2 : Turn no w w2 := t1.trans T12 (fun i hi e => by have := t1.size; omega)
  have hB := HB.out w2 T2
  clear T12 t1 t2
  generalize w1.heap.size = g5 at *
  go_upto_region 3 with (first | (go_at_call 12; refine hB.mono ?_; clear hB; rintro e w3 ⟨rfl, t3⟩) | (guard_target =~ wpList _ _ _ ({ dst := _, op := Op.store 29 _ _, .. } :: _) _ _; refine wpList_store_anyN rfl rfl 29 (.tmp 6) (.tmp 10) rfl _ HBv rfl rfl 29 Z (Row.new _ Z 29) iB (by rw [hZ, sB]) oB ?_; intro w4 R4 t4))
  have T34 : Turn (fun q => q = w3.heap.size) w3 w4 := ((Turn.refl no w3).alloc _).of_no.trans t4 (fun _ _ e => e)
  have T24 : Turn no w2 w4 := t3.trans T34 (fun i hi e => by have := t3.size; omega)
  have R2' := Row.turn R2 T24 (fun q => q)
  have T4 := T2.then_no T24
  clear T34 T24 t3 t4 R2 HB hzv
  generalize w3.heap.size = g6 at *
  have hcA := cA.out w4 T4
  have hcB := cB.out w4 T4
  have hqq := hq.out
  have rA := Row.rng R2'
  have rB := Row.rng R4
  have iAl : (Tryz.prog.info? 29).map (·.size) = some HA.toList.length := by rw [Array.length_toList]; exact iA
  have iBl : (Tryz.prog.info? 29).map (·.size) = some HBv.toList.length := by rw [Array.length_toList]; exact iB
  have he := HE.out
  cases q1 with
  | true =>
    go_wp2_with fail
    go_ret
    exact ⟨rfl, T4⟩
  | false =>
    go_wp2_with (first | (guard_target =~ wpList _ _ _ ({ dst := some 17, op := Op.load 29 _, .. } :: _) _ _; refine wpList_load_midG (by kernel_rfl) 29 (.tmp 5) rfl g5 0 rfl HA.toList _ rA Tryz.underlying29 rfl iAl ?_) | (guard_target =~ wpList _ _ _ ({ dst := some 18, op := Op.load 29 _, .. } :: _) _ _; refine wpList_load_midG (by kernel_rfl) 29 (.tmp 6) rfl g6 0 rfl HBv.toList _ rB Tryz.underlying29 rfl iBl ?_))
    go_ret
    exact ⟨rfl, T4⟩
end Go.Proofs.YtlacfenenbblaaaGreatDoor

