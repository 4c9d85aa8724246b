/- TxId, BlockId, CertId of the document. -/
import Derived.Test.YtgimecdmleofeaaDoorR8
import Derived.Test.YtgimecdmleofeaaDoorR5
import Derived.Test.YtgimecdmleofeaaDoorR6
import Derived.Test.YtgimecdmleofeaaDoorR7
import Derived.Test.YtgimecdmleofeaaDoorE6
import Derived.Test.YtgimecdmleofeaaDoorT2
import Derived.Test.YtgimecdmleofeaaDoorQ4
namespace Go.Proofs.YtgimecdmleofeaaDoor
open Go.RowKit
set_option linter.unusedVariables false

/-- A mark and a form behind it: one append. -/
theorem mark_app {w W W1 W2 : World} {v v2 : Value} {b : UInt8} {B : List UInt8} (t : Turn no w W) (F : Fr (W.alloc (.cells #[bv b] 5)) W1 v B) (o : Own W2 5 v2 ([b].map bv ++ B.map bv)) (g : Grew W1 W2 (.slice (some ⟨W.heap.size, 0, none⟩) 1 1) v2) : Own W2 5 v2 ((b :: B).map bv) ∧ Turn no w W2 := by
  refine ⟨by simpa using o, ?_⟩
  have t1 : Turn no w W1 := (t.alloc _).then_no F.turn
  exact t1.grown g.grown (fun k q hk => by
    have q' : W.heap.size = k := by simpa [Value.ownBlock] using q
    have := t.size
    omega)
theorem mark_own {W W1 : World} {v : Value} {b : UInt8} {B : List UInt8} (F : Fr (W.alloc (.cells #[bv b] 5)) W1 v B) : Own W1 5 (.slice (some ⟨W.heap.size, 0, none⟩) 1 1) ([b].map bv) := (fr_one W b).own.turn_no F.turn
theorem leB_one (n : Nat) : leB n 1 = [UInt8.ofNat n] := by simp [leB]
set_option maxRecDepth 100000 in
set_option maxHeartbeats 4000000 in
theorem rtxId8 (w : World) (hl : Laid0 w) (h2 : 3 ≤ w.heap.size) (x : Tx) (ho : x.ok) :
    Calls Tryd.prog 8 #[.agg x.cs.toArray] w fun e w' => e = .returned (.tuple #[.agg (hb32 (idH (plainT x) (leB 16 1 ++ (txB x ++ x.se)))), .int .i64 (plainT x)]) ∧ Turn no w w' := by
  have hZ := hb32_size z32_len
  have oZ := hb32_one z32
  have iZ := hb32_info z32_len
  have hzv := zero35v
  have hbd := shut bld35
  obtain ⟨w2, hw2⟩ : ∃ W, (w.alloc (.cells (x.cs).toArray 27)).alloc (.cells (hb32 z32) 29) = W := ⟨_, rfl⟩
  have r1 : Row w2 w.heap.size (x.cs).toArray 27 := by rw [← hw2]; exact (Row.new w _ 27).alloc _
  have r2 : Row w2 (w.heap.size + 1) (hb32 z32) 29 := by rw [← hw2]; exact Row.newAt _ _ 29 _ (by simp)
  have t2 : Turn no w w2 := by rw [← hw2]; exact ((Turn.refl no w).alloc _).alloc _
  have cr := Row.rangeZ r1
  have hz : (Tryd.prog.info? 27).map (·.size) = some x.cs.length := by rw [x.len ho]; exact size27
  have C0 := plain36 w2 x
  have HR := shutX (fun W (t : Turn no w2 W) => (fun j u hu => t.keep (cr j u hu) (fun q => q) : W.rangeAt w.heap.size 0 x.cs))
  by_cases he : plainT x = 0
  · have sB : (txB x ++ x.se).length ≤ 1000 := by
      have := varE_le x.fr
      have := varE_le x.to
      have := varE_le x.am
      have := varE_le x.fe
      have := varE_le x.no
      have := leB_length x.k.toNat 1
      have := ho.1
      simp [txB]
      omega
    have e2 : idH (plainT x) (leB 16 1 ++ (txB x ++ x.se)) = hashOf (16 :: (txB x ++ x.se)) := by
      unfold idH
      rw [if_pos he, leB_one]
      rfl
    rw [e2]
    rw [he] at C0 ⊢
    have C1 := fun W => tx32 W x ho (plainT_kind he).1 (plainT_kind he).2
    generalize txB x ++ x.se = SB at *
    have C2 : ∀ W va, Turn no w W → Bs W va (16 :: SB) → Calls Tryd.prog 31 #[va] W fun e w' => e = .returned (.agg (hb32 (hashOf (16 :: SB)))) ∧ Turn no W w' := fun W va t b => rsum_all W va _ b (hl.turn t (fun q => q)) (by have := t.size; omega) (by simp; omega)
    have HC := shutX (And.intro C1 C2)
    have hX := hashOf_len (16 :: SB)
    generalize hashOf (16 :: SB) = X at *
    clear C1 C2 he e2
    generalize x.cs = D at *
    have sH := hb32_size hX
    have oH := hb32_one X
    have iH := hb32_info hX
    generalize hb32 X = H at *
    generalize hb32 z32 = Z at *
    generalize hA : D.toArray = A at *
    have HA := shutX hA
    clear hA
    go_enter Tryd.func8, Tryd.ntmps8
    go_upto_region 1 with fail
    try rw [hw2]
    clear hw2
    go_upto_region 4 with (first | (guard_target =~ wpList _ _ _ ({ dst := _, op := Op.load 27 _, .. } :: _) _ _; refine wpList_load_mid rfl 27 (.tmp 1) rfl w.heap.size 0 rfl D _ cr Tryd.underlying27 rfl hz ?_; rw [HA.out]) | (go_at_call 30; refine C0.mono ?_; clear C0; rintro e w3 ⟨rfl, t3⟩))
    clear cr
    have cr := HR.out _ (t3.alloc (.cells #[bv 16] 5))
    have T3 := t2.then_no t3
    have C1 := HC.out.1 (w3.alloc (.cells #[bv 16] 5))
    go_wp2_with (first | (guard_target =~ wpList _ _ _ ({ dst := _, op := Op.load 27 _, .. } :: _) _ _; refine wpList_load_mid rfl 27 (.tmp 1) rfl w.heap.size 0 rfl D _ cr Tryd.underlying27 rfl hz ?_; rw [HA.out]) | (go_at_call 32; refine C1.mono ?_; clear C1; rintro e w4 ⟨v4, rfl, F4⟩; obtain ⟨a4, l4, c4, rfl⟩ := F4.form; have o4 := mark_own F4; have hs4 := F4.own.bs.src (P := Tryd.prog) Tryd.underlying70) | (at_builtin; refine wpList_append_src rfl (.tmp 11) (.tmp 13) rfl Tryd.underlying70 Tryd.info5 rfl _ ([(16 : UInt8)].map bv) rfl o4 _ SB.length (SB.map bv) rfl hs4 (by simp; omega) (by simp [maxLen]; omega) ?_; intro v5 w5 o5 g5 _; obtain ⟨O5, T5'⟩ := mark_app t3 F4 o5 g5; have T5 := t2.then_no T5'; have R5 := Row.turn r2 T5' (fun q => q); obtain ⟨a5, l5, c5, rfl⟩ := o5.form; have C2 := HC.out.2 w5 _ T5 O5.bs; clear o5 g5 hs4) | (go_at_call 31; refine C2.mono ?_; clear C2; rintro e w6 ⟨rfl, t6⟩; have R6 := Row.turn R5 t6 (fun q => q)) | (guard_target =~ wpList _ _ _ ({ dst := _, op := Op.store 29 _ _, .. } :: _) _ _; refine wpList_store_row rfl 29 (.tmp 2) (.tmp 15) rfl (w.heap.size + 1) H rfl rfl 29 Z R6 iH (by rw [hZ, sH]) oH ?_))
    refine bodyPost_ret (v := .tuple #[.agg H, .int .i64 0]) ?_ rfl ⟨rfl, (T5.then_no t6).setRow _ _ (fun q => by omega)⟩
    exact results_cell_row_tmp (P := Tryd.prog) Tryd.results8 _ _ (w.heap.size + 1) 29 H (0, 0) _ rfl (setRow_heap _ _ _ _ _ _ R6) Tryd.underlying29 rfl iH
  · have n1 : (plainT x != 0) = true := by simpa using he
    have e2 : idH (plainT x) (leB 16 1 ++ (txB x ++ x.se)) = z32 := if_neg he
    rw [e2]
    clear he e2 HR
    generalize plainT x = pv at *
    generalize x.cs = D at *
    generalize hb32 z32 = Z at *
    generalize hA : D.toArray = A at *
    have HA := shutX hA
    clear hA
    go_enter Tryd.func8, Tryd.ntmps8
    go_upto_region 1 with fail
    try rw [hw2]
    clear hw2 hzv
    go_wp2_with (first | (guard_target =~ wpList _ _ _ ({ dst := _, op := Op.load 27 _, .. } :: _) _ _; refine wpList_load_mid rfl 27 (.tmp 1) rfl w.heap.size 0 rfl D _ cr Tryd.underlying27 rfl hz ?_; rw [HA.out]) | (go_at_call 30; refine C0.mono ?_; clear C0; rintro e w3 ⟨rfl, t3⟩; have R3 := Row.turn r2 t3 (fun q => q)) | (guard_target =~ wpList _ _ _ ({ dst := _, op := Op.build 29 _, .. } :: _) _ _; refine wpList_buildG (by kernel_rfl) 29 rfl _ (hbd.out _) ?_) | (guard_target =~ wpList _ _ _ ({ dst := _, op := Op.store 29 _ _, .. } :: _) _ _; refine wpList_store_row rfl 29 (.tmp 2) (.tmp 9) rfl (w.heap.size + 1) Z rfl rfl 29 Z R3 iZ rfl oZ ?_))
    refine bodyPost_ret (v := .tuple #[.agg Z, .int .i64 pv]) ?_ rfl ⟨rfl, (t2.then_no t3).setRow _ _ (fun q => by omega)⟩
    exact results_cell_row_tmp (P := Tryd.prog) Tryd.results8 _ _ (w.heap.size + 1) 29 Z (0, 0) _ rfl (setRow_heap _ _ _ _ _ _ R3) Tryd.underlying29 rfl iZ
theorem wpList_eqlG {P : Program} {ops : Array Oper} {rest : List Oper} {op : Oper} {a : Act} {w : World} {Q : Exit → Act → World → Prop} (hgd : Region.wanted op (yielded ops a.tmps) = true) (t t2 : TypeId) (x y : Operand) (ho : op.op = .binOp .eql t x y t2) (vx vy : Value) (hx : a.eval x = vx) (hy : a.eval y = vy) (r : Value) (hq : (eqGuard .eql t x y vx vy).run P w = .ok () w) (hr : (binOp .eql t vx vy).run P w = .ok r w) (h : wpList P ops Q rest (a.put op.dst r) w) : wpList P ops Q (op :: rest) a w :=
  wpList_want hgd fun K hK => by
    unfold Oper.wp execOp
    simp only [ho, hx, hy, Sem.run_bind, hq, hr, Result.andThen_ok, Sem.run_pure]
    exact hK _ _ h
theorem guard29 (w : World) (x y : Operand) (A B : Array Value) : (eqGuard .eql 29 x y (.agg A) (.agg B)).run Tryd.prog w = .ok () w := by
  kernel_rfl
set_option maxRecDepth 100000 in
set_option maxHeartbeats 4000000 in
theorem rblockId9 (w : World) (hl : Laid0 w) (h2 : 3 ≤ w.heap.size) (x : Hd) (ho : x.ok) :
    Calls Tryd.prog 9 #[.agg x.cs.toArray] w fun e w' => e = .returned (.tuple #[.agg (hb32 (blockH x)), .int .i64 (plainH x)]) ∧ Turn no w w' := by
  have hZ := hb32_size z32_len
  have oZ := hb32_one z32
  have iZ := hb32_info z32_len
  have hzv := zero35v
  have hbd := shut bld35
  obtain ⟨w2, hw2⟩ : ∃ W, (w.alloc (.cells (x.cs).toArray 31)).alloc (.cells (hb32 z32) 29) = W := ⟨_, rfl⟩
  have r1 : Row w2 w.heap.size (x.cs).toArray 31 := by rw [← hw2]; exact (Row.new w _ 31).alloc _
  have r2 : Row w2 (w.heap.size + 1) (hb32 z32) 29 := by rw [← hw2]; exact Row.newAt _ _ 29 _ (by simp)
  have t2 : Turn no w w2 := by rw [← hw2]; exact ((Turn.refl no w).alloc _).alloc _
  have cr := Row.rangeZ r1
  have hz := x.info ho
  have C0 := rplain33 w2 x ho
  have HR := shutX (fun W (t : Turn no w2 W) => (fun j u hu => t.keep (cr j u hu) (fun q => q) : W.rangeAt w.heap.size 0 x.cs))
  by_cases he : plainH x = 0
  · have sB := hdB_le ho he
    have e0 : hdS x = hdB x := if_pos he
    have e1 : blockH x = someH (hashOf (17 :: hdB x)) := by
      unfold blockH
      rw [if_pos he, leB_one, e0]
      rfl
    rw [e1]
    rw [he] at C0 ⊢
    have C1 := fun W => header34 W x ho (plainH_ch he)
    generalize hdB x = SB at *
    have C2 : ∀ W va, Turn no w W → Bs W va (17 :: SB) → Calls Tryd.prog 31 #[va] W fun e w' => e = .returned (.agg (hb32 (hashOf (17 :: SB)))) ∧ Turn no W w' := fun W va t b => rsum_all W va _ b (hl.turn t (fun q => q)) (by have := t.size; omega) (by simp; omega)
    have HC := shutX (And.intro C1 C2)
    have hX := hashOf_len (17 :: SB)
    generalize hashOf (17 :: SB) = X at *
    clear C1 C2 he e0 e1
    generalize x.cs = D at *
    have HEQ := shutX (fun W => eql24 W X z32 hX z32_len)
    have sX := hb32_size hX
    have oX := hb32_one X
    have iX := hb32_info hX
    by_cases hq : X = zid
    · have e2 : someH X = oneId := by unfold someH; rw [hq]; simp
      rw [e2]
      have HEQ2 : Shut (∀ W, (binOp .eql 29 (.agg (hb32 X)) (.agg (hb32 z32))).run Tryd.prog W = .ok (.bool true) W) := ⟨fun W => by
        have := HEQ.out W
        rw [show (X == z32) = true by rw [hq]; rfl] at this
        exact this⟩
      have iH : (Tryd.prog.info? 29).map (·.size) = some (hb32 oneId).size := hb32_info rfl
      have sH : (hb32 oneId).size = 32 := rfl
      have oH := hb32_one oneId
      have HS1 : Shut ((hb32 X).setIfInBounds 31 (.int .u8 1) = hb32 oneId ∧ (hb32 X)[31]? = some (.int .u8 0)) := ⟨by subst hq; exact ⟨one_set, rfl⟩⟩
      clear e2 HEQ hq
      generalize hb32 oneId = H at *
      generalize hb32 X = Y at *
      generalize hb32 z32 = Z at *
      generalize hA : D.toArray = A at *
      have HA := shutX hA
      clear hA
      go_enter Tryd.func9, Tryd.ntmps9
      go_upto_region 1 with fail
      try rw [hw2]
      clear hw2
      go_upto_region 4 with (first | (guard_target =~ wpList _ _ _ ({ dst := _, op := Op.load 31 _, .. } :: _) _ _; refine wpList_load_mid rfl 31 (.tmp 1) rfl w.heap.size 0 rfl D _ cr Tryd.underlying31 rfl hz ?_; rw [HA.out]) | (go_at_call 33; refine C0.mono ?_; clear C0; rintro e w3 ⟨rfl, t3⟩))
      clear cr
      have cr := HR.out _ (t3.alloc (.cells #[bv 17] 5))
      have T3 := t2.then_no t3
      have C1 := HC.out.1 (w3.alloc (.cells #[bv 17] 5))
      go_upto_region 5 with (first | (guard_target =~ wpList _ _ _ ({ dst := _, op := Op.load 31 _, .. } :: _) _ _; refine wpList_load_mid rfl 31 (.tmp 1) rfl w.heap.size 0 rfl D _ cr Tryd.underlying31 rfl hz ?_; rw [HA.out]) | (go_at_call 34; refine C1.mono ?_; clear C1; rintro e w4 ⟨v4, rfl, F4⟩; obtain ⟨a4, l4, c4, rfl⟩ := F4.form; have o4 := mark_own F4; have hs4 := F4.own.bs.src (P := Tryd.prog) Tryd.underlying70) | (at_builtin; refine wpList_append_src rfl (.tmp 12) (.tmp 14) rfl Tryd.underlying70 Tryd.info5 rfl _ ([(17 : UInt8)].map bv) rfl o4 _ SB.length (SB.map bv) rfl hs4 (by simp; omega) (by simp [maxLen]; omega) ?_; intro v5 w5 o5 g5 _; obtain ⟨O5, T5'⟩ := mark_app t3 F4 o5 g5; have T5 := t2.then_no T5'; have R5 := Row.turn r2 T5' (fun q => q); obtain ⟨a5, l5, c5, rfl⟩ := o5.form; have C2 := HC.out.2 w5 _ T5 O5.bs; clear o5 g5 hs4) | (go_at_call 31; refine C2.mono ?_; clear C2; rintro e w6 ⟨rfl, t6⟩; have R6 := Row.turn R5 t6 (fun q => q)) | (guard_target =~ wpList _ _ _ ({ dst := _, op := Op.store 29 _ _, .. } :: _) _ _; refine wpList_store_any rfl 29 (.tmp 5) (.tmp 16) rfl w6.heap.size Y rfl rfl 29 Z (Row.new w6 Z 29) iX (by rw [hZ, sX]) oX ?_; intro w7 R7 t7))
      have tA : Turn (fun z => z = w6.heap.size) w6 w7 := ((Turn.refl _ w6).alloc _).trans t7 (fun _ _ q => q)
      have T7 : Turn no w w7 := (T5.then_no t6).trans tA (fun i hi q => by have := (T5.then_no t6).size; omega)
      have R8 : Row w7 (w.heap.size + 1) Z 29 := Row.turn R6 tA (fun q => by have := R6.lt; omega)
      have hne : w.heap.size + 1 < w6.heap.size := R6.lt
      generalize w6.heap.size = g6 at *
      clear tA t7 cr o4 hzv
      go_upto_region 6 with (first | (guard_target =~ wpList _ _ _ ({ dst := _, op := Op.load 29 _, .. } :: _) _ _; refine wpList_load_row rfl 29 (.tmp 5) rfl g6 rfl 29 Y _ _ R7 Tryd.underlying29 rfl iX ?_) | (guard_target =~ wpList _ _ _ ({ dst := _, op := Op.build 29 _, .. } :: _) _ _; refine wpList_buildG (by kernel_rfl) 29 rfl _ (hbd.out _) ?_) | (guard_target =~ wpList _ _ _ ({ dst := _, op := Op.binOp BinOp.eql 29 _ _ _, .. } :: _) _ _; refine wpList_eqlG (by kernel_rfl) 29 29 (.tmp 17) (.tmp 18) rfl (.agg Y) (.agg Z) rfl rfl (.bool true) (guard29 _ _ _ _ _) (HEQ2.out _) ?_))
      have d1 : w7.cell? ⟨g6, 31, none⟩ = some (.int .u8 0) := R7.cell 31 _ HS1.out.2
      have d2 : w7.frozen? ⟨g6, 31, none⟩ = false := frozen_of_row w7 g6 31 _ 29 R7
      go_upto_region 7 with fail
      obtain ⟨w8, hw8⟩ : ∃ X, w7.setCell ⟨g6, 31, none⟩ (.int .u8 1) = X := ⟨_, rfl⟩
      have R9 : Row w8 g6 H 29 := by
        rw [← hw8]
        have := cells_set 31 (.int .u8 1) R7
        rw [HS1.out.1] at this
        exact this
      have t8 : Turn (fun z => z = g6) w7 w8 := by rw [← hw8]; exact Turn.setCell (S := fun z => z = g6) (p := ⟨g6, 31, none⟩) (Turn.refl _ w7) (fun _ => rfl) _
      have R10 : Row w8 (w.heap.size + 1) Z 29 := Row.turn R8 t8 (fun q => by have q : w.heap.size + 1 = g6 := q; omega)
      rw [hw8]
      go_wp2_with (first | (guard_target =~ wpList _ _ _ ({ dst := _, op := Op.load 29 _, .. } :: _) _ _; refine wpList_load_row rfl 29 (.tmp 5) rfl g6 rfl 29 H _ _ R9 Tryd.underlying29 rfl iH ?_) | (guard_target =~ wpList _ _ _ ({ dst := _, op := Op.store 29 _ _, .. } :: _) _ _; refine wpList_store_row rfl 29 (.tmp 2) (.tmp 21) rfl (w.heap.size + 1) H rfl rfl 29 Z R10 iH (by rw [hZ, sH]) oH ?_))
      refine bodyPost_ret (v := .tuple #[.agg H, .int .i64 0]) ?_ rfl ⟨rfl, (T7.trans t8 (fun i hi q => by omega)).setRow _ _ (fun q => by omega)⟩
      exact results_cell_row_tmp (P := Tryd.prog) Tryd.results9 _ _ (w.heap.size + 1) 29 H (0, 0) _ rfl (setRow_heap _ _ _ _ _ _ R10) Tryd.underlying29 rfl iH
    · have hq2 : (X == zid) = false := by simpa using hq
      have e2 : someH X = X := by unfold someH; rw [hq2]; rfl
      rw [e2]
      have HEQ2 : Shut (∀ W, (binOp .eql 29 (.agg (hb32 X)) (.agg (hb32 z32))).run Tryd.prog W = .ok (.bool false) W) := ⟨fun W => by
        have := HEQ.out W
        rw [show (X == z32) = false from hq2] at this
        exact this⟩
      clear e2 HEQ hq hq2
      generalize hb32 X = Y at *
      generalize hb32 z32 = Z at *
      generalize hA : D.toArray = A at *
      have HA := shutX hA
      clear hA
      go_enter Tryd.func9, Tryd.ntmps9
      go_upto_region 1 with fail
      try rw [hw2]
      clear hw2
      go_upto_region 4 with (first | (guard_target =~ wpList _ _ _ ({ dst := _, op := Op.load 31 _, .. } :: _) _ _; refine wpList_load_mid rfl 31 (.tmp 1) rfl w.heap.size 0 rfl D _ cr Tryd.underlying31 rfl hz ?_; rw [HA.out]) | (go_at_call 33; refine C0.mono ?_; clear C0; rintro e w3 ⟨rfl, t3⟩))
      clear cr
      have cr := HR.out _ (t3.alloc (.cells #[bv 17] 5))
      have T3 := t2.then_no t3
      have C1 := HC.out.1 (w3.alloc (.cells #[bv 17] 5))
      go_upto_region 5 with (first | (guard_target =~ wpList _ _ _ ({ dst := _, op := Op.load 31 _, .. } :: _) _ _; refine wpList_load_mid rfl 31 (.tmp 1) rfl w.heap.size 0 rfl D _ cr Tryd.underlying31 rfl hz ?_; rw [HA.out]) | (go_at_call 34; refine C1.mono ?_; clear C1; rintro e w4 ⟨v4, rfl, F4⟩; obtain ⟨a4, l4, c4, rfl⟩ := F4.form; have o4 := mark_own F4; have hs4 := F4.own.bs.src (P := Tryd.prog) Tryd.underlying70) | (at_builtin; refine wpList_append_src rfl (.tmp 12) (.tmp 14) rfl Tryd.underlying70 Tryd.info5 rfl _ ([(17 : UInt8)].map bv) rfl o4 _ SB.length (SB.map bv) rfl hs4 (by simp; omega) (by simp [maxLen]; omega) ?_; intro v5 w5 o5 g5 _; obtain ⟨O5, T5'⟩ := mark_app t3 F4 o5 g5; have T5 := t2.then_no T5'; have R5 := Row.turn r2 T5' (fun q => q); obtain ⟨a5, l5, c5, rfl⟩ := o5.form; have C2 := HC.out.2 w5 _ T5 O5.bs; clear o5 g5 hs4) | (go_at_call 31; refine C2.mono ?_; clear C2; rintro e w6 ⟨rfl, t6⟩; have R6 := Row.turn R5 t6 (fun q => q)) | (guard_target =~ wpList _ _ _ ({ dst := _, op := Op.store 29 _ _, .. } :: _) _ _; refine wpList_store_any rfl 29 (.tmp 5) (.tmp 16) rfl w6.heap.size Y rfl rfl 29 Z (Row.new w6 Z 29) iX (by rw [hZ, sX]) oX ?_; intro w7 R7 t7))
      have tA : Turn (fun z => z = w6.heap.size) w6 w7 := ((Turn.refl _ w6).alloc _).trans t7 (fun _ _ q => q)
      have T7 : Turn no w w7 := (T5.then_no t6).trans tA (fun i hi q => by have := (T5.then_no t6).size; omega)
      have R8 : Row w7 (w.heap.size + 1) Z 29 := Row.turn R6 tA (fun q => by have := R6.lt; omega)
      generalize w6.heap.size = g6 at *
      clear tA t7 cr o4 hzv
      go_wp2_with (first | (guard_target =~ wpList _ _ _ ({ dst := _, op := Op.load 29 _, .. } :: _) _ _; refine wpList_load_row rfl 29 (.tmp 5) rfl g6 rfl 29 Y _ _ R7 Tryd.underlying29 rfl iX ?_) | (guard_target =~ wpList _ _ _ ({ dst := _, op := Op.build 29 _, .. } :: _) _ _; refine wpList_buildG (by kernel_rfl) 29 rfl _ (hbd.out _) ?_) | (guard_target =~ wpList _ _ _ ({ dst := _, op := Op.binOp BinOp.eql 29 _ _ _, .. } :: _) _ _; refine wpList_eqlG (by kernel_rfl) 29 29 (.tmp 17) (.tmp 18) rfl (.agg Y) (.agg Z) rfl rfl (.bool false) (guard29 _ _ _ _ _) (HEQ2.out _) ?_) | (guard_target =~ wpList _ _ _ ({ dst := _, op := Op.store 29 _ _, .. } :: _) _ _; refine wpList_store_row rfl 29 (.tmp 2) (.tmp 21) rfl (w.heap.size + 1) Y rfl rfl 29 Z R8 iX (by rw [hZ, sX]) oX ?_))
      refine bodyPost_ret (v := .tuple #[.agg Y, .int .i64 0]) ?_ rfl ⟨rfl, T7.setRow _ _ (fun q => by omega)⟩
      exact results_cell_row_tmp (P := Tryd.prog) Tryd.results9 _ _ (w.heap.size + 1) 29 Y (0, 0) _ rfl (setRow_heap _ _ _ _ _ _ R8) Tryd.underlying29 rfl iX
  · have n1 : (plainH x != 0) = true := by simpa using he
    have e2 : blockH x = z32 := if_neg he
    rw [e2]
    clear he e2 HR
    generalize plainH x = pv at *
    generalize x.cs = D at *
    generalize hb32 z32 = Z at *
    generalize hA : D.toArray = A at *
    have HA := shutX hA
    clear hA
    go_enter Tryd.func9, Tryd.ntmps9
    go_upto_region 1 with fail
    try rw [hw2]
    clear hw2 hzv
    go_wp2_with (first | (guard_target =~ wpList _ _ _ ({ dst := _, op := Op.load 31 _, .. } :: _) _ _; refine wpList_load_mid rfl 31 (.tmp 1) rfl w.heap.size 0 rfl D _ cr Tryd.underlying31 rfl hz ?_; rw [HA.out]) | (go_at_call 33; refine C0.mono ?_; clear C0; rintro e w3 ⟨rfl, t3⟩; have R3 := Row.turn r2 t3 (fun q => q)) | (guard_target =~ wpList _ _ _ ({ dst := _, op := Op.build 29 _, .. } :: _) _ _; refine wpList_buildG (by kernel_rfl) 29 rfl _ (hbd.out _) ?_) | (guard_target =~ wpList _ _ _ ({ dst := _, op := Op.store 29 _ _, .. } :: _) _ _; refine wpList_store_row rfl 29 (.tmp 2) (.tmp 10) rfl (w.heap.size + 1) Z rfl rfl 29 Z R3 iZ rfl oZ ?_))
    refine bodyPost_ret (v := .tuple #[.agg Z, .int .i64 pv]) ?_ rfl ⟨rfl, (t2.then_no t3).setRow _ _ (fun q => by omega)⟩
    exact results_cell_row_tmp (P := Tryd.prog) Tryd.results9 _ _ (w.heap.size + 1) 29 Z (0, 0) _ rfl (setRow_heap _ _ _ _ _ _ R3) Tryd.underlying29 rfl iZ
set_option maxRecDepth 100000 in
set_option maxHeartbeats 4000000 in
theorem rcertId10 (w : World) (hl : Laid0 w) (h2 : 3 ≤ w.heap.size) (h : Nat) (r : Int) (id : List UInt8) (hid : id.length = 32) (v : Value) (l : List Mk) (hv : Ks w v l) :
    Calls Tryd.prog 10 #[.agg (ctL h r id v).toArray] w fun e w' => e = .returned (.tuple #[.agg (hb32 (certH h r id l)), .int .i64 (plainC h r id l)]) ∧ Turn no w w' := by
  obtain ⟨a, cap, rfl, hK⟩ := hv
  have hZ := hb32_size z32_len
  have oZ := hb32_one z32
  have iZ := hb32_info z32_len
  have hzv := zero35v
  have hbd := shut bld35
  obtain ⟨w2, hw2⟩ : ∃ W, (w.alloc (.cells (ctL h r id (.slice a l.length cap)).toArray 34)).alloc (.cells (hb32 z32) 29) = W := ⟨_, rfl⟩
  have r1 : Row w2 w.heap.size (ctL h r id (.slice a l.length cap)).toArray 34 := by rw [← hw2]; exact (Row.new w _ 34).alloc _
  have r2 : Row w2 (w.heap.size + 1) (hb32 z32) 29 := by rw [← hw2]; exact Row.newAt _ _ 29 _ (by simp)
  have t2 : Turn no w w2 := by rw [← hw2]; exact ((Turn.refl no w).alloc _).alloc _
  have cr := Row.rangeZ r1
  have hz : (Tryd.prog.info? 34).map (·.size) = some (ctL h r id (.slice a l.length cap)).length := by rw [ctL_len h r id hid]; exact size30a
  have C0 := rplain25 w2 h r id hid _ l ⟨a, cap, rfl, hK.turn_no t2⟩
  have HR := shutX (fun W (t : Turn no w2 W) => (fun j u hu => t.keep (cr j u hu) (fun q => q) : W.rangeAt w.heap.size 0 (ctL h r id (.slice a l.length cap))))
  have N0 := fun W => rzero51 W h r id hid a l.length cap
  by_cases he : plainC h r id l = 0
  · cases hzb : zeroB h r id l.length with
    | true =>
      have e1 : certH h r id l = z32 := if_pos hzb
      rw [e1]
      rw [he] at C0 ⊢
      rw [hzb] at N0
      have HN := shutX N0
      clear hzb e1 hK he N0
      generalize ctL h r id (.slice a l.length cap) = D at *
      generalize hb32 z32 = Z at *
      generalize hA : D.toArray = A at *
      have HA := shutX hA
      clear hA
      go_enter Tryd.func10, Tryd.ntmps10
      go_upto_region 1 with fail
      try rw [hw2]
      clear hw2 hzv
      go_upto_region 4 with (first | (guard_target =~ wpList _ _ _ ({ dst := _, op := Op.load 34 _, .. } :: _) _ _; refine wpList_load_mid rfl 34 (.tmp 1) rfl w.heap.size 0 rfl D _ cr Tryd.underlying34 rfl hz ?_; rw [HA.out]) | (go_at_call 35; refine C0.mono ?_; clear C0; rintro e w3 ⟨rfl, t3⟩))
      clear cr
      have cr := HR.out _ t3
      have N1 := HN.out w3
      go_wp2_with (first | (guard_target =~ wpList _ _ _ ({ dst := _, op := Op.load 34 _, .. } :: _) _ _; refine wpList_load_mid rfl 34 (.tmp 1) rfl w.heap.size 0 rfl D _ cr Tryd.underlying34 rfl hz ?_; rw [HA.out]) | (go_at_call 36; refine N1.mono ?_; clear N1; rintro e w4 ⟨rfl, t4⟩; have R3 := Row.turn r2 (t3.then_no t4) (fun q => q)) | (guard_target =~ wpList _ _ _ ({ dst := _, op := Op.build 29 _, .. } :: _) _ _; refine wpList_buildG (by kernel_rfl) 29 rfl _ (hbd.out _) ?_) | (guard_target =~ wpList _ _ _ ({ dst := _, op := Op.store 29 _ _, .. } :: _) _ _; refine wpList_store_row rfl 29 (.tmp 2) (.tmp 13) rfl (w.heap.size + 1) Z rfl rfl 29 Z R3 iZ rfl oZ ?_))
      refine bodyPost_ret (v := .tuple #[.agg Z, .int .i64 0]) ?_ rfl ⟨rfl, ((t2.then_no t3).then_no t4).setRow _ _ (fun q => by omega)⟩
      exact results_cell_row_tmp (P := Tryd.prog) Tryd.results10 _ _ (w.heap.size + 1) 29 Z (0, 0) _ rfl (setRow_heap _ _ _ _ _ _ R3) Tryd.underlying29 rfl iZ
    | false =>
      obtain ⟨q1, q2, q3, q4, q5⟩ := plainC_some hzb he
      have e1 : certH h r id l = hashOf (18 :: ctB h r id l) := by
        unfold certH
        rw [hzb]
        have e : ctS h r id l = ctB h r id l := if_pos ⟨hzb, he⟩
        rw [e]
        unfold idH
        rw [if_pos he, leB_one]
        rfl
      rw [e1]
      rw [he] at C0 ⊢
      rw [hzb] at N0
      have sB : (ctB h r id l).length ≤ 10000 := by
        have := ctS_le (h := h) (r := r) hid hK.ok
        rwa [show ctS h r id l = ctB h r id l from if_pos ⟨hzb, he⟩] at this
      have C1 : ∀ W, Turn no w W → Calls Tryd.prog 37 #[.agg (ctL h r id (.slice a l.length cap)).toArray] W fun e w' => ∃ v, e = .returned v ∧ Fr W w' v (ctB h r id l) := fun W t => cert37 W h r id hid a cap l (hK.turn_no t) q1 q2 q3 q4 q5
      generalize ctB h r id l = SB at *
      have C2 : ∀ W va, Turn no w W → Bs W va (18 :: SB) → Calls Tryd.prog 31 #[va] W fun e w' => e = .returned (.agg (hb32 (hashOf (18 :: SB)))) ∧ Turn no W w' := fun W va t b => rsum_all W va _ b (hl.turn t (fun q => q)) (by have := t.size; omega) (by simp; omega)
      have HC := shutX (And.intro C1 C2)
      have hX := hashOf_len (18 :: SB)
      generalize hashOf (18 :: SB) = X at *
      have HN := shutX N0
      clear C1 C2 he e1 hK hzb q1 q2 q3 q4 q5 N0
      generalize ctL h r id (.slice a l.length cap) = D at *
      have sH := hb32_size hX
      have oH := hb32_one X
      have iH := hb32_info hX
      generalize hb32 X = H at *
      generalize hb32 z32 = Z at *
      generalize hA : D.toArray = A at *
      have HA := shutX hA
      clear hA
      go_enter Tryd.func10, Tryd.ntmps10
      go_upto_region 1 with fail
      try rw [hw2]
      clear hw2
      go_upto_region 4 with (first | (guard_target =~ wpList _ _ _ ({ dst := _, op := Op.load 34 _, .. } :: _) _ _; refine wpList_load_mid rfl 34 (.tmp 1) rfl w.heap.size 0 rfl D _ cr Tryd.underlying34 rfl hz ?_; rw [HA.out]) | (go_at_call 35; refine C0.mono ?_; clear C0; rintro e w3 ⟨rfl, t3⟩))
      clear cr
      have cr := HR.out _ t3
      have N1 := HN.out w3
      go_upto_region 6 with (first | (guard_target =~ wpList _ _ _ ({ dst := _, op := Op.load 34 _, .. } :: _) _ _; refine wpList_load_mid rfl 34 (.tmp 1) rfl w.heap.size 0 rfl D _ cr Tryd.underlying34 rfl hz ?_; rw [HA.out]) | (go_at_call 36; refine N1.mono ?_; clear N1; rintro e w3b ⟨rfl, t3b⟩))
      have t3 := t3.then_no t3b
      clear t3b cr
      generalize w3b = w3 at *
      have cr := HR.out _ (t3.alloc (.cells #[bv 18] 5))
      have T3 := t2.then_no t3
      have C1 := HC.out.1 (w3.alloc (.cells #[bv 18] 5)) (T3.alloc _)
      go_wp2_with (first | (guard_target =~ wpList _ _ _ ({ dst := _, op := Op.load 34 _, .. } :: _) _ _; refine wpList_load_mid rfl 34 (.tmp 1) rfl w.heap.size 0 rfl D _ cr Tryd.underlying34 rfl hz ?_; rw [HA.out]) | (go_at_call 37; refine C1.mono ?_; clear C1; rintro e w4 ⟨v4, rfl, F4⟩; obtain ⟨a4, l4, c4, rfl⟩ := F4.form; have o4 := mark_own F4; have hs4 := F4.own.bs.src (P := Tryd.prog) Tryd.underlying70) | (at_builtin; refine wpList_append_src rfl (.tmp 14) (.tmp 16) rfl Tryd.underlying70 Tryd.info5 rfl _ ([(18 : UInt8)].map bv) rfl o4 _ SB.length (SB.map bv) rfl hs4 (by simp; omega) (by simp [maxLen]; omega) ?_; intro v5 w5 o5 g5 _; obtain ⟨O5, T5'⟩ := mark_app t3 F4 o5 g5; have T5 := t2.then_no T5'; have R5 := Row.turn r2 T5' (fun q => q); obtain ⟨a5, l5, c5, rfl⟩ := o5.form; have C2 := HC.out.2 w5 _ T5 O5.bs; clear o5 g5 hs4) | (go_at_call 31; refine C2.mono ?_; clear C2; rintro e w6 ⟨rfl, t6⟩; have R6 := Row.turn R5 t6 (fun q => q)) | (guard_target =~ wpList _ _ _ ({ dst := _, op := Op.store 29 _ _, .. } :: _) _ _; refine wpList_store_row rfl 29 (.tmp 2) (.tmp 18) rfl (w.heap.size + 1) H rfl rfl 29 Z R6 iH (by rw [hZ, sH]) oH ?_))
      refine bodyPost_ret (v := .tuple #[.agg H, .int .i64 0]) ?_ rfl ⟨rfl, (T5.then_no t6).setRow _ _ (fun q => by omega)⟩
      exact results_cell_row_tmp (P := Tryd.prog) Tryd.results10 _ _ (w.heap.size + 1) 29 H (0, 0) _ rfl (setRow_heap _ _ _ _ _ _ R6) Tryd.underlying29 rfl iH
  · have n1 : (plainC h r id l != 0) = true := by simpa using he
    have hzb : zeroB h r id l.length = false := by
      cases q : zeroB h r id l.length with
      | false => rfl
      | true => exact absurd (plainC_zero q) he
    have e2 : certH h r id l = z32 := by
      unfold certH
      rw [hzb]
      exact if_neg he
    rw [e2]
    clear he e2 HR hK hzb N0
    generalize plainC h r id l = pv at *
    generalize ctL h r id (.slice a l.length cap) = D at *
    generalize hb32 z32 = Z at *
    generalize hA : D.toArray = A at *
    have HA := shutX hA
    clear hA
    go_enter Tryd.func10, Tryd.ntmps10
    go_upto_region 1 with fail
    try rw [hw2]
    clear hw2 hzv
    go_wp2_with (first | (guard_target =~ wpList _ _ _ ({ dst := _, op := Op.load 34 _, .. } :: _) _ _; refine wpList_load_mid rfl 34 (.tmp 1) rfl w.heap.size 0 rfl D _ cr Tryd.underlying34 rfl hz ?_; rw [HA.out]) | (go_at_call 35; refine C0.mono ?_; clear C0; rintro e w3 ⟨rfl, t3⟩; have R3 := Row.turn r2 t3 (fun q => q)) | (guard_target =~ wpList _ _ _ ({ dst := _, op := Op.build 29 _, .. } :: _) _ _; refine wpList_buildG (by kernel_rfl) 29 rfl _ (hbd.out _) ?_) | (guard_target =~ wpList _ _ _ ({ dst := _, op := Op.store 29 _ _, .. } :: _) _ _; refine wpList_store_row rfl 29 (.tmp 2) (.tmp 9) rfl (w.heap.size + 1) Z rfl rfl 29 Z R3 iZ rfl oZ ?_))
    refine bodyPost_ret (v := .tuple #[.agg Z, .int .i64 pv]) ?_ rfl ⟨rfl, (t2.then_no t3).setRow _ _ (fun q => by omega)⟩
    exact results_cell_row_tmp (P := Tryd.prog) Tryd.results10 _ _ (w.heap.size + 1) 29 Z (0, 0) _ rfl (setRow_heap _ _ _ _ _ _ R3) Tryd.underlying29 rfl iZ
end Go.Proofs.YtgimecdmleofeaaDoor
