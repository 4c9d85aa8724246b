/- The walk of WireIds. -/
import Derived.Test.YtgimecdmleofeaaDoorR9
namespace Go.Proofs.YtgimecdmleofeaaDoor
open Go.RowKit
set_option linter.unusedVariables false

section
variable {P : Program} {ops : Array Oper} {rest : List Oper} {op : Oper} {a : Act} {w : World} {Q : Exit → Act → World → Prop}
/-- A load of a whole block whose guard is on. -/
theorem wpList_load_rowG (hgd : Region.wanted op (yielded ops a.tmps) = true) (ty : TypeId) (x : Operand) (ho : op.op = .load ty x) (g : Nat) (hx : a.eval x = .pointer (some ⟨g, 0, none⟩)) (t : TypeId) (cs : Array Value) (fr : Nat × Nat) (d : TypeDesc) (hg : w.heap[g]? = some (.cells cs t fr))
    (hu : P.underlying ty = some d) (hd : d.isRow = true) (hi : (P.info? ty).map (·.size) = some cs.size)
    (h : wpList P ops Q rest (a.put op.dst (.agg cs)) w) : wpList P ops Q (op :: rest) a w := by
  have hc : w.rangeAt g 0 cs.toList := fun j v hv => by
    rw [Nat.zero_add, cell_of_row w g j cs t fr hg]
    simpa using hv
  have := wpList_load_midG (P := P) (ops := ops) (rest := rest) (Q := Q) hgd ty x ho g 0 hx cs.toList d hc hu hd (by simpa using hi) (by simpa using h)
  exact this
end
theorem num11 (w : World) (n : Int) : Calls Tryd.prog 11 #[.int .i64 n] w fun e w' => e = .returned (.int .i64 n) ∧ w = w' := by
  go_enter Tryd.func11, Tryd.ntmps11
  go_wp2_with fail
  go_ret
  exact ⟨rfl, rfl⟩
set_option maxRecDepth 100000 in
set_option maxHeartbeats 8000000 in
theorem ids3 (w : World) (l0 : Laid0 w) (l1 : Laid1 w) (h2 : 3 ≤ w.heap.size) (x : Tx) (hx : x.ok) (y : Hd) (hy : y.ok) (h : Nat) (r : Int) (id : List UInt8) (hid : id.length = 32) (v : Value) (l : List Mk) (hv : Ks w v l) :
    Calls Tryd.prog 3 #[.agg x.cs.toArray, .agg y.cs.toArray, .agg (ctL h r id v).toArray] w fun e w' => e = .returned (.bool true) ∧ Turn no w w' := by
  have hZ := hb32_size z32_len
  have hzv := zero35v
  obtain ⟨w3, hw3⟩ : ∃ W, ((w.alloc (.cells x.cs.toArray 27)).alloc (.cells y.cs.toArray 31)).alloc (.cells (ctL h r id v).toArray 34) = W := ⟨_, rfl⟩
  have r1 : Row w3 w.heap.size x.cs.toArray 27 := by rw [← hw3]; exact ((Row.new w _ 27).alloc _).alloc _
  have r2 : Row w3 (w.heap.size + 1) y.cs.toArray 31 := by rw [← hw3]; exact (Row.newAt _ _ 31 _ (by simp)).alloc _
  have r3 : Row w3 (w.heap.size + 2) (ctL h r id v).toArray 34 := by rw [← hw3]; exact Row.newAt _ _ 34 _ (by simp)
  have t3 : Turn no w w3 := by rw [← hw3]; exact (((Turn.refl no w).alloc _).alloc _).alloc _
  have zx : (Tryd.prog.info? 27).map (·.size) = some x.cs.length := by rw [x.len hx]; exact size27
  have zy := y.info hy
  have zc : (Tryd.prog.info? 34).map (·.size) = some (ctL h r id v).length := by rw [ctL_len h r id hid]; exact size30a
  have LL : ∀ W, Turn no w W → Laid0 W ∧ Laid1 W ∧ 3 ≤ W.heap.size ∧ Ks W v l := fun W t => ⟨l0.turn t (fun q => q), l1.turn t (fun q => q), by have := t.size; omega, hv.turn_no t⟩
  have C5 := fun W (t : Turn no w W) => txId5 W (LL W t).2.1 (LL W t).2.2.1 x hx
  have C6 := fun W (t : Turn no w W) => blockId6 W (LL W t).2.1 (LL W t).2.2.1 y hy
  have C7 := fun W (t : Turn no w W) => certId7 W (LL W t).2.1 (LL W t).2.2.1 h r id hid v l (LL W t).2.2.2
  have C8 := fun W (t : Turn no w W) => rtxId8 W (LL W t).1 (LL W t).2.2.1 x hx
  have C9 := fun W (t : Turn no w W) => rblockId9 W (LL W t).1 (LL W t).2.2.1 y hy
  have C10 := fun W (t : Turn no w W) => rcertId10 W (LL W t).1 (LL W t).2.2.1 h r id hid v l (LL W t).2.2.2
  have X1 := idH_len (plainT x) (leB 16 1 ++ (txB x ++ x.se))
  have X2 := blockH_len y
  have X3 := certH_len h r id l
  have HR := shutX (fun W (t : Turn no w3 W) => And.intro (fun j u hu => t.keep (Row.rangeZ r1 j u hu) (fun q => q) : W.rangeAt w.heap.size 0 x.cs) (And.intro (fun j u hu => t.keep (Row.rangeZ r2 j u hu) (fun q => q) : W.rangeAt (w.heap.size + 1) 0 y.cs) (fun j u hu => t.keep (Row.rangeZ r3 j u hu) (fun q => q) : W.rangeAt (w.heap.size + 2) 0 (ctL h r id v))))
  generalize idH (plainT x) (leB 16 1 ++ (txB x ++ x.se)) = H1 at *
  generalize blockH y = H2 at *
  generalize certH h r id l = H3 at *
  generalize plainT x = p1 at *
  generalize plainH y = p2 at *
  generalize plainC h r id l = p3 at *
  generalize x.cs = D1 at *
  generalize y.cs = D2 at *
  generalize ctL h r id v = D3 at *
  have HC := shutX (And.intro C5 (And.intro C6 (And.intro C7 (And.intro C8 (And.intro C9 C10)))))
  clear C5 C6 C7 C8 C9 C10 LL r1 r2 r3 l0 l1 hv hid hx hy h2
  have s1 := hb32_size X1
  have o1 := hb32_one H1
  have i1 := hb32_info X1
  have j1 : (Tryd.prog.info? 29).map (·.size) = some (H1.map bv).length := by rw [List.length_map, X1]; exact size35
  have HE1 := shutX (fun W => eql24 W H1 H1 X1 X1)
  have s2 := hb32_size X2
  have o2 := hb32_one H2
  have i2 := hb32_info X2
  have j2 : (Tryd.prog.info? 29).map (·.size) = some (H2.map bv).length := by rw [List.length_map, X2]; exact size35
  have HE2 := shutX (fun W => eql24 W H2 H2 X2 X2)
  have s3 := hb32_size X3
  have o3 := hb32_one H3
  have i3 := hb32_info X3
  have j3 : (Tryd.prog.info? 29).map (·.size) = some (H3.map bv).length := by rw [List.length_map, X3]; exact size35
  have HE3 := shutX (fun W => eql24 W H3 H3 X3 X3)
  have HE : Shut ((∀ W, (binOp .eql 29 (.agg (hb32 H1)) (.agg (hb32 H1))).run Tryd.prog W = .ok (.bool true) W) ∧ (∀ W, (binOp .eql 29 (.agg (hb32 H2)) (.agg (hb32 H2))).run Tryd.prog W = .ok (.bool true) W) ∧ (∀ W, (binOp .eql 29 (.agg (hb32 H3)) (.agg (hb32 H3))).run Tryd.prog W = .ok (.bool true) W)) :=
    ⟨⟨fun W => by have := HE1.out W; rwa [show (H1 == H1) = true by simp] at this, fun W => by have := HE2.out W; rwa [show (H2 == H2) = true by simp] at this, fun W => by have := HE3.out W; rwa [show (H3 == H3) = true by simp] at this⟩⟩
  clear HE1 HE2 HE3 X1 X2 X3 j1 j2 j3
  generalize hb32 H1 = A1 at *
  generalize hb32 H2 = A2 at *
  generalize hb32 H3 = A3 at *
  generalize hb32 z32 = Z at *
  generalize hB1 : D1.toArray = B1 at *
  have HB1 := shutX hB1
  clear hB1
  generalize hB2 : D2.toArray = B2 at *
  have HB2 := shutX hB2
  clear hB2
  generalize hB3 : D3.toArray = B3 at *
  have HB3 := shutX hB3
  clear hB3
  go_enter Tryd.func3, Tryd.ntmps3
  go_upto_region 1 with fail
  try rw [hw3]
  clear hw3
  have T0 : Turn no w3 w3 := Turn.refl _ _
  have cr1 := (HR.out w3 T0).1
  have K1 := HC.out.1 w3 (t3.then_no T0)
  go_upto_region 2 with (first | (guard_target =~ wpList _ _ _ ({ dst := _, op := Op.load 27 _, .. } :: _) _ _; refine wpList_load_mid rfl 27 (.tmp 3) rfl w.heap.size 0 rfl D1 _ cr1 Tryd.underlying27 rfl zx ?_; rw [HB1.out]) | (go_at_call 5; refine K1.mono ?_; clear K1; rintro e v1 ⟨rfl, tv1⟩) | (guard_target =~ wpList _ _ _ ({ dst := _, op := Op.store 29 _ _, .. } :: _) _ _; refine wpList_store_any rfl 29 (.tmp 7) (.tmp 22) rfl v1.heap.size A1 rfl rfl 29 Z (Row.new v1 Z 29) i1 (by rw [hZ, s1]) o1 ?_; intro u1 R1 tu1))
  have tA1 : Turn (fun z => z = v1.heap.size) v1 u1 := ((Turn.refl _ v1).alloc _).trans tu1 (fun _ _ q => q)
  have T1 : Turn no w3 u1 := (T0.then_no tv1).trans tA1 (fun i hi q => by have := (T0.then_no tv1).size; omega)
  generalize v1.heap.size = g1 at *
  clear tA1 tu1 tv1 cr1 T0
  have cr2 := (HR.out u1 T1).2.1
  have K2 := HC.out.2.1 u1 (t3.then_no T1)
  go_upto_region 3 with (first | (guard_target =~ wpList _ _ _ ({ dst := _, op := Op.load 31 _, .. } :: _) _ _; refine wpList_load_mid rfl 31 (.tmp 4) rfl (w.heap.size + 1) 0 rfl D2 _ cr2 Tryd.underlying31 rfl zy ?_; rw [HB2.out]) | (go_at_call 6; refine K2.mono ?_; clear K2; rintro e v2 ⟨rfl, tv2⟩) | (guard_target =~ wpList _ _ _ ({ dst := _, op := Op.store 29 _ _, .. } :: _) _ _; refine wpList_store_any rfl 29 (.tmp 9) (.tmp 27) rfl v2.heap.size A2 rfl rfl 29 Z (Row.new v2 Z 29) i2 (by rw [hZ, s2]) o2 ?_; intro u2 R2 tu2))
  have tA2 : Turn (fun z => z = v2.heap.size) v2 u2 := ((Turn.refl _ v2).alloc _).trans tu2 (fun _ _ q => q)
  have T2 : Turn no w3 u2 := (T1.then_no tv2).trans tA2 (fun i hi q => by have := (T1.then_no tv2).size; omega)
  have R1 := Row.turn (Row.turn R1 tv2 (fun q => q)) tA2 (fun q => by have := (Row.turn R1 tv2 (fun q => q)).lt; omega)
  generalize v2.heap.size = g2 at *
  clear tA2 tu2 tv2 cr2 T1
  have cr3 := (HR.out u2 T2).2.2
  have K3 := HC.out.2.2.1 u2 (t3.then_no T2)
  go_upto_region 4 with (first | (guard_target =~ wpList _ _ _ ({ dst := _, op := Op.load 34 _, .. } :: _) _ _; refine wpList_load_mid rfl 34 (.tmp 5) rfl (w.heap.size + 2) 0 rfl D3 _ cr3 Tryd.underlying34 rfl zc ?_; rw [HB3.out]) | (go_at_call 7; refine K3.mono ?_; clear K3; rintro e v3 ⟨rfl, tv3⟩) | (guard_target =~ wpList _ _ _ ({ dst := _, op := Op.store 29 _ _, .. } :: _) _ _; refine wpList_store_any rfl 29 (.tmp 11) (.tmp 32) rfl v3.heap.size A3 rfl rfl 29 Z (Row.new v3 Z 29) i3 (by rw [hZ, s3]) o3 ?_; intro u3 R3 tu3))
  have tA3 : Turn (fun z => z = v3.heap.size) v3 u3 := ((Turn.refl _ v3).alloc _).trans tu3 (fun _ _ q => q)
  have T3 : Turn no w3 u3 := (T2.then_no tv3).trans tA3 (fun i hi q => by have := (T2.then_no tv3).size; omega)
  have R1 := Row.turn (Row.turn R1 tv3 (fun q => q)) tA3 (fun q => by have := (Row.turn R1 tv3 (fun q => q)).lt; omega)
  have R2 := Row.turn (Row.turn R2 tv3 (fun q => q)) tA3 (fun q => by have := (Row.turn R2 tv3 (fun q => q)).lt; omega)
  generalize v3.heap.size = g3 at *
  clear tA3 tu3 tv3 cr3 T2
  have cr4 := (HR.out u3 T3).1
  have K4 := HC.out.2.2.2.1 u3 (t3.then_no T3)
  go_upto_region 5 with (first | (guard_target =~ wpList _ _ _ ({ dst := _, op := Op.load 27 _, .. } :: _) _ _; refine wpList_load_mid rfl 27 (.tmp 3) rfl w.heap.size 0 rfl D1 _ cr4 Tryd.underlying27 rfl zx ?_; rw [HB1.out]) | (go_at_call 8; refine K4.mono ?_; clear K4; rintro e v4 ⟨rfl, tv4⟩) | (guard_target =~ wpList _ _ _ ({ dst := _, op := Op.store 29 _ _, .. } :: _) _ _; refine wpList_store_any rfl 29 (.tmp 13) (.tmp 37) rfl v4.heap.size A1 rfl rfl 29 Z (Row.new v4 Z 29) i1 (by rw [hZ, s1]) o1 ?_; intro u4 R4 tu4))
  have tA4 : Turn (fun z => z = v4.heap.size) v4 u4 := ((Turn.refl _ v4).alloc _).trans tu4 (fun _ _ q => q)
  have T4 : Turn no w3 u4 := (T3.then_no tv4).trans tA4 (fun i hi q => by have := (T3.then_no tv4).size; omega)
  have R1 := Row.turn (Row.turn R1 tv4 (fun q => q)) tA4 (fun q => by have := (Row.turn R1 tv4 (fun q => q)).lt; omega)
  have R2 := Row.turn (Row.turn R2 tv4 (fun q => q)) tA4 (fun q => by have := (Row.turn R2 tv4 (fun q => q)).lt; omega)
  have R3 := Row.turn (Row.turn R3 tv4 (fun q => q)) tA4 (fun q => by have := (Row.turn R3 tv4 (fun q => q)).lt; omega)
  generalize v4.heap.size = g4 at *
  clear tA4 tu4 tv4 cr4 T3
  have cr5 := (HR.out u4 T4).2.1
  have K5 := HC.out.2.2.2.2.1 u4 (t3.then_no T4)
  go_upto_region 6 with (first | (guard_target =~ wpList _ _ _ ({ dst := _, op := Op.load 31 _, .. } :: _) _ _; refine wpList_load_mid rfl 31 (.tmp 4) rfl (w.heap.size + 1) 0 rfl D2 _ cr5 Tryd.underlying31 rfl zy ?_; rw [HB2.out]) | (go_at_call 9; refine K5.mono ?_; clear K5; rintro e v5 ⟨rfl, tv5⟩) | (guard_target =~ wpList _ _ _ ({ dst := _, op := Op.store 29 _ _, .. } :: _) _ _; refine wpList_store_any rfl 29 (.tmp 15) (.tmp 42) rfl v5.heap.size A2 rfl rfl 29 Z (Row.new v5 Z 29) i2 (by rw [hZ, s2]) o2 ?_; intro u5 R5 tu5))
  have tA5 : Turn (fun z => z = v5.heap.size) v5 u5 := ((Turn.refl _ v5).alloc _).trans tu5 (fun _ _ q => q)
  have T5 : Turn no w3 u5 := (T4.then_no tv5).trans tA5 (fun i hi q => by have := (T4.then_no tv5).size; omega)
  have R1 := Row.turn (Row.turn R1 tv5 (fun q => q)) tA5 (fun q => by have := (Row.turn R1 tv5 (fun q => q)).lt; omega)
  have R2 := Row.turn (Row.turn R2 tv5 (fun q => q)) tA5 (fun q => by have := (Row.turn R2 tv5 (fun q => q)).lt; omega)
  have R3 := Row.turn (Row.turn R3 tv5 (fun q => q)) tA5 (fun q => by have := (Row.turn R3 tv5 (fun q => q)).lt; omega)
  have R4 := Row.turn (Row.turn R4 tv5 (fun q => q)) tA5 (fun q => by have := (Row.turn R4 tv5 (fun q => q)).lt; omega)
  generalize v5.heap.size = g5 at *
  clear tA5 tu5 tv5 cr5 T4
  have cr6 := (HR.out u5 T5).2.2
  have K6 := HC.out.2.2.2.2.2 u5 (t3.then_no T5)
  go_upto_region 7 with (first | (guard_target =~ wpList _ _ _ ({ dst := _, op := Op.load 34 _, .. } :: _) _ _; refine wpList_load_mid rfl 34 (.tmp 5) rfl (w.heap.size + 2) 0 rfl D3 _ cr6 Tryd.underlying34 rfl zc ?_; rw [HB3.out]) | (go_at_call 10; refine K6.mono ?_; clear K6; rintro e v6 ⟨rfl, tv6⟩) | (guard_target =~ wpList _ _ _ ({ dst := _, op := Op.store 29 _ _, .. } :: _) _ _; refine wpList_store_any rfl 29 (.tmp 17) (.tmp 47) rfl v6.heap.size A3 rfl rfl 29 Z (Row.new v6 Z 29) i3 (by rw [hZ, s3]) o3 ?_; intro u6 R6 tu6))
  have tA6 : Turn (fun z => z = v6.heap.size) v6 u6 := ((Turn.refl _ v6).alloc _).trans tu6 (fun _ _ q => q)
  have T6 : Turn no w3 u6 := (T5.then_no tv6).trans tA6 (fun i hi q => by have := (T5.then_no tv6).size; omega)
  have R1 := Row.turn (Row.turn R1 tv6 (fun q => q)) tA6 (fun q => by have := (Row.turn R1 tv6 (fun q => q)).lt; omega)
  have R2 := Row.turn (Row.turn R2 tv6 (fun q => q)) tA6 (fun q => by have := (Row.turn R2 tv6 (fun q => q)).lt; omega)
  have R3 := Row.turn (Row.turn R3 tv6 (fun q => q)) tA6 (fun q => by have := (Row.turn R3 tv6 (fun q => q)).lt; omega)
  have R4 := Row.turn (Row.turn R4 tv6 (fun q => q)) tA6 (fun q => by have := (Row.turn R4 tv6 (fun q => q)).lt; omega)
  have R5 := Row.turn (Row.turn R5 tv6 (fun q => q)) tA6 (fun q => by have := (Row.turn R5 tv6 (fun q => q)).lt; omega)
  generalize v6.heap.size = g6 at *
  clear tA6 tu6 tv6 cr6 T5
  clear hzv
  go_wp2_with (first | (guard_target =~ wpList _ _ _ ({ dst := _, op := Op.load 29 (Operand.tmp 7), .. } :: _) _ _; refine wpList_load_rowG (by kernel_rfl) 29 (.tmp 7) rfl g1 rfl 29 A1 _ _ R1 Tryd.underlying29 rfl i1 ?_) | (guard_target =~ wpList _ _ _ ({ dst := _, op := Op.load 29 (Operand.tmp 13), .. } :: _) _ _; refine wpList_load_rowG (by kernel_rfl) 29 (.tmp 13) rfl g4 rfl 29 A1 _ _ R4 Tryd.underlying29 rfl i1 ?_) | (guard_target =~ wpList _ _ _ ({ dst := _, op := Op.binOp BinOp.eql 29 (Operand.tmp 49) _ _, .. } :: _) _ _; refine wpList_eqlG (by kernel_rfl) 29 29 (.tmp 49) (.tmp 50) rfl (.agg A1) (.agg A1) rfl rfl (.bool true) (guard29 _ _ _ _ _) (HE.out.1 _) ?_) | (guard_target =~ wpList _ _ _ ({ dst := _, op := Op.load 29 (Operand.tmp 9), .. } :: _) _ _; refine wpList_load_rowG (by kernel_rfl) 29 (.tmp 9) rfl g2 rfl 29 A2 _ _ R2 Tryd.underlying29 rfl i2 ?_) | (guard_target =~ wpList _ _ _ ({ dst := _, op := Op.load 29 (Operand.tmp 15), .. } :: _) _ _; refine wpList_load_rowG (by kernel_rfl) 29 (.tmp 15) rfl g5 rfl 29 A2 _ _ R5 Tryd.underlying29 rfl i2 ?_) | (guard_target =~ wpList _ _ _ ({ dst := _, op := Op.binOp BinOp.eql 29 (Operand.tmp 53) _ _, .. } :: _) _ _; refine wpList_eqlG (by kernel_rfl) 29 29 (.tmp 53) (.tmp 54) rfl (.agg A2) (.agg A2) rfl rfl (.bool true) (guard29 _ _ _ _ _) (HE.out.2.1 _) ?_) | (guard_target =~ wpList _ _ _ ({ dst := _, op := Op.load 29 (Operand.tmp 11), .. } :: _) _ _; refine wpList_load_rowG (by kernel_rfl) 29 (.tmp 11) rfl g3 rfl 29 A3 _ _ R3 Tryd.underlying29 rfl i3 ?_) | (guard_target =~ wpList _ _ _ ({ dst := _, op := Op.load 29 (Operand.tmp 17), .. } :: _) _ _; refine wpList_load_rowG (by kernel_rfl) 29 (.tmp 17) rfl g6 rfl 29 A3 _ _ R6 Tryd.underlying29 rfl i3 ?_) | (guard_target =~ wpList _ _ _ ({ dst := _, op := Op.binOp BinOp.eql 29 (Operand.tmp 58) _ _, .. } :: _) _ _; refine wpList_eqlG (by kernel_rfl) 29 29 (.tmp 58) (.tmp 59) rfl (.agg A3) (.agg A3) rfl rfl (.bool true) (guard29 _ _ _ _ _) (HE.out.2.2 _) ?_) | (go_at_call 11; refine (num11 _ _).mono ?_; rintro e w' ⟨rfl, rfl⟩))
  go_ret
  exact ⟨rfl, t3.then_no T6⟩
end Go.Proofs.YtgimecdmleofeaaDoor
