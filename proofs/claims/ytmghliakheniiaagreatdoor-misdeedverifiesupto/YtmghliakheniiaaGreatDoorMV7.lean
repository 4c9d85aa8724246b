/- Evidence held against itself; New, Len; alive. -/
import Derived.Test.YtmghliakheniiaaGreatDoorMV5
import Derived.LaidMore
namespace Go.Proofs.YtmghliakheniiaaGreatDoor
open Go.RowKit
set_option linter.unusedVariables false

theorem eqFields_self (w : World) (d : Nat) (xs : Array Value) : ∀ fs : List Field, (∀ f ∈ fs, ∃ v, (part f.type xs f.offset).run Tryz.prog w = .ok v w ∧ (Op.equalIn d f.type v v).run Tryz.prog w = .ok true w) → (Op.eqFields d xs xs fs).run Tryz.prog w = .ok true w
  | [], _ => by simp [Op.eqFields]
  | f :: fs, h => by
    obtain ⟨v, h1, h2⟩ := h f (by simp)
    have ih := eqFields_self w d xs fs (fun g hg => h g (by simp [hg]))
    simp only [Op.eqFields, Sem.run_bind, Sem.run_ite]
    split
    · simp only [h1, h2, Result.andThen_ok, Bool.not_true, Bool.false_eq_true, if_false]
      exact ih
    · exact ih
theorem fields29 : (Tryz.prog.fieldsOf 43).toList.map (fun f => (f.type, f.offset)) = [(3, 0), (22, 1), (3, 2), (26, 3), (22, 35), (39, 36), (41, 37)] := by kernel_rfl
theorem fields32 : (Tryz.prog.fieldsOf 52).toList.map (fun f => (f.type, f.offset)) = [(43, 0), (43, 53)] := by kernel_rfl
theorem Vt.x24 {v : Vt} (h : v.ok) : v.cs.toArray.extract 3 35 = (v.id.map bv).toArray := by
  apply Array.ext'
  simp only [Array.toList_extract, Vt.cs, List.extract_eq_take_drop]
  simp [h.1]
theorem Vt.x27 {v : Vt} (h : v.ok) : v.cs.toArray.extract 37 53 = (v.se.map bv).toArray := by
  apply Array.ext'
  simp only [Array.toList_extract, Vt.cs, List.extract_eq_take_drop]
  simp [List.drop_append, h.1]
  rw [List.drop_eq_nil_of_le (by simp [h.1]), List.nil_append]
  exact List.take_of_length_le (by simp [h.2])
theorem cell_part {t : TypeId} (w : World) {xs : Array Value} {o : Nat} {v : Value} (ha : (isAgg t).run Tryz.prog w = .ok false w) (h : xs[o]? = some v) : (part t xs o).run Tryz.prog w = .ok v w := by
  simp [part, ha, h]
theorem agg_part {t : TypeId} (w : World) {xs ys : Array Value} {o n : Nat} (ha : (isAgg t).run Tryz.prog w = .ok true w) (hs : (Tryz.prog.info? t).map (·.size) = some n) (h : xs.extract o (o + n) = ys) : (part t xs o).run Tryz.prog w = .ok (.agg ys) w := by
  cases hq : Tryz.prog.info? t with
  | none => simp [hq] at hs
  | some i =>
    have hi : i.size = n := by simpa [hq] using hs
    simp [part, ha, sizeOf, typeInfo, hq, hi, h]
theorem mqsize27 : (Tryz.prog.info? 41).map (·.size) = some 16 := by kernel_rfl
theorem eq29 (w : World) (d : Nat) (v : Vt) (h : v.ok) : (Op.equalIn (d + 3) 43 (.agg v.cs.toArray) (.agg v.cs.toArray)).run Tryz.prog w = .ok true w := by
  rw [run_equalIn_struct w (d + 2) 43 _ _ (by kernel_rfl) (by kernel_rfl)]
  refine eqFields_self w (d + 2) _ _ (fun f hf => ?_)
  have hm : (f.type, f.offset) ∈ [(3, 0), (22, 1), (3, 2), (26, 3), (22, 35), (39, 36), (41, 37)] := by
    rw [← fields29]
    exact List.mem_map.2 ⟨f, hf, rfl⟩
  generalize f.type = t at *
  generalize f.offset = o at *
  simp only [List.mem_cons, Prod.mk.injEq, List.not_mem_nil, or_false] at hm
  rcases hm with ⟨rfl, rfl⟩ | ⟨rfl, rfl⟩ | ⟨rfl, rfl⟩ | ⟨rfl, rfl⟩ | ⟨rfl, rfl⟩ | ⟨rfl, rfl⟩ | ⟨rfl, rfl⟩
  · exact ⟨_, cell_part w (by kernel_rfl) v.c0, by rw [run_equalIn_int w (d + 1) 3 .i64 .i64 _ _ Tryz.underlying3]; simp⟩
  · exact ⟨_, cell_part w (by kernel_rfl) v.c1, by rw [run_equalIn_int w (d + 1) 22 .u64 .u64 _ _ Tryz.underlying22]; simp⟩
  · exact ⟨_, cell_part w (by kernel_rfl) v.c2, by rw [run_equalIn_int w (d + 1) 3 .i64 .i64 _ _ Tryz.underlying3]; simp⟩
  · exact ⟨_, agg_part w (by kernel_rfl) qsize24 (Vt.x24 h), by rw [eqIn24 w d _ _ h.1 h.1]; simp⟩
  · exact ⟨_, cell_part w (by kernel_rfl) (Vt.c35 h), by rw [run_equalIn_int w (d + 1) 22 .u64 .u64 _ _ Tryz.underlying22]; simp⟩
  · exact ⟨_, cell_part w (by kernel_rfl) (Vt.c36 h), by rw [run_equalIn_int w (d + 1) 39 .u64 .u64 _ _ Tryz.underlying39]; simp⟩
  · exact ⟨_, agg_part w (by kernel_rfl) mqsize27 (Vt.x27 h), by rw [eqIn27 w d _ _ h.2 h.2]; simp⟩
theorem evC_a {a b : Vt} (ha : a.ok) (hb : b.ok) : (evC a b).extract 0 53 = a.cs.toArray := by
  apply Array.ext'
  simp [evC, a.len ha]
theorem evC_b {a b : Vt} (ha : a.ok) (hb : b.ok) : (evC a b).extract 53 106 = b.cs.toArray := by
  apply Array.ext'
  simp [evC, a.len ha]
  exact List.take_of_length_le (by rw [b.len hb]; omega)
theorem eq32 (w : World) (a b : Vt) (ha : a.ok) (hb : b.ok) : (Op.equalIn 10000 52 (.agg (evC a b)) (.agg (evC a b))).run Tryz.prog w = .ok true w := by
  rw [run_equalIn_struct w 9999 52 _ _ (by kernel_rfl) (by kernel_rfl)]
  refine eqFields_self w 9999 _ _ (fun f hf => ?_)
  have hm : (f.type, f.offset) ∈ [(43, 0), (43, 53)] := by
    rw [← fields32]
    exact List.mem_map.2 ⟨f, hf, rfl⟩
  generalize f.type = t at *
  generalize f.offset = o at *
  simp only [List.mem_cons, Prod.mk.injEq, List.not_mem_nil, or_false] at hm
  rcases hm with ⟨rfl, rfl⟩ | ⟨rfl, rfl⟩
  · exact ⟨_, agg_part w (by kernel_rfl) qsize29 (evC_a ha hb), eq29 w 9996 a ha⟩
  · exact ⟨_, agg_part w (by kernel_rfl) qsize29 (evC_b ha hb), eq29 w 9996 b hb⟩
theorem pair_eq (w : World) (a b : Vt) (ha : a.ok) (hb : b.ok) : (Op.equalIn 10000 52 (.agg (pairC a b)) (.agg (pairC a b))).run Tryz.prog w = .ok true w := by
  unfold pairC
  split
  · exact eq32 w _ _ zvt_ok zvt_ok
  · split
    · exact eq32 w _ _ hb ha
    · exact eq32 w _ _ ha hb
theorem eql37_same (a : Addr) (w : World) : (binOp .eql 83 (.pointer (some a)) (.pointer (some a))).run Tryz.prog w = .ok (.bool true) w := by
  obtain ⟨j, hj⟩ := Option.isSome_iff_exists.1 (show (Tryz.prog.info? 125).isSome = true by kernel_rfl)
  exact run_eql_ptr_same w a Tryz.underlying83 hj
theorem made14 (w : World) (p : Nat) (h0 : w.cell? ⟨p, 0, none⟩ = some (.pointer (some ⟨p, 0, none⟩))) : Calls Tryz.prog 44 #[.pointer (some ⟨p, 0, none⟩)] w fun e w' => e = .returned (.bool true) ∧ w' = w := by
  have e1 := fun a w => eql37_same a w
  go_enter Tryz.func44, Tryz.ntmps44
  go_wp2_with fail
  go_ret
  exact ⟨rfl, rfl⟩
theorem new7 (w : World) : Calls Tryz.prog 12 #[] w fun e w' => ∃ p m, e = .returned (.pointer (some ⟨p, 0, none⟩)) ∧ w'.cell? ⟨p, 0, none⟩ = some (.pointer (some ⟨p, 0, none⟩)) ∧ w'.cell? ⟨p, 1, none⟩ = some (.map (some m)) ∧ w'.heap[m]? = some (.map #[] 0) ∧ Turn no w w' := by
  have m1 := fun W => run_makeMap (P := Tryz.prog) 123 W
  go_enter Tryz.func12, Tryz.ntmps12
  go_wp2_with fail
  go_ret
  refine ⟨w.heap.size + 1, w.heap.size, rfl, ?_, ?_, ?_, ?_⟩
  · simp
  · simp
  · exact heap_alloc2_old w _ _
  · exact ((Turn.refl no w).alloc _).alloc _
set_option maxRecDepth 100000 in
theorem len8 (w : World) (p m : Nat) (h0 : w.cell? ⟨p, 0, none⟩ = some (.pointer (some ⟨p, 0, none⟩))) (h1 : w.cell? ⟨p, 1, none⟩ = some (.map (some m))) (hm : w.heap[m]? = some (.map #[] 0)) : Calls Tryz.prog 13 #[.pointer (some ⟨p, 0, none⟩)] w fun e w' => e = .returned (.int .i64 0) ∧ w = w' := by
  have hl : (Builtin.len_ #[123] 3 #[.map (some m)]).run Tryz.prog w = .ok (.int .i64 0) w := by
    simp [Builtin.len_, run_underlying Tryz.underlying123, MapKept.run_getObj_map hm, goInt]
  go_enter Tryz.func13, Tryz.ntmps13
  go_wp2_with fail
  refine (made14 w p h0).mono ?_
  rintro e w' ⟨rfl, rfl⟩
  go_wp2_with fail
  go_ret
  exact ⟨rfl, rfl⟩
section
variable {P : Program} {ops : Array Oper} {rest : List Oper} {o : Oper} {a : Act} {w : World} {Q : Exit → Act → World → Prop}
theorem wpList_build1 (hg : o.guard = none) (t : TypeId) (i0 : Nat) (x0 : Operand) (ho : o.op = .build t #[(i0, x0)]) (v0 : Value) (h0 : a.eval x0 = v0) (cells : Array Value)
    (hf : P.built t [(i0, v0)] = some cells) (h : wpList P ops Q rest (a.put o.dst (.agg cells)) w) : wpList P ops Q (o :: rest) a w := by
  have e : (#[(i0, x0)].map fun (i, x) => (i, a.eval x)).toList = [(i0, v0)] := by simp [h0]
  exact wpList_build hg t _ ho (by rw [e, hf]; rfl) (by rw [e, hf]; exact h)
theorem wpList_build4 (hg : o.guard = none) (t : TypeId) (i0 i1 i2 i3 : Nat) (x0 x1 x2 x3 : Operand) (ho : o.op = .build t #[(i0, x0), (i1, x1), (i2, x2), (i3, x3)]) (v0 v1 v2 v3 : Value) (h0 : a.eval x0 = v0) (h1 : a.eval x1 = v1) (h2 : a.eval x2 = v2) (h3 : a.eval x3 = v3) (cells : Array Value)
    (hf : P.built t [(i0, v0), (i1, v1), (i2, v2), (i3, v3)] = some cells) (h : wpList P ops Q rest (a.put o.dst (.agg cells)) w) : wpList P ops Q (o :: rest) a w := by
  have e : (#[(i0, x0), (i1, x1), (i2, x2), (i3, x3)].map fun (i, x) => (i, a.eval x)).toList = [(i0, v0), (i1, v1), (i2, v2), (i3, v3)] := by simp [h0, h1, h2, h3]
  exact wpList_build hg t _ ho (by rw [e, hf]; rfl) (by rw [e, hf]; exact h)
end
def idA (n : UInt8) : List UInt8 := n :: List.replicate 31 0
/-- The two votes of alive. -/
def vtA (n : UInt8) : Vt := ⟨1, 5, 0, idA n, 0, 3, List.replicate 16 0⟩
theorem vtA_ok (n : UInt8) : (vtA n).ok := ⟨rfl, rfl⟩
theorem b24 (n : UInt8) : Tryz.prog.built 26 [(0, .int .u8 n.toNat)] = some ((idA n).map bv).toArray := by kernel_rfl
theorem b29 (n : UInt8) : Tryz.prog.built 43 [(0, .int .i64 1), (1, .int .u64 5), (5, .int .u64 3), (3, .agg ((idA n).map bv).toArray)] = some (vtA n).cs.toArray := by kernel_rfl
theorem alive_pair : pairE (vtA 2) (vtA 1) = 0 ∧ pairC (vtA 2) (vtA 1) = evC (vtA 1) (vtA 2) := by
  have h : pairE (vtA 2) (vtA 1) = 0 := by decide
  have hl : ltB (vtA 1).id (vtA 2).id = true := by decide
  refine ⟨h, ?_⟩
  unfold pairC
  rw [h, hl]
  rfl

set_option maxRecDepth 100000 in
set_option maxHeartbeats 4000000 in
theorem alive4 (w : World) : Calls Tryz.prog 4 #[] w fun e w' => e = .returned (.bool true) ∧ Turn no w w' := by
  have h2a := b24 2
  have h2b := b29 2
  have h1a := b24 1
  have h1b := b29 1
  have hsA := (vtA 2).size (vtA_ok 2)
  have hsB := (vtA 1).size (vtA_ok 1)
  have HP := shut (fun W => pair5 W (vtA 2) (vtA 1) (vtA_ok 2) (vtA_ok 1))
  rw [alive_pair.1, alive_pair.2] at HP
  have oA := (vtA 2).all1
  have oB := (vtA 1).all1
  have HQ := shut (fun W => eq29 W 9997 (vtA 2) (vtA_ok 2))
  have HR := shut (fun W => eq29 W 9997 (vtA 1) (vtA_ok 1))
  have hsE := evC_size (vtA_ok 1) (vtA_ok 2)
  have oE := evC_one (vtA 1) (vtA 2)
  have HX0 := shut (evC_a (vtA_ok 1) (vtA_ok 2))
  have HX1 := shut (evC_b (vtA_ok 1) (vtA_ok 2))
  have z29 := zero29
  have z32 := zero32
  have HZ := shut (zvt.size zvt_ok)
  have HZE := shut (evC_size zvt_ok zvt_ok)
  generalize (vtA 2).cs.toArray = VA at *
  generalize (vtA 1).cs.toArray = VB at *
  generalize evC (vtA 1) (vtA 2) = EV at *
  generalize evC zvt zvt = ZE at *
  generalize zvt.cs.toArray = Z29 at *
  generalize ((idA 2).map bv).toArray = IA at *
  generalize ((idA 1).map bv).toArray = IB at *
  have hiA : (Tryz.prog.info? 43).map (·.size) = some VA.size := by rw [hsA]; exact qsize29
  have hiB : (Tryz.prog.info? 43).map (·.size) = some VB.size := by rw [hsB]; exact qsize29
  have hiE : (Tryz.prog.info? 52).map (·.size) = some EV.size := by rw [hsE]; exact size32
  have hzA : Z29.size = VA.size := by rw [HZ.out, hsA]
  have hzB : Z29.size = VB.size := by rw [HZ.out, hsB]
  have hzE : ZE.size = EV.size := by rw [HZE.out, hsE]
  go_enter Tryz.func4, Tryz.ntmps4
  go_upto_region 3 with (first | (refine wpList_build1 rfl 26 0 _ rfl _ rfl IA h2a ?_) | (refine wpList_build4 rfl 43 0 1 5 3 _ _ _ (.tmp 6) rfl _ _ _ _ rfl rfl rfl rfl VA h2b ?_) | (refine wpList_store_any rfl 43 (.tmp 1) (.tmp 7) rfl w.heap.size VA rfl rfl 43 Z29 (Row.new w Z29 43) hiA hzA oA ?_; intro w1 R1 t1; clear h2a h2b) | (refine wpList_build1 rfl 26 0 _ rfl _ rfl IB h1a ?_) | (refine wpList_build4 rfl 43 0 1 5 3 _ _ _ (.tmp 8) rfl _ _ _ _ rfl rfl rfl rfl VB h1b ?_) | (refine wpList_store_any rfl 43 (.tmp 2) (.tmp 9) rfl w1.heap.size VB rfl rfl 43 Z29 (Row.new w1 Z29 43) hiB hzB oB ?_; intro w2 R2 t2; clear h1a h1b))
  have T1 : Turn no w w1 := ((Turn.refl no w).alloc _).trans t1 (fun i hi e => by omega)
  have T2 : Turn no w1 w2 := ((Turn.refl no w1).alloc _).trans t2 (fun i hi e => by omega)
  have RA := R1.turn T2 (fun q => q)
  have TT := shut (T1.then_no T2)
  clear t1 t2 T1 R1 T2
  generalize w1.heap.size = g1 at *
  generalize hg0 : w.heap.size = g0 at *
  clear hg0
  go_wp2_with (first | (refine wpList_load_row rfl 43 (.tmp 1) rfl g0 rfl 43 VA _ _ RA Tryz.underlying43 rfl hiA ?_) | (refine wpList_load_row rfl 43 (.tmp 2) rfl g1 rfl 43 VB _ _ R2 Tryz.underlying43 rfl hiB ?_))
  refine (HP.out w2).mono ?_
  rintro e w3 ⟨rfl, t3⟩
  have RA3 := RA.turn t3 (fun q => q)
  have RB3 := R2.turn t3 (fun q => q)
  have TT3 := shut (TT.out.then_no t3)
  clear RA R2 TT t3 HP
  go_wp2_with (refine wpList_store_any rfl 52 (.tmp 3) (.tmp 14) rfl w3.heap.size EV rfl rfl 52 ZE (Row.new w3 ZE 52) hiE hzE oE ?_; intro w4 R4 t4)
  have T4 : Turn no w3 w4 := ((Turn.refl no w3).alloc _).trans t4 (fun i hi e => by omega)
  have RA4 := RA3.turn T4 (fun q => q)
  have RB4 := RB3.turn T4 (fun q => q)
  have TT4 := shut (TT3.out.then_no T4)
  clear t4 T4 RA3 RB3 TT3
  generalize w3.heap.size = g3 at *
  refine (new7 w4).mono ?_
  rintro e w5 ⟨p, m, rfl, c0, c1, hm, t5⟩
  have hl := shut (len8 w5 p m c0 c1 hm)
  have rA := World.rangeAt_of_block (RA4.turn t5 (fun q => q)) 0 53
  have rB := World.rangeAt_of_block (RB4.turn t5 (fun q => q)) 0 53
  have r0 := World.rangeAt_of_block (R4.turn t5 (fun q => q)) 0 53
  have r1 := World.rangeAt_of_block (R4.turn t5 (fun q => q)) 53 53
  have e0 : EV.extract 0 (0 + 53) = VB := HX0.out
  have e1 : EV.extract 53 (53 + 53) = VA := HX1.out
  have eA : VA.extract 0 (0 + 53) = VA := by rw [Nat.zero_add, ← hsA]; simp
  have eB : VB.extract 0 (0 + 53) = VB := by rw [Nat.zero_add, ← hsB]; simp
  rw [e0] at r0
  rw [e1] at r1
  rw [eA] at rA
  rw [eB] at rB
  have TT5 := shut (TT4.out.then_no t5)
  have hq := HQ.out
  have hr := HR.out
  have hlA : (Tryz.prog.info? 43).map (·.size) = some VA.toList.length := by rw [Array.length_toList]; exact hiA
  have hlB : (Tryz.prog.info? 43).map (·.size) = some VB.toList.length := by rw [Array.length_toList]; exact hiB
  clear e0 e1 eA eB RA4 RB4 R4 TT4 t5 hm c0 c1 HX0 HX1 HQ HR
  go_wp2_with (first | (refine wpList_load_midG (by rfl) 43 (.tmp 20) rfl g3 0 rfl VB.toList _ r0 Tryz.underlying43 rfl hlB ?_) | (refine wpList_load_midG (by rfl) 43 (.tmp 2) rfl g1 0 rfl VB.toList _ rB Tryz.underlying43 rfl hlB ?_) | (refine wpList_load_midG (by rfl) 43 (.tmp 26) rfl g3 53 rfl VA.toList _ r1 Tryz.underlying43 rfl hlA ?_) | (refine wpList_load_midG (by rfl) 43 (.tmp 1) rfl g0 0 rfl VA.toList _ rA Tryz.underlying43 rfl hlA ?_))
  refine hl.out.mono ?_
  rintro e w6 ⟨rfl, rfl⟩
  go_wp2_with fail
  go_ret
  exact ⟨rfl, TT5.out⟩
end Go.Proofs.YtmghliakheniiaaGreatDoor

