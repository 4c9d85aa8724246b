/- untouched. -/
import Derived.Test.YtmfphlagpifkaaaG5
namespace Go.Proofs.Ytmfphlagpifkaaa
open Go.RowKit
set_option linter.unusedVariables false

section
variable {P : Program} {ops : Array Oper} {rest : List Oper} {op : Oper} {a : Act} {w : World} {Q : Exit → Act → World → Prop}
theorem wpList_eqlG (hgd : Region.wanted op (yielded ops a.tmps) = true) (t t2 : TypeId) (x y : Operand) (ho : op.op = .binOp .eql t x y t2) (vx vy : Value) (hx : a.eval x = vx) (hy : a.eval y = vy) (r : Value) (hq : (eqGuard .eql t x y vx vy).run P w = .ok () w) (hr : (binOp .eql t vx vy).run P w = .ok r w) (h : wpList P ops Q rest (a.put op.dst r) w) : wpList P ops Q (op :: rest) a w :=
  wpList_want hgd fun K hK => by
    unfold Oper.wp execOp
    simp only [ho, hx, hy, Sem.run_bind, hq, hr, Result.andThen_ok, Sem.run_pure]
    exact hK _ _ h
theorem wpList_build1G (hgd : Region.wanted op (yielded ops a.tmps) = true) (t : TypeId) (i : Nat) (x : Operand) (ho : op.op = .build t #[(i, x)]) (v : Value) (hx : a.eval x = v) (r : Value) (hr : (Instr.build t #[(i, v)]).run P w = .ok r w) (h : wpList P ops Q rest (a.put op.dst r) w) : wpList P ops Q (op :: rest) a w :=
  wpList_want hgd fun K hK => by
    unfold Oper.wp execOp
    simp only [ho, hx, Sem.run_bind, List.map_toArray, List.map_cons, List.map_nil, hr, Result.andThen_ok, Sem.run_pure]
    exact hK _ _ h
end
theorem bld41 (w : World) : (Instr.build 41 #[(2, .int .i64 (-71))]).run Try.prog w = .ok (.agg vt71.cs.toArray) w := by kernel_rfl
theorem bld51 (w : World) : (Instr.build 51 #[(0, .int .i64 (-71))]).run Try.prog w = .ok (.agg (mkL mk71).toArray) w := by kernel_rfl
theorem bld43 (w : World) : (Instr.build 43 #[(1, .int .i64 (-71))]).run Try.prog w = .ok (.agg gu71.cs.toArray) w := by kernel_rfl
theorem guard41 (w : World) (x y : Operand) (A B : Array Value) : (eqGuard .eql 41 x y (.agg A) (.agg B)).run Try.prog w = .ok () w := by kernel_rfl
theorem guard51 (w : World) (x y : Operand) (A B : Array Value) : (eqGuard .eql 51 x y (.agg A) (.agg B)).run Try.prog w = .ok () w := by kernel_rfl
theorem guard43 (w : World) (x y : Operand) (A B : Array Value) : (eqGuard .eql 43 x y (.agg A) (.agg B)).run Try.prog w = .ok () w := by kernel_rfl
theorem eql41 (w : World) (v : Vt) (h : v.ok) : (binOp .eql 41 (.agg v.cs.toArray) (.agg v.cs.toArray)).run Try.prog w = .ok (.bool true) w := by
  rw [run_eql_struct, eq41 w 9997 v h]
  rfl
theorem fields51 : (Try.prog.fieldsOf 51).toList.map (fun f => (f.type, f.offset)) = [(3, 0), (26, 1), (39, 2)] := by kernel_rfl
theorem mk71_seal : (mkL mk71).toArray.extract 2 (2 + 16) = (z16.map bv).toArray := rfl
theorem eq51 (w : World) : (Op.equalIn 10000 51 (.agg (mkL mk71).toArray) (.agg (mkL mk71).toArray)).run Try.prog w = .ok true w := by
  rw [run_equalIn_struct w 9999 51 _ _ (by kernel_rfl) (by kernel_rfl)]
  refine eqFields_self w 9999 _ _ (fun f hf => ?_)
  have hm : (f.type, f.offset) ∈ [(3, 0), (26, 1), (39, 2)] := by
    rw [← fields51]
    exact List.mem_map.2 ⟨f, hf, rfl⟩
  generalize f.type = t at *
  generalize f.offset = o at *
  simp only [List.mem_cons, Prod.mk.injEq, List.not_mem_nil, or_false] at hm
  rcases hm with ⟨rfl, rfl⟩ | ⟨rfl, rfl⟩ | ⟨rfl, rfl⟩
  · exact ⟨_, cell_part w (v := .int .i64 mk71.ix) (by kernel_rfl) (by simp [mkL]), by rw [run_equalIn_int w 9998 3 .i64 .i64 _ _ Try.underlying3]; simp⟩
  · exact ⟨_, cell_part w (v := .int .u64 mk71.tm) (by kernel_rfl) (by simp [mkL]), by rw [run_equalIn_int w 9998 26 .u64 .u64 _ _ Try.underlying26]; simp⟩
  · exact ⟨_, agg_part w (by kernel_rfl) size39 mk71_seal, by rw [eqIn39 w 9997 _ _ rfl rfl]; simp⟩
theorem eql51 (w : World) : (binOp .eql 51 (.agg (mkL mk71).toArray) (.agg (mkL mk71).toArray)).run Try.prog w = .ok (.bool true) w := by
  rw [run_eql_struct, eq51 w]
  rfl
set_option maxRecDepth 100000 in
set_option maxHeartbeats 40000000 in
theorem untouched8 (w : World) (C X : Array Value) (n : Nat) (l : List Mb) (hn : l.length = n) (a : Option Addr) (cp g c ga ca gb cb gv cv : Nat)
    (hC2 : C[2]? = some (.slice (some ⟨g, 0, none⟩) n c)) (hC37 : C[37]? = some (.slice (some ⟨ga, 0, none⟩) 0 ca)) (hC72 : C[72]? = some (.slice (some ⟨gb, 0, none⟩) 0 cb)) (hC73 : C[73]? = some (.slice (some ⟨gv, 0, none⟩) 0 cv))
    (hX2 : X[2]? = some (.slice a n cp)) (hX37 : X[37]? = some (.slice none 0 0)) (hX72 : X[72]? = some (.slice none 0 0)) (hX73 : X[73]? = some (.slice none 0 0))
    (hM : MsAt w (some ⟨g, 0, none⟩) c (l ++ [mb71])) (hM' : MsAt w a cp l) (hA : Beh w ga ca (mkL mk71)) (hB : Beh w gb cb (mkL mk71)) (hV : Beh w gv cv vt71.cs) :
    Calls Try.prog 8 #[.agg C, .agg X] w fun e w' => e = .returned (.bool true) ∧ Turn no w w' := by
  obtain ⟨w0, hw0⟩ : ∃ w0, (w.alloc (.cells C 35)).alloc (.cells X 35) = w0 := ⟨_, rfl⟩
  have T0 : Turn no w w0 := by rw [← hw0]; exact ((Turn.refl no w).alloc _).alloc _
  have R0 : Row w0 w.heap.size C 35 := by rw [← hw0]; exact (Row.new w _ 35).alloc _
  have R1 : Row w0 (w.heap.size + 1) X 35 := by rw [← hw0]; exact Row.newAt _ _ _ _ (by simp)
  have HY : Shut (∀ W, Turn no w0 W → W.cell? ⟨w.heap.size, 2, none⟩ = some (.slice (some ⟨g, 0, none⟩) n c) ∧ W.cell? ⟨w.heap.size, 37, none⟩ = some (.slice (some ⟨ga, 0, none⟩) 0 ca) ∧ W.cell? ⟨w.heap.size, 72, none⟩ = some (.slice (some ⟨gb, 0, none⟩) 0 cb) ∧ W.cell? ⟨w.heap.size, 73, none⟩ = some (.slice (some ⟨gv, 0, none⟩) 0 cv) ∧ W.cell? ⟨w.heap.size + 1, 2, none⟩ = some (.slice a n cp) ∧ W.cell? ⟨w.heap.size + 1, 37, none⟩ = some (.slice none 0 0) ∧ W.cell? ⟨w.heap.size + 1, 72, none⟩ = some (.slice none 0 0) ∧ W.cell? ⟨w.heap.size + 1, 73, none⟩ = some (.slice none 0 0)) :=
    fun W t => ⟨t.keep (R0.cell _ _ hC2) (fun q => q), t.keep (R0.cell _ _ hC37) (fun q => q), t.keep (R0.cell _ _ hC72) (fun q => q), t.keep (R0.cell _ _ hC73) (fun q => q), t.keep (R1.cell _ _ hX2) (fun q => q), t.keep (R1.cell _ _ hX37) (fun q => q), t.keep (R1.cell _ _ hX72) (fun q => q), t.keep (R1.cell _ _ hX73) (fun q => q)⟩
  have HT0 := shut T0
  have HM := shut hM
  have HM' := shut hM'
  have HA := shut hA
  have HB := shut hB
  have HV := shut hV
  have hle : n + 1 ≤ c := by have := hM.le; rw [List.length_append, hn] at this; exact this
  have hcm : c ≤ 9223372036854775807 := by have := hM.cap; simp only [maxLen] at this; omega
  have h1a := hA.one
  have h1b := hB.one
  have h1v := hV.one
  have hma : ca ≤ 9223372036854775807 := by have := hA.cap; simp only [maxLen] at this; omega
  have hmb : cb ≤ 9223372036854775807 := by have := hB.cap; simp only [maxLen] at this; omega
  have hmv : cv ≤ 9223372036854775807 := by have := hV.cap; simp only [maxLen] at this; omega
  have HN := shut hn
  clear T0 R0 R1 hC2 hC37 hC72 hC73 hX2 hX37 hX72 hX73 hM hM' hA hB hV hn
  obtain ⟨y2, y37, y72, y73, x2, x37, x72, x73⟩ := HY.out w0 (Turn.refl no w0)
  have hnn : ((n : Int) != (n : Int)) = false := by simp
  have C1 := marks13_none w0 (some ⟨ga, 0, none⟩) none ca 0
  go_enter Try.func8, Try.ntmps8
  go_upto_region 1 with fail
  try rw [hw0]
  clear hw0
  go_wp2_with (first | (go_at_call 13; refine C1.mono ?_; clear C1; rintro e w1 ⟨rfl, t1⟩; obtain ⟨z2, z37, z72, z73, s2, s37, s72, s73⟩ := HY.out w1 t1; have C2 := marks13_none w1 (some ⟨gb, 0, none⟩) none cb 0; clear y2 y37 y72 y73 x2 x37 x72 x73) | (go_at_call 13; refine C2.mono ?_; clear C2; rintro e w2 ⟨rfl, t2⟩))
  have HT2 := shut (t1.then_no t2)
  clear z2 z37 z72 z73 s2 s37 s72 s73 t1 t2 hnn
  go_loopw [7] (fun cc wr => ∃ k : Nat, k ≤ n ∧ cc = .int .i64 k ∧ Shut (Turn no w0 wr)) (fun cc _ => n - (intOf cc).toNat)
  case atStart => exact ⟨0, by omega, rfl, HT2.out⟩
  case round =>
    obtain ⟨k, hk, rfl, HT⟩ := hrel
    obtain ⟨y2, y37, y72, y73, x2, x37, x72, x73⟩ := HY.out wr HT.out
    by_cases hlt : k < n
    · obtain ⟨m, hm⟩ : ∃ m, l[k]? = some m := ⟨l[k]'(by rw [HN.out]; exact hlt), List.getElem?_eq_getElem _⟩
      obtain ⟨b, off, e, c0, c1, c2⟩ := HM.out.cells k m (by rw [List.getElem?_append_left (by rw [HN.out]; exact hlt)]; exact hm)
      cases e
      obtain ⟨b', off', rfl, d0, d1, d2⟩ := HM'.out.cells k m hm
      have TT := HT0.out.then_no HT.out
      have c0 := TT.keep c0 (fun q => q)
      have c1 := TT.keep c1 (fun q => q)
      have c2 := TT.keep c2 (fun q => q)
      have d0 := TT.keep d0 (fun q => q)
      have d1 := TT.keep d1 (fun q => q)
      have d2 := TT.keep d2 (fun q => q)
      simp only [Nat.zero_add] at c0 c1 c2
      have hlt' : (k : Int) < (n : Int) := by omega
      clear hm TT y37 y72 y73 x37 x72 x73
      go_wp2_with fail
      go_quiet (fail)
      go_wp2_with fail
      go_roundw
      case rel => exact ⟨k + 1, by omega, by go_num, HT.out.drewN _⟩
      case measure => simp [intOf]; omega
    · have hkn : k = n := by omega
      have hlt' : ¬ (k : Int) < (n : Int) := by omega
      obtain ⟨b, off, e, c0, c1, c2⟩ := HM.out.cells n mb71 (by rw [List.getElem?_append_right (by rw [HN.out]; omega), HN.out]; simp)
      cases e
      have TT := HT0.out.then_no HT.out
      have c0 := TT.keep c0 (fun q => q)
      have c1 := TT.keep c1 (fun q => q)
      have c2 := TT.keep c2 (fun q => q)
      simp only [Nat.zero_add, mb71] at c0 c1 c2
      have HRA := shut (HA.out.turn TT (fun q => q)).at0
      have HRB := shut (HB.out.turn TT (fun q => q)).at0
      have HRV := shut (HV.out.turn TT (fun q => q)).at0
      have HTT := shut TT
      have n1 : IntKind.i64.wrap ((n : Int) + 1) = ((n + 1 : Nat) : Int) := by rw [IntKind.wrap_i64]; omega
      have hs51 : (Try.prog.info? 51).map (·.size) = some (mkL mk71).length := size51 mk71
      have hs41 : (Try.prog.info? 41).map (·.size) = some vt71.cs.length := by rw [Vt.len vt71_ok]; exact size41
      have hq51 := shut (fun W => eql51 W)
      have hq41 := shut (fun W => eql41 W vt71 vt71_ok)
      have hb51 := shut (fun W => bld51 W)
      have hb41 := shut (fun W => bld41 W)
      clear hkn TT
      generalize mkL mk71 = XM at *
      generalize vt71.cs = XV at *
      go_wp2_with fail
      refine wp_loop_once ?_
      go_upto_region 17 with fail
      go_wp2_with (first
        | (guard_target =~ wpList _ _ _ ({ dst := _, op := Op.load 41 _, .. } :: _) _ _; refine wpList_load_midG (by kernel_rfl) 41 (.tmp 111) rfl gv 0 rfl XV _ HRV.out Try.underlying41 rfl hs41 ?_)
        | (guard_target =~ wpList _ _ _ ({ dst := some 125, op := Op.load 51 _, .. } :: _) _ _; refine wpList_load_midG (by kernel_rfl) 51 (.tmp 124) rfl ga 0 rfl XM _ HRA.out Try.underlying51 rfl hs51 ?_)
        | (guard_target =~ wpList _ _ _ ({ dst := some 138, op := Op.load 51 _, .. } :: _) _ _; refine wpList_load_midG (by kernel_rfl) 51 (.tmp 137) rfl gb 0 rfl XM _ HRB.out Try.underlying51 rfl hs51 ?_)
        | (guard_target =~ wpList _ _ _ ({ dst := _, op := Op.build 41 _, .. } :: _) _ _; refine wpList_build1G (by kernel_rfl) 41 2 _ rfl _ rfl _ (hb41.out _) ?_)
        | (guard_target =~ wpList _ _ _ ({ dst := _, op := Op.build 51 _, .. } :: _) _ _; refine wpList_build1G (by kernel_rfl) 51 0 _ rfl _ rfl _ (hb51.out _) ?_)
        | (guard_target =~ wpList _ _ _ ({ dst := _, op := Op.binOp BinOp.eql 41 _ _ _, .. } :: _) _ _; refine wpList_eqlG (by kernel_rfl) 41 41 (.tmp 112) (.tmp 113) rfl _ _ rfl rfl _ (guard41 _ _ _ _ _) (hq41.out _) ?_)
        | (guard_target =~ wpList _ _ _ ({ dst := some 127, op := Op.binOp BinOp.eql 51 _ _ _, .. } :: _) _ _; refine wpList_eqlG (by kernel_rfl) 51 51 (.tmp 125) (.tmp 126) rfl _ _ rfl rfl _ (guard51 _ _ _ _ _) (hq51.out _) ?_)
        | (guard_target =~ wpList _ _ _ ({ dst := some 140, op := Op.binOp BinOp.eql 51 _ _ _, .. } :: _) _ _; refine wpList_eqlG (by kernel_rfl) 51 51 (.tmp 138) (.tmp 139) rfl _ _ rfl rfl _ (guard51 _ _ _ _ _) (hq51.out _) ?_))
      go_ret
      exact ⟨rfl, HTT.out⟩
end Go.Proofs.Ytmfphlagpifkaaa
