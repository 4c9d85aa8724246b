/- TallyNil: the walk. -/
import Derived.Test.YtcjijofckjgikaaDoorN2
namespace Go.Proofs.YtcjijofckjgikaaDoor
open Go.RowKit
set_option linter.unusedVariables false
section
variable {P : Program} {ops : Array Oper} {rest : List Oper} {o : Oper} {a : Act} {w : World} {Q : Exit → Act → World → Prop}
theorem wpList_build_noneG (hg : Region.wanted o (yielded ops a.tmps) = true) (t : TypeId) (ho : o.op = .build t #[]) (cells : Array Value) (hf : P.built t [] = some cells) (h : wpList P ops Q rest (a.put o.dst (.agg cells)) w) : wpList P ops Q (o :: rest) a w := by
  have e : ((#[] : Array (Nat × Operand)).map fun (i, x) => (i, a.eval x)).toList = [] := by simp
  refine wpList_want hg fun K hK => ?_
  refine wp_build t _ ho (by rw [e, hf]; rfl) ?_
  rw [e, hf]
  exact hK _ _ h
end
set_option maxRecDepth 100000 in
set_option maxHeartbeats 4000000 in
theorem nil3 (w : World) (v : Vt) (hv : v.ok) (r : Int) (hl : LaidK w) : Calls Tryd.prog 3 #[.agg v.cs.toArray, .int .i64 r] w fun e w' => e = .returned (.bool true) ∧ Turn no w w' := by
  have s29 : (Tryd.prog.info? 29).map (·.size) = some v.cs.toArray.size := by rw [size29, Vt.size hv]
  have s24i : (Tryd.prog.info? 24).map (·.size) = some (v.id.map bv).length := by rw [size24]; simp [hv.1]
  obtain ⟨w0, hw0⟩ : ∃ w0, w.alloc (.cells v.cs.toArray 29) = w0 := ⟨_, rfl⟩
  have T0 : Turn no w w0 := by rw [← hw0]; exact (Turn.refl no w).alloc _
  have B0 : Row w0 w.heap.size v.cs.toArray 29 := by rw [← hw0]; exact Row.new w _ 29
  have HV : Shut (∀ W, Turn no w0 W → Row W w.heap.size v.cs.toArray 29 ∧ W.cell? ⟨w.heap.size, 0, none⟩ = some (.int .i64 v.k) ∧ W.rangeAt w.heap.size 3 (v.id.map bv)) := fun W t => by
    have R := B0.turn t (fun q => q)
    exact ⟨R, (R.vt hv).c0, (R.vt hv).cid⟩
  have ca := alive4 w0 (hl.turn T0)
  have HT0 := shut T0
  clear T0 B0 hl
  generalize v.cs.toArray = S at *
  generalize v.id.map bv = I at *
  generalize v.k = k0 at *
  clear hv
  obtain ⟨Z, hZ⟩ : ∃ Z, Tryd.zeroCells42 = Z := ⟨_, rfl⟩
  obtain ⟨C, hC⟩ : ∃ C, Z51 = C := ⟨_, rfl⟩
  obtain ⟨H, hH⟩ : ∃ H, Z24 = H := ⟨_, rfl⟩
  have b42 := built42
  have s42 := size42
  have o42 := one42
  have n42 := fun W => neq42z W
  rw [hZ] at b42 s42 o42
  simp only [hZ] at n42
  have b51 := built51
  have s51 := size51
  have o51 := one51
  have z51 : Z51.size = Z51.size := rfl
  have cSame := fun W => sameCert11 W
  rw [hC] at b51 s51 o51
  conv at z51 => rhs; rw [hC]
  simp only [hC] at cSame
  have b24 := built24
  have s24 := size24z
  have o24 := one24
  have z24 : Z24.size = Z24.size := rfl
  have n24 := fun W => neq24z W
  rw [hH] at b24 s24 o24
  conv at z24 => rhs; rw [hH]
  simp only [hH] at n24
  have HhC := shut hC
  have HhH := shut hH
  clear hC hH
  go_enter Tryd.func3, Tryd.ntmps3
  go_upto_region 1 with fail
  try rw [hw0]
  clear hw0
  go_wp2_with (go_at_call 4; refine ca.mono ?_; rintro e w1 ⟨rfl, t1⟩)
  obtain ⟨w3, hw3⟩ : ∃ w3, (w1.alloc (.cells #[.pointer none, .int .u64 0, .slice none 0 0, .int .i64 0, .map none] 37)).alloc (.cells #[.pointer none, .pointer (some ⟨w1.heap.size, 0, none⟩)] 31) = w3 := ⟨_, rfl⟩
  have T3 : Turn no w1 w3 := by rw [← hw3]; exact ((Turn.refl no w1).alloc _).alloc _
  have RZ : Row w3 w1.heap.size #[.pointer none, .int .u64 0, .slice none 0 0, .int .i64 0, .map none] 37 := by rw [← hw3]; exact (Row.new w1 _ 37).alloc _
  have RL : Row w3 (w1.heap.size + 1) #[.pointer none, .pointer (some ⟨w1.heap.size, 0, none⟩)] 31 := by rw [← hw3]; exact Row.newAt _ _ _ _ (by simp)
  have HN : Shut (∀ k : Nat, k < 2 → ∃ a, w3.cell? ⟨w1.heap.size + 1, k, none⟩ = some (.pointer a) ∧ No w3 (.pointer a)) := fun k hk => by
    rcases k with _ | _ | k
    · exact ⟨none, RL.cell 0 _ rfl, Or.inl rfl⟩
    · exact ⟨_, RL.cell 1 _ rfl, Or.inr ⟨_, rfl, RZ.cell 0 _ rfl⟩⟩
    · omega
  have HV3 : Shut (∀ W, Turn no w3 W → Row W w.heap.size S 29 ∧ W.cell? ⟨w.heap.size, 0, none⟩ = some (.int .i64 k0) ∧ W.rangeAt w.heap.size 3 I) := fun W t => HV.out W ((t1.then_no T3).then_no t)
  have HT3 := shut (HT0.out.then_no (t1.then_no T3))
  rw [hw3]
  generalize w1.heap.size + 1 = gl at *
  clear hw3 HV RZ RL T3 t1 ca HT0
  go_loopw [7] (fun x wr => ∃ k : Nat, k ≤ 2 ∧ x = .int .i64 k ∧ Turn no w3 wr) (fun x _ => 2 - (intOf x).toNat)
  case atStart => exact ⟨0, by omega, rfl, Turn.refl no w3⟩
  case round =>
    obtain ⟨k, hk, rfl, tr⟩ := hrel
    by_cases hlt : k < 2
    · obtain ⟨pa, hp, hn⟩ := HN.out k hlt
      have hlt' : (k : Int) < 2 := by omega
      have hp' := tr.keep hp (fun q => q)
      have HNo := shut (hn.turn tr)
      obtain ⟨q1, q2, q3⟩ := HV3.out wr tr
      have HTr := shut tr
      clear hp hn tr hlt
      have cAdd := fun W (t : Turn no wr W) => add5_no W (.pointer pa) S (HNo.out.turn t)
      rw [hZ] at cAdd
      have cEnt := fun W (t : Turn no wr W) => enter6_no W (.pointer pa) r (HNo.out.turn t)
      have hC := HhC.out
      have hH := HhH.out
      have cCer := fun W (t : Turn no wr W) => cert7_no W (.pointer pa) r I.toArray (HNo.out.turn t)
      rw [hC] at cCer
      have cQuo := fun W (t : Turn no wr W) => quorum8_no W (.pointer pa) k0 r (HNo.out.turn t)
      rw [hH] at cQuo
      clear hC hH
      have cSki := fun W (t : Turn no wr W) => skip9_no W (.pointer pa) (HNo.out.turn t)
      have cRou := fun W (t : Turn no wr W) => round12_no W (.pointer pa) (HNo.out.turn t)
      have cPow := fun W (t : Turn no wr W) => power13_no W (.pointer pa) k0 r I.toArray (HNo.out.turn t)
      have cAny := fun W (t : Turn no wr W) => any14_no W (.pointer pa) k0 r (HNo.out.turn t)
      have cVot := fun W (t : Turn no wr W) => votes15_no W (.pointer pa) k0 r (HNo.out.turn t)
      have cHel := fun W (t : Turn no wr W) => held16_no W (.pointer pa) (HNo.out.turn t)
      have HW : Shut (∀ W, Turn no wr W → Row W w.heap.size S 29 ∧ W.cell? ⟨w.heap.size, 0, none⟩ = some (.int .i64 k0) ∧ W.rangeAt w.heap.size 3 I) := fun W t => HV3.out W (HTr.out.then_no t)
      go_upto_region 10 with (first | (refine wpList_load_row rfl 29 (.tmp 2) rfl w.heap.size rfl 29 S _ _ q1 Tryd.underlying29 rfl s29 ?_) | (go_at_call 5; refine (cAdd _ (Turn.refl no _)).mono ?_; rintro e w4 ⟨rfl, t4⟩) | (refine wpList_store_anyN rfl rfl 42 (.tmp 9) (.tmp 39) rfl w4.heap.size Z rfl rfl 42 Z (Row.new w4 _ 42) s42 rfl o42 ?_; intro w5 R5 T5))
      have t5 : Turn no wr w5 := t4.then_no (((Turn.refl no w4).alloc _).trans T5 (fun k hk q => by have q : k = w4.heap.size := q; omega))
      clear cAdd t4 T5 q1 q2 q3
      generalize w4.heap.size = g9 at *
      go_upto_region 11 with (go_at_call 6; refine (cEnt _ t5).mono ?_; rintro e w6 ⟨rfl, t6⟩)
      have R6 := R5.turn t6 (fun q => q)
      have t06 := t5.then_no t6
      obtain ⟨q1, q2, q3⟩ := HW.out _ t06
      clear cEnt t6 R5 t5 q1
      go_upto_region 12 with (first | (refine wpList_load_mid rfl 24 (.tmp 50) rfl w.heap.size 3 rfl I _ q3 Tryd.underlying24 rfl s24i ?_) | (go_at_call 7; refine (cCer _ t06).mono ?_; rintro e w7 ⟨rfl, t7⟩) | (refine wpList_store_anyN rfl rfl 51 (.tmp 13) (.tmp 53) rfl w7.heap.size C rfl rfl 51 Z51 (Row.new w7 _ 51) s51 z51 o51 ?_; intro w8 R8 T8))
      have t78 : Turn no w7 w8 := ((Turn.refl no w7).alloc _).trans T8 (fun k hk q => by have q : k = w7.heap.size := q; omega)
      have R7 := R6.turn (t7.then_no t78) (fun q => q)
      have t08 := t06.then_no (t7.then_no t78)
      obtain ⟨q1, q2, q3⟩ := HW.out _ t08
      clear cCer t7 t78 R6 t06 q1 T8
      generalize w7.heap.size = g13 at *
      go_upto_region 13 with (first | (go_at_call 8; refine (cQuo _ t08).mono ?_; rintro e w9 ⟨rfl, t9⟩) | (refine wpList_store_anyN rfl rfl 24 (.tmp 15) (.tmp 61) rfl w9.heap.size H rfl rfl 24 Z24 (Row.new w9 _ 24) s24 z24 o24 ?_; intro w10 R10 T10))
      have t910 : Turn no w9 w10 := ((Turn.refl no w9).alloc _).trans T10 (fun k hk q => by have q : k = w9.heap.size := q; omega)
      have R9 := R7.turn (t9.then_no t910) (fun q => q)
      have R13 := R8.turn (t9.then_no t910) (fun q => q)
      have t010 := t08.then_no (t9.then_no t910)
      clear cQuo t9 t910 R7 R8 t08 T10 q2 q3
      generalize w9.heap.size = g15 at *
      go_upto_region 14 with (go_at_call 9; refine (cSki _ t010).mono ?_; rintro e w11 ⟨rfl, e11⟩; subst e11)
      clear cSki
      go_upto_region 16 with (first | (go_at_call 10; refine (num10 _ _).mono ?_; rintro e wx ⟨rfl, ex⟩; subst ex) | (guard_target =~ wpList _ _ _ ({ dst := _, op := Op.load 42 _, type := _, pos := _, after := _, guard := _ } :: _) _ _; refine wpList_load_rowG (by rfl) 42 (.tmp 9) rfl g9 rfl Z 42 _ R9 Tryd.underlying42 rfl s42 ?_) | (guard_target =~ wpList _ _ _ ({ dst := _, op := Op.build 42 _, type := _, pos := _, after := _, guard := _ } :: _) _ _; refine wpList_build_noneG (by rfl) 42 rfl Z b42 ?_) | (guard_target =~ wpList _ _ _ ({ dst := _, op := Op.load 51 _, type := _, pos := _, after := _, guard := _ } :: _) _ _; refine wpList_load_rowG (by rfl) 51 (.tmp 13) rfl g13 rfl C 51 _ R13 Tryd.underlying51 rfl s51 ?_) | (guard_target =~ wpList _ _ _ ({ dst := _, op := Op.build 51 _, type := _, pos := _, after := _, guard := _ } :: _) _ _; refine wpList_build_noneG (by rfl) 51 rfl C b51 ?_) | (go_at_call 11; refine (cSame _).mono ?_; rintro e w12 ⟨rfl, t12⟩; have R15 := R10.turn t12 (fun q => q); have t012 := t010.then_no t12; clear R10 R9 R13 t12 t010) | (guard_target =~ wpList _ _ _ ({ dst := _, op := Op.load 24 _, type := _, pos := _, after := _, guard := _ } :: _) _ _; refine wpList_load_rowG (by rfl) 24 (.tmp 15) rfl g15 rfl H 24 _ R15 Tryd.underlying24 rfl s24 ?_) | (guard_target =~ wpList _ _ _ ({ dst := _, op := Op.build 24 _, type := _, pos := _, after := _, guard := _ } :: _) _ _; refine wpList_build_noneG (by rfl) 24 rfl H b24 ?_))
      obtain ⟨_, q2, q3⟩ := HW.out _ t012
      clear R15
      go_wp2_with (first | (go_at_call 12; refine (cRou _ t012).mono ?_; rintro e wx ⟨rfl, ex⟩; subst ex) | (guard_target =~ wpList _ _ _ ({ dst := _, op := Op.load 24 _, type := _, pos := _, after := _, guard := _ } :: _) _ _; refine wpList_load_midG (by rfl) 24 (.tmp 120) rfl w.heap.size 3 rfl I _ q3 Tryd.underlying24 rfl s24i ?_) | (go_at_call 13; refine (cPow _ t012).mono ?_; rintro e w13 ⟨rfl, t13⟩; have t013 := t012.then_no t13; have z13 := (HW.out _ t013).2.1; clear q2 q3 t13 t012 cPow) | (go_at_call 14; refine (cAny _ t013).mono ?_; rintro e w14 ⟨rfl, t14⟩; have t014 := t013.then_no t14; have z14 := (HW.out _ t014).2.1; clear z13 t14 t013 cAny) | (go_at_call 15; refine (cVot _ t014).mono ?_; rintro e w15 ⟨va, rfl, t15⟩; have t015 := t014.then_no t15; clear z14 t15 t014 cVot) | (go_at_call 16; refine (cHel _ t015).mono ?_; rintro e wx ⟨rfl, ex⟩; subst ex))
      refine ⟨⟨k + 1, by omega, ?_, HTr.out.then_no t015⟩, ?_⟩
      · first | rfl | (simp only [intOf]; omega) | (congr 1)
      · simp only [intOf]; omega
    · obtain rfl : k = 2 := by omega
      go_wp2_with fail
      go_ret
      exact ⟨rfl, HT3.out.then_no tr⟩
end Go.Proofs.YtcjijofckjgikaaDoor
