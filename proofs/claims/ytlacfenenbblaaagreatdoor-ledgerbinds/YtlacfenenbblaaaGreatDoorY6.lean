/- Verify of the program. -/
import Derived.Test.YtlacfenenbblaaaGreatDoorY5
namespace Go.Proofs.YtlacfenenbblaaaGreatDoor
open Go.RowKit
set_option linter.unusedVariables false

def vM (X R : List UInt8) (a : Nat) : List Ac → List Pf → Ac × Bool × Int
  | m :: n :: _, q :: s :: _ => (ac0, false, gpE X R a m n q s)
  | m :: _, q :: _ => (onA X R a m q, onF X R a m q, onE X R a m q)
  | _, _ => (ac0, false, noE X R)
/-- What a witness tells: the account, whether it is there, what is wrong. -/
def vA (X R : List UInt8) (a : Nat) (l : List Ac) (qs : List Pf) : Ac × Bool × Int := if 2 < l.length ∨ qs.length ≠ l.length then (ac0, false, 20) else vM X R a l qs
set_option maxRecDepth 100000 in
set_option maxHeartbeats 16000000 in
theorem ver5_bad (w : World) (X R : List UInt8) (hX : X.length = 32) (hR : R.length = 32) (a : Nat) (a1 p1 : Option Addr) (na ca np cp : Nat) (hb : 2 < na ∨ np ≠ na) (hna : na ≤ 9223372036854775807) (hnp : np ≤ 9223372036854775807) :
    Calls Tryz.prog 7 #[.agg (hb32 X), .int .u64 a, .agg (wtL R (.slice a1 na ca) (.slice p1 np cp)).toArray] w fun e w' => e = .returned (.tuple #[.agg AZ, .bool false, .int .i64 20]) ∧ Turn no w w' := by
  have lW := wtL_len hR (.slice a1 na ca) (.slice p1 np cp)
  obtain ⟨w0, hw0⟩ : ∃ w0, ((w.alloc (.cells (hb32 X) 29)).alloc (.cells (wtL R (.slice a1 na ca) (.slice p1 np cp)).toArray 32)).alloc (.cells AZ 38) = w0 := ⟨_, rfl⟩
  have T0 : Turn no w w0 := by rw [← hw0]; exact (((Turn.refl no w).alloc _).alloc _).alloc _
  have RX : Row w0 w.heap.size (hb32 X) 29 := by rw [← hw0]; exact ((Row.new w _ 29).alloc _).alloc _
  have RW : Row w0 (w.heap.size + 1) (wtL R (.slice a1 na ca) (.slice p1 np cp)).toArray 32 := by rw [← hw0]; exact (Row.newAt _ _ _ _ (by simp)).alloc _
  have RZ : Row w0 (w.heap.size + 2) AZ 38 := by rw [← hw0]; exact Row.newAt _ _ _ _ (by simp)
  have y32 := RW.cell 32 _ (wtL_32 hR _ _)
  have y33 := RW.cell 33 _ (wtL_33 hR _ _)
  have iX := hb32_info hX
  have iW : (Tryz.prog.info? 32).map (·.size) = some (wtL R (.slice a1 na ca) (.slice p1 np cp)).toArray.size := by rw [List.size_toArray, lW]; exact size29w
  have iA0 := acs_info ac0
  have oA0 := acs_one ac0
  rw [show (acs ac0).toArray = AZ from rfl] at iA0 oA0
  have hz32 := zero32v
  have hbd := shut bld32v
  have HT0 := shut T0
  generalize AZ = AZ0 at *
  generalize hb32 X = XA at *
  generalize (wtL R (.slice a1 na ca) (.slice p1 np cp)).toArray = WA at *
  clear lW hR hX T0
  go_enter Tryz.func7, Tryz.ntmps7
  go_upto_region 1 with fail
  try rw [hw0]
  clear hw0
  by_cases h : 2 < na
  · have h' : (2 : Int) < (na : Int) := by omega
    clear hb
    go_wp2_with (first | (guard_target =~ wpList _ _ _ ({ dst := _, op := Op.build 38 _, .. } :: _) _ _; refine wpList_buildG (by kernel_rfl) 38 rfl _ (hbd.out _) ?_) | (guard_target =~ wpList _ _ _ ({ dst := _, op := Op.store 38 _ _, .. } :: _) _ _; refine wpList_store_anyN rfl rfl 38 (.tmp 6) (.tmp 22) rfl (w.heap.size + 2) AZ0 rfl rfl 38 AZ0 RZ iA0 rfl oA0 ?_; intro w9 R9 T9))
    refine bodyPost_ret (v := .tuple #[.agg AZ0, .bool false, .int .i64 20]) (results_c3 (P := Tryz.prog) Tryz.results7 _ _ (w.heap.size + 2) 38 AZ0 (0, 0) _ rfl R9 Tryz.underlying38 rfl iA0) rfl ⟨rfl, HT0.out.trans T9 (fun i hi q => by have q2 : i = w.heap.size + 2 := q; omega)⟩
  · have h' : ¬ (2 : Int) < (na : Int) := by omega
    have h2 : ((np : Int) != (na : Int)) = true := by
      have : np ≠ na := by omega
      simp
      omega
    clear hb
    go_wp2_with (first | (guard_target =~ wpList _ _ _ ({ dst := _, op := Op.build 38 _, .. } :: _) _ _; refine wpList_buildG (by kernel_rfl) 38 rfl _ (hbd.out _) ?_) | (guard_target =~ wpList _ _ _ ({ dst := _, op := Op.store 38 _ _, .. } :: _) _ _; refine wpList_store_anyN rfl rfl 38 (.tmp 6) (.tmp 22) rfl (w.heap.size + 2) AZ0 rfl rfl 38 AZ0 RZ iA0 rfl oA0 ?_; intro w9 R9 T9))
    refine bodyPost_ret (v := .tuple #[.agg AZ0, .bool false, .int .i64 20]) (results_c3 (P := Tryz.prog) Tryz.results7 _ _ (w.heap.size + 2) 38 AZ0 (0, 0) _ rfl R9 Tryz.underlying38 rfl iA0) rfl ⟨rfl, HT0.out.trans T9 (fun i hi q => by have q2 : i = w.heap.size + 2 := q; omega)⟩
set_option maxRecDepth 100000 in
set_option maxHeartbeats 16000000 in
theorem ver5_none (w : World) (X R : List UInt8) (hX : X.length = 32) (hR : R.length = 32) (a : Nat) (a1 p1 : Option Addr) (na ca np cp : Nat) (hna : na = 0) (hnp : np = 0) (e0 : Int)
    (K : ∀ W, Turn no w W → Calls Tryz.prog 30 #[.agg (hb32 X), .agg (wtL R (.slice a1 na ca) (.slice p1 np cp)).toArray] W fun e w' => e = .returned (.int .i64 e0) ∧ Turn no W w') :
    Calls Tryz.prog 7 #[.agg (hb32 X), .int .u64 a, .agg (wtL R (.slice a1 na ca) (.slice p1 np cp)).toArray] w fun e w' => e = .returned (.tuple #[.agg AZ, .bool false, .int .i64 e0]) ∧ Turn no w w' := by
  subst hna
  subst hnp
  have lW := wtL_len hR (.slice a1 0 ca) (.slice p1 0 cp)
  obtain ⟨w0, hw0⟩ : ∃ w0, ((w.alloc (.cells (hb32 X) 29)).alloc (.cells (wtL R (.slice a1 0 ca) (.slice p1 0 cp)).toArray 32)).alloc (.cells AZ 38) = w0 := ⟨_, rfl⟩
  have T0 : Turn no w w0 := by rw [← hw0]; exact (((Turn.refl no w).alloc _).alloc _).alloc _
  have RX : Row w0 w.heap.size (hb32 X) 29 := by rw [← hw0]; exact ((Row.new w _ 29).alloc _).alloc _
  have RW : Row w0 (w.heap.size + 1) (wtL R (.slice a1 0 ca) (.slice p1 0 cp)).toArray 32 := by rw [← hw0]; exact (Row.newAt _ _ _ _ (by simp)).alloc _
  have RZ : Row w0 (w.heap.size + 2) AZ 38 := by rw [← hw0]; exact Row.newAt _ _ _ _ (by simp)
  have y32 := RW.cell 32 _ (wtL_32 hR _ _)
  have y33 := RW.cell 33 _ (wtL_33 hR _ _)
  have iX := hb32_info hX
  have iW : (Tryz.prog.info? 32).map (·.size) = some (wtL R (.slice a1 0 ca) (.slice p1 0 cp)).toArray.size := by rw [List.size_toArray, lW]; exact size29w
  have iA0 := acs_info ac0
  have oA0 := acs_one ac0
  rw [show (acs ac0).toArray = AZ from rfl] at iA0 oA0
  have hz32 := zero32v
  have hbd := shut bld32v
  have HT0 := shut T0
  have KC := K w0 T0
  generalize AZ = AZ0 at *
  generalize hb32 X = XA at *
  generalize (wtL R (.slice a1 0 ca) (.slice p1 0 cp)).toArray = WA at *
  clear K lW hR hX T0
  go_enter Tryz.func7, Tryz.ntmps7
  go_upto_region 1 with fail
  try rw [hw0]
  clear hw0
  go_wp2_with (first | (guard_target =~ wpList _ _ _ ({ dst := _, op := Op.build 38 _, .. } :: _) _ _; refine wpList_buildG (by kernel_rfl) 38 rfl _ (hbd.out _) ?_) | (guard_target =~ wpList _ _ _ ({ dst := some 29, .. } :: _) _ _; refine wpList_load_row rfl 29 (.tmp 3) rfl w.heap.size rfl 29 XA _ _ RX Tryz.underlying29 rfl iX ?_) | (guard_target =~ wpList _ _ _ ({ dst := some 30, .. } :: _) _ _; refine wpList_load_row rfl 32 (.tmp 5) rfl (w.heap.size + 1) rfl 32 WA _ _ RW Tryz.underlying32 rfl iW ?_) | (go_at_call 30; refine KC.mono ?_; clear KC; rintro e w4 ⟨rfl, t4⟩; have RZ4 := Row.turn RZ t4 (fun q => q)) | (guard_target =~ wpList _ _ _ ({ dst := _, op := Op.store 38 _ _, .. } :: _) _ _; refine wpList_store_anyN rfl rfl 38 (.tmp 6) (.tmp 28) rfl (w.heap.size + 2) AZ0 rfl rfl 38 AZ0 RZ4 iA0 rfl oA0 ?_; intro w9 R9 T9))
  refine bodyPost_ret (v := .tuple #[.agg AZ0, .bool false, .int .i64 e0]) (results_c3 (P := Tryz.prog) Tryz.results7 _ _ (w.heap.size + 2) 38 AZ0 (0, 0) _ rfl R9 Tryz.underlying38 rfl iA0) rfl ⟨rfl, (HT0.out.then_no t4).trans T9 (fun i hi q => by have q2 : i = w.heap.size + 2 := q; omega)⟩
set_option maxRecDepth 100000 in
set_option maxHeartbeats 16000000 in
theorem ver5_one (w : World) (X R : List UInt8) (hX : X.length = 32) (hR : R.length = 32) (a : Nat) (a1 p1 : Option Addr) (na ca np cp : Nat) (hna : na = 1) (hnp : np = 1) (m1 : Ac) (b1 : Bool) (e0 : Int)
    (K : ∀ W, Turn no w W → Calls Tryz.prog 31 #[.agg (hb32 X), .int .u64 a, .agg (wtL R (.slice a1 na ca) (.slice p1 np cp)).toArray] W fun e w' => e = .returned (.tuple #[.agg (acs m1).toArray, .bool b1, .int .i64 e0]) ∧ Turn no W w') :
    Calls Tryz.prog 7 #[.agg (hb32 X), .int .u64 a, .agg (wtL R (.slice a1 na ca) (.slice p1 np cp)).toArray] w fun e w' => e = .returned (.tuple #[.agg (acs m1).toArray, .bool b1, .int .i64 e0]) ∧ Turn no w w' := by
  subst hna
  subst hnp
  have lW := wtL_len hR (.slice a1 1 ca) (.slice p1 1 cp)
  obtain ⟨w0, hw0⟩ : ∃ w0, ((w.alloc (.cells (hb32 X) 29)).alloc (.cells (wtL R (.slice a1 1 ca) (.slice p1 1 cp)).toArray 32)).alloc (.cells AZ 38) = w0 := ⟨_, rfl⟩
  have T0 : Turn no w w0 := by rw [← hw0]; exact (((Turn.refl no w).alloc _).alloc _).alloc _
  have RX : Row w0 w.heap.size (hb32 X) 29 := by rw [← hw0]; exact ((Row.new w _ 29).alloc _).alloc _
  have RW : Row w0 (w.heap.size + 1) (wtL R (.slice a1 1 ca) (.slice p1 1 cp)).toArray 32 := by rw [← hw0]; exact (Row.newAt _ _ _ _ (by simp)).alloc _
  have RZ : Row w0 (w.heap.size + 2) AZ 38 := by rw [← hw0]; exact Row.newAt _ _ _ _ (by simp)
  have y32 := RW.cell 32 _ (wtL_32 hR _ _)
  have y33 := RW.cell 33 _ (wtL_33 hR _ _)
  have iX := hb32_info hX
  have iW : (Tryz.prog.info? 32).map (·.size) = some (wtL R (.slice a1 1 ca) (.slice p1 1 cp)).toArray.size := by rw [List.size_toArray, lW]; exact size29w
  have iA0 := acs_info ac0
  have oA0 := acs_one ac0
  rw [show (acs ac0).toArray = AZ from rfl] at iA0 oA0
  have hz32 := zero32v
  have hbd := shut bld32v
  have HT0 := shut T0
  have KC := K w0 T0
  have iM := acs_info m1
  have oM := acs_one m1
  have sM : AZ.size = (acs m1).toArray.size := rfl
  generalize (acs m1).toArray = M0 at *
  generalize AZ = AZ0 at *
  generalize hb32 X = XA at *
  generalize (wtL R (.slice a1 1 ca) (.slice p1 1 cp)).toArray = WA at *
  clear K lW hR hX T0
  go_enter Tryz.func7, Tryz.ntmps7
  go_upto_region 1 with fail
  try rw [hw0]
  clear hw0
  go_wp2_with (first | (guard_target =~ wpList _ _ _ ({ dst := some 34, .. } :: _) _ _; refine wpList_load_row rfl 29 (.tmp 3) rfl w.heap.size rfl 29 XA _ _ RX Tryz.underlying29 rfl iX ?_) | (guard_target =~ wpList _ _ _ ({ dst := some 36, .. } :: _) _ _; refine wpList_load_row rfl 32 (.tmp 5) rfl (w.heap.size + 1) rfl 32 WA _ _ RW Tryz.underlying32 rfl iW ?_) | (go_at_call 31; refine KC.mono ?_; clear KC; rintro e w4 ⟨rfl, t4⟩; have RZ4 := Row.turn RZ t4 (fun q => q)) | (guard_target =~ wpList _ _ _ ({ dst := _, op := Op.store 38 _ _, .. } :: _) _ _; refine wpList_store_anyN rfl rfl 38 (.tmp 6) (.tmp 38) rfl (w.heap.size + 2) M0 rfl rfl 38 AZ0 RZ4 iM sM oM ?_; intro w9 R9 T9))
  refine bodyPost_ret (v := .tuple #[.agg M0, .bool b1, .int .i64 e0]) (results_c3 (P := Tryz.prog) Tryz.results7 _ _ (w.heap.size + 2) 38 M0 (0, 0) _ rfl R9 Tryz.underlying38 rfl iM) rfl ⟨rfl, (HT0.out.then_no t4).trans T9 (fun i hi q => by have q2 : i = w.heap.size + 2 := q; omega)⟩
set_option maxRecDepth 100000 in
set_option maxHeartbeats 16000000 in
theorem ver5_two (w : World) (X R : List UInt8) (hX : X.length = 32) (hR : R.length = 32) (a : Nat) (a1 p1 : Option Addr) (na ca np cp : Nat) (hna : na = 2) (hnp : np = 2) (e0 : Int)
    (K : ∀ W, Turn no w W → Calls Tryz.prog 32 #[.agg (hb32 X), .int .u64 a, .agg (wtL R (.slice a1 na ca) (.slice p1 np cp)).toArray] W fun e w' => e = .returned (.int .i64 e0) ∧ Turn no W w') :
    Calls Tryz.prog 7 #[.agg (hb32 X), .int .u64 a, .agg (wtL R (.slice a1 na ca) (.slice p1 np cp)).toArray] w fun e w' => e = .returned (.tuple #[.agg AZ, .bool false, .int .i64 e0]) ∧ Turn no w w' := by
  subst hna
  subst hnp
  have lW := wtL_len hR (.slice a1 2 ca) (.slice p1 2 cp)
  obtain ⟨w0, hw0⟩ : ∃ w0, ((w.alloc (.cells (hb32 X) 29)).alloc (.cells (wtL R (.slice a1 2 ca) (.slice p1 2 cp)).toArray 32)).alloc (.cells AZ 38) = w0 := ⟨_, rfl⟩
  have T0 : Turn no w w0 := by rw [← hw0]; exact (((Turn.refl no w).alloc _).alloc _).alloc _
  have RX : Row w0 w.heap.size (hb32 X) 29 := by rw [← hw0]; exact ((Row.new w _ 29).alloc _).alloc _
  have RW : Row w0 (w.heap.size + 1) (wtL R (.slice a1 2 ca) (.slice p1 2 cp)).toArray 32 := by rw [← hw0]; exact (Row.newAt _ _ _ _ (by simp)).alloc _
  have RZ : Row w0 (w.heap.size + 2) AZ 38 := by rw [← hw0]; exact Row.newAt _ _ _ _ (by simp)
  have y32 := RW.cell 32 _ (wtL_32 hR _ _)
  have y33 := RW.cell 33 _ (wtL_33 hR _ _)
  have iX := hb32_info hX
  have iW : (Tryz.prog.info? 32).map (·.size) = some (wtL R (.slice a1 2 ca) (.slice p1 2 cp)).toArray.size := by rw [List.size_toArray, lW]; exact size29w
  have iA0 := acs_info ac0
  have oA0 := acs_one ac0
  rw [show (acs ac0).toArray = AZ from rfl] at iA0 oA0
  have hz32 := zero32v
  have hbd := shut bld32v
  have HT0 := shut T0
  have KC := K w0 T0
  generalize AZ = AZ0 at *
  generalize hb32 X = XA at *
  generalize (wtL R (.slice a1 2 ca) (.slice p1 2 cp)).toArray = WA at *
  clear K lW hR hX T0
  go_enter Tryz.func7, Tryz.ntmps7
  go_upto_region 1 with fail
  try rw [hw0]
  clear hw0
  go_wp2_with (first | (guard_target =~ wpList _ _ _ ({ dst := _, op := Op.build 38 _, .. } :: _) _ _; refine wpList_buildG (by kernel_rfl) 38 rfl _ (hbd.out _) ?_) | (guard_target =~ wpList _ _ _ ({ dst := some 42, .. } :: _) _ _; refine wpList_load_row rfl 29 (.tmp 3) rfl w.heap.size rfl 29 XA _ _ RX Tryz.underlying29 rfl iX ?_) | (guard_target =~ wpList _ _ _ ({ dst := some 44, .. } :: _) _ _; refine wpList_load_row rfl 32 (.tmp 5) rfl (w.heap.size + 1) rfl 32 WA _ _ RW Tryz.underlying32 rfl iW ?_) | (go_at_call 32; refine KC.mono ?_; clear KC; rintro e w4 ⟨rfl, t4⟩; have RZ4 := Row.turn RZ t4 (fun q => q)) | (guard_target =~ wpList _ _ _ ({ dst := _, op := Op.store 38 _ _, .. } :: _) _ _; refine wpList_store_anyN rfl rfl 38 (.tmp 6) (.tmp 41) rfl (w.heap.size + 2) AZ0 rfl rfl 38 AZ0 RZ4 iA0 rfl oA0 ?_; intro w9 R9 T9))
  refine bodyPost_ret (v := .tuple #[.agg AZ0, .bool false, .int .i64 e0]) (results_c3 (P := Tryz.prog) Tryz.results7 _ _ (w.heap.size + 2) 38 AZ0 (0, 0) _ rfl R9 Tryz.underlying38 rfl iA0) rfl ⟨rfl, (HT0.out.then_no t4).trans T9 (fun i hi q => by have q2 : i = w.heap.size + 2 := q; omega)⟩
theorem ver5 (w : World) (hl : Laid1 w) (h2 : 2 ≤ w.heap.size) (X R : List UInt8) (hX : X.length = 32) (hR : R.length = 32) (a : Nat) (va vp : Value) (l : List Ac) (qs : List Pf) (ha : As w va l) (hq : Qs w vp qs) :
    Calls Tryz.prog 7 #[.agg (hb32 X), .int .u64 a, .agg (wtL R va vp).toArray] w fun e w' => e = .returned (.tuple #[.agg (acs (vA X R a l qs).1).toArray, .bool (vA X R a l qs).2.1, .int .i64 (vA X R a l qs).2.2]) ∧ Turn no w w' := by
  have HW : ∀ W, Turn no w W → Laid1 W ∧ 2 ≤ W.heap.size ∧ As W va l ∧ Qs W vp qs := fun W t => ⟨hl.turn t (fun q => q), by have := t.size; omega, ha.turn_no t, by obtain ⟨p, c, e, h⟩ := hq; exact ⟨p, c, e, h.turn_no t⟩⟩
  obtain ⟨a1, ca, rfl, hA⟩ := ha
  obtain ⟨p1, cp, rfl, hQ⟩ := hq
  have nal : l.length ≤ 9223372036854775807 := by have := hA.le; have := hA.cap; simp only [maxLen] at *; omega
  have npl : qs.length ≤ 9223372036854775807 := by have := hQ.le; have := hQ.cap; simp only [maxLen] at *; omega
  by_cases hb : 2 < l.length ∨ qs.length ≠ l.length
  · rw [show vA X R a l qs = (ac0, false, 20) by unfold vA; rw [if_pos hb]]
    exact ver5_bad w X R hX hR a a1 p1 _ ca _ cp hb nal npl
  · have hv : vA X R a l qs = vM X R a l qs := by unfold vA; rw [if_neg hb]
    rw [hv]
    clear hv
    rcases l with _ | ⟨m, _ | ⟨n, _ | ⟨k, l⟩⟩⟩ <;> rcases qs with _ | ⟨q, _ | ⟨s, _ | ⟨r, qs⟩⟩⟩ <;> first | (exfalso; simp at hb; done) | skip
    · exact ver5_none w X R hX hR a a1 p1 _ ca _ cp rfl rfl _ (fun W t => none10 W (HW W t).1 (HW W t).2.1 X R hX hR _ _)
    · exact ver5_one w X R hX hR a a1 p1 _ ca _ cp rfl rfl _ _ _ (fun W t => one11 W (HW W t).1 (HW W t).2.1 X R hX hR a _ _ m [] q [] (HW W t).2.2.1 (HW W t).2.2.2)
    · exact ver5_two w X R hX hR a a1 p1 _ ca _ cp rfl rfl _ (fun W t => gap12 W (HW W t).1 (HW W t).2.1 X R hX hR a _ _ m n [] q s [] (HW W t).2.2.1 (HW W t).2.2.2)
end Go.Proofs.YtlacfenenbblaaaGreatDoor


