/- Begin. -/
import Derived.Test.YtbhimedajfkioaaT1
namespace Go.Proofs.Ytbhimedajfkioaa
open Go.RowKit
set_option linter.unusedVariables false

section
variable {P : Program} {ops : Array Oper} {rest : List Oper} {o : Oper} {a : Act} {w : World} {Q : Exit → Act → World → Prop}
theorem wpList_build_none (hg : o.guard = none) (t : TypeId) (ho : o.op = .build t #[]) (cells : Array Value) (hf : P.built t [] = some cells) (h : wpList P ops Q rest (a.put o.dst (.agg cells)) w) : wpList P ops Q (o :: rest) a w := by
  have e : ((#[] : Array (Nat × Operand)).map fun (i, x) => (i, a.eval x)).toList = [] := by simp
  exact wpList_build hg t _ ho (by rw [e, hf]; rfl) (by rw [e, hf]; exact h)
theorem wpList_build_six (hg : o.guard = none) (t : TypeId) (i0 i1 i2 i3 i4 i5 : Nat) (x0 x1 x2 x3 x4 x5 : Operand) (ho : o.op = .build t #[(i0, x0), (i1, x1), (i2, x2), (i3, x3), (i4, x4), (i5, x5)]) (v0 v1 v2 v3 v4 v5 : Value)
    (h0 : a.eval x0 = v0) (h1 : a.eval x1 = v1) (h2 : a.eval x2 = v2) (h3 : a.eval x3 = v3) (h4 : a.eval x4 = v4) (h5 : a.eval x5 = v5) (cells : Array Value)
    (hf : P.built t [(i0, v0), (i1, v1), (i2, v2), (i3, v3), (i4, v4), (i5, v5)] = some cells) (h : wpList P ops Q rest (a.put o.dst (.agg cells)) w) : wpList P ops Q (o :: rest) a w := by
  have e : (#[(i0, x0), (i1, x1), (i2, x2), (i3, x3), (i4, x4), (i5, x5)].map fun (i, x) => (i, a.eval x)).toList = [(i0, v0), (i1, v1), (i2, v2), (i3, v3), (i4, v4), (i5, v5)] := by simp [h0, h1, h2, h3, h4, h5]
  exact wpList_build hg t _ ho (by rw [e, hf]; rfl) (by rw [e, hf]; exact h)
end

set_option maxRecDepth 100000 in
set_option maxHeartbeats 20000000 in
/-- Wrong arguments. -/
theorem begin13_arg (w : World) (s : ByteArray) (t : Nat) (va : Value) (p : Pm) (l : List Ac) (ha : As w va l) (hA : argB s t p = false) : Calls Try.prog 13 #[.agg (gnL s t va p).toArray] w fun e w' => e = .returned (.tuple #[.agg stZ.toArray, .int .i64 2]) ∧ Turn no w w' := by
  obtain ⟨w0, hw0⟩ : ∃ w0, (w.alloc (.cells (gnL s t va p).toArray 56)).alloc (.cells #[.string ⟨#[]⟩, .int .u64 0, .int .i64 0, .int .u64 0, .int .u64 0, .int .u64 0, .int .i64 0, .int .u64 0, .int .u64 0, .int .u64 0, .int .u64 0, .int .u64 0, .int .u64 0, .int .u64 0, .int .u64 0, .int .u8 0, .int .u8 0, .int .u8 0, .int .u8 0, .int .u8 0, .int .u8 0, .int .u8 0, .int .u8 0, .int .u8 0, .int .u8 0, .int .u8 0, .int .u8 0, .int .u8 0, .int .u8 0, .int .u8 0, .int .u8 0, .int .u8 0, .int .u8 0, .int .u8 0, .int .u8 0, .int .u8 0, .int .u8 0, .int .u8 0, .int .u8 0, .int .u8 0, .int .u8 0, .int .u8 0, .int .u8 0, .int .u8 0, .int .u8 0, .int .u8 0, .int .u8 0, .slice none 0 0, .slice none 0 0, .slice none 0 0, .slice none 0 0, .slice none 0 0, .slice none 0 0, .int .u64 0, .int .u64 0] 65) = w0 := ⟨_, rfl⟩
  have T0 : Turn no w w0 := by rw [← hw0]; exact ((Turn.refl no w).alloc _).alloc _
  have B0 : Row w0 w.heap.size (gnL s t va p).toArray 56 := by rw [← hw0]; exact (Row.new w _ 56).alloc _
  have B1 : Row w0 (w.heap.size + 1) stZ.toArray 65 := by rw [← hw0]; exact Row.newAt _ _ _ _ (by simp)
  have x0 : w0.cell? ⟨w.heap.size, 0, none⟩ = some (.string s) := B0.cell 0 _ rfl
  have x1 : w0.cell? ⟨w.heap.size, 1, none⟩ = some (.int .u64 t) := B0.cell 1 _ rfl
  have x3 : w0.rangeAt w.heap.size 3 (pmL p) := fun j x hx => B0.cell (3 + j) _ (gnL_pm s t va p j x hx)
  have hi54 := size54 p
  have HT0 := shut T0
  have cN : ∀ W, Calls Try.prog 26 #[.string s] W fun e w' => e = .returned (.bool (nameB s.size)) ∧ w' = W := fun W => isName26 W s
  have cF : ∀ W, Calls Try.prog 27 #[.agg (pmL p).toArray] W fun e w' => e = .returned (.bool (fitB p)) ∧ Turn no W w' := fun W => isFit27 W p
  have HE : Shut ((gnL s t va p).toArray.size = 15) := rfl
  clear B0 T0 ha
  obtain ⟨C0, hC0⟩ : ∃ C0, Hid ((gnL s t va p).toArray = C0) := ⟨_, rfl⟩
  rw [hC0.out] at hw0
  rw [hC0.out]
  obtain ⟨ip, hip⟩ : ∃ ip, Hid (pmL p = ip) := ⟨_, rfl⟩
  rw [hip.out] at hi54 x3 cF
  obtain ⟨zs, hzs⟩ : ∃ zs, Hid (stZ.toArray = zs) := ⟨_, rfl⟩
  have hbz : Try.prog.built 65 [] = some zs := by rw [← hzs.out]; exact built65z
  have hzi : (Try.prog.info? 65).map (·.size) = some zs.size := by rw [← hzs.out]; exact sizez
  have hz1 : zs.all (·.oneCell') = true := by rw [← hzs.out]; exact onez
  rw [hzs.out] at B1 ⊢
  clear hip hzs hC0 HE
  unfold argB at hA
  generalize nameB s.size = bn at *
  generalize fitB p = bf at *
  go_enter Try.func13, Try.ntmps13
  go_upto_region 1 with fail
  try rw [hw0]
  clear hw0
  cases bn with
  | false =>
    go_wp2_with (first | (go_at_call 26; refine (cN _).mono ?_; rintro e w1 ⟨rfl, rfl⟩) | (refine wpList_build_none rfl 65 rfl zs hbz ?_) | (refine wpList_store_anyN rfl rfl 65 (.tmp 2) (.tmp 24) rfl (w.heap.size + 1) zs rfl rfl 65 zs B1 hzi rfl hz1 ?_; intro w2 R2 T2; have HR2 := shut R2; have HT2 := shut (HT0.out.trans T2 (fun k hk q => by have : k = w.heap.size + 1 := q; omega)); clear R2 T2))
    refine ⟨rfl, _, results_cell_row_tmp (g := w.heap.size + 1) (cs := zs) (t := 65) rfl _ _ _ _ rfl HR2.out Try.underlying65 rfl hzi, rfl, HT2.out⟩
  | true =>
    by_cases ht : t ≤ 1125899906842624
    · have hf : bf = false := by simpa [ht] using hA
      subst hf
      have ht' : decide ((1125899906842624 : Int) < (t : Int)) = false := by simp; omega
      go_wp2_with (first | (go_at_call 26; refine (cN _).mono ?_; rintro e w1 ⟨rfl, rfl⟩) | (refine wpList_load_midG (by rfl) 54 (.tmp 19) rfl w.heap.size 3 rfl ip _ x3 Try.underlying54 rfl hi54 ?_) | (go_at_call 27; refine (cF _).mono ?_; rintro e w1 ⟨rfl, t1⟩; have B2 := B1.turn t1 (fun q => q); have HT1 := shut (HT0.out.then_no t1); clear B1 t1 x0 x1 x3) | (refine wpList_build_none rfl 65 rfl zs hbz ?_) | (refine wpList_store_anyN rfl rfl 65 (.tmp 2) (.tmp 24) rfl (w.heap.size + 1) zs rfl rfl 65 zs B2 hzi rfl hz1 ?_; intro w2 R2 T2; have HR2 := shut R2; have HT2 := shut (HT1.out.trans T2 (fun k hk q => by have : k = w.heap.size + 1 := q; omega)); clear R2 T2))
      refine ⟨rfl, _, results_cell_row_tmp (g := w.heap.size + 1) (cs := zs) (t := 65) rfl _ _ _ _ rfl HR2.out Try.underlying65 rfl hzi, rfl, HT2.out⟩
    · have ht' : (1125899906842624 : Int) < (t : Int) := by omega
      go_wp2_with (first | (go_at_call 26; refine (cN _).mono ?_; rintro e w1 ⟨rfl, rfl⟩) | (refine wpList_build_none rfl 65 rfl zs hbz ?_) | (refine wpList_store_anyN rfl rfl 65 (.tmp 2) (.tmp 24) rfl (w.heap.size + 1) zs rfl rfl 65 zs B1 hzi rfl hz1 ?_; intro w2 R2 T2; have HR2 := shut R2; have HT2 := shut (HT0.out.trans T2 (fun k hk q => by have : k = w.heap.size + 1 := q; omega)); clear R2 T2))
      refine ⟨rfl, _, results_cell_row_tmp (g := w.heap.size + 1) (cs := zs) (t := 65) rfl _ _ _ _ rfl HR2.out Try.underlying65 rfl hzi, rfl, HT2.out⟩

set_option maxRecDepth 100000 in
set_option maxHeartbeats 20000000 in
/-- Wrong arguments. -/
theorem begin14_arg (w : World) (s : ByteArray) (t : Nat) (va : Value) (p : Pm) (l : List Ac) (ha : As w va l) (hA : argB s t p = false) : Calls Try.prog 14 #[.agg (gnL s t va p).toArray] w fun e w' => e = .returned (.tuple #[.agg stZ.toArray, .int .i64 2]) ∧ Turn no w w' := by
  obtain ⟨w0, hw0⟩ : ∃ w0, (w.alloc (.cells (gnL s t va p).toArray 56)).alloc (.cells #[.string ⟨#[]⟩, .int .u64 0, .int .i64 0, .int .u64 0, .int .u64 0, .int .u64 0, .int .i64 0, .int .u64 0, .int .u64 0, .int .u64 0, .int .u64 0, .int .u64 0, .int .u64 0, .int .u64 0, .int .u64 0, .int .u8 0, .int .u8 0, .int .u8 0, .int .u8 0, .int .u8 0, .int .u8 0, .int .u8 0, .int .u8 0, .int .u8 0, .int .u8 0, .int .u8 0, .int .u8 0, .int .u8 0, .int .u8 0, .int .u8 0, .int .u8 0, .int .u8 0, .int .u8 0, .int .u8 0, .int .u8 0, .int .u8 0, .int .u8 0, .int .u8 0, .int .u8 0, .int .u8 0, .int .u8 0, .int .u8 0, .int .u8 0, .int .u8 0, .int .u8 0, .int .u8 0, .int .u8 0, .slice none 0 0, .slice none 0 0, .slice none 0 0, .slice none 0 0, .slice none 0 0, .slice none 0 0, .int .u64 0, .int .u64 0] 65) = w0 := ⟨_, rfl⟩
  have T0 : Turn no w w0 := by rw [← hw0]; exact ((Turn.refl no w).alloc _).alloc _
  have B0 : Row w0 w.heap.size (gnL s t va p).toArray 56 := by rw [← hw0]; exact (Row.new w _ 56).alloc _
  have B1 : Row w0 (w.heap.size + 1) stZ.toArray 65 := by rw [← hw0]; exact Row.newAt _ _ _ _ (by simp)
  have x0 : w0.cell? ⟨w.heap.size, 0, none⟩ = some (.string s) := B0.cell 0 _ rfl
  have x1 : w0.cell? ⟨w.heap.size, 1, none⟩ = some (.int .u64 t) := B0.cell 1 _ rfl
  have x3 : w0.rangeAt w.heap.size 3 (pmL p) := fun j x hx => B0.cell (3 + j) _ (gnL_pm s t va p j x hx)
  have hi54 := size54 p
  have HT0 := shut T0
  have cN : ∀ W, Calls Try.prog 32 #[.string s] W fun e w' => e = .returned (.bool (nameB s.size)) ∧ w' = W := fun W => plain32 W s
  have cF : ∀ W, Calls Try.prog 33 #[.agg (pmL p).toArray] W fun e w' => e = .returned (.bool (fitB p)) ∧ Turn no W w' := fun W => fit33 W p
  have HE : Shut ((gnL s t va p).toArray.size = 15) := rfl
  clear B0 T0 ha
  obtain ⟨C0, hC0⟩ : ∃ C0, Hid ((gnL s t va p).toArray = C0) := ⟨_, rfl⟩
  rw [hC0.out] at hw0
  rw [hC0.out]
  obtain ⟨ip, hip⟩ : ∃ ip, Hid (pmL p = ip) := ⟨_, rfl⟩
  rw [hip.out] at hi54 x3 cF
  obtain ⟨zs, hzs⟩ : ∃ zs, Hid (stZ.toArray = zs) := ⟨_, rfl⟩
  have hbz : Try.prog.built 65 [] = some zs := by rw [← hzs.out]; exact built65z
  have hzi : (Try.prog.info? 65).map (·.size) = some zs.size := by rw [← hzs.out]; exact sizez
  have hz1 : zs.all (·.oneCell') = true := by rw [← hzs.out]; exact onez
  rw [hzs.out] at B1 ⊢
  clear hip hzs hC0 HE
  unfold argB at hA
  generalize nameB s.size = bn at *
  generalize fitB p = bf at *
  go_enter Try.func14, Try.ntmps14
  go_upto_region 1 with fail
  try rw [hw0]
  clear hw0
  cases bn with
  | false =>
    go_wp2_with (first | (go_at_call 32; refine (cN _).mono ?_; rintro e w1 ⟨rfl, rfl⟩) | (refine wpList_build_none rfl 65 rfl zs hbz ?_) | (refine wpList_store_anyN rfl rfl 65 (.tmp 2) (.tmp 25) rfl (w.heap.size + 1) zs rfl rfl 65 zs B1 hzi rfl hz1 ?_; intro w2 R2 T2; have HR2 := shut R2; have HT2 := shut (HT0.out.trans T2 (fun k hk q => by have : k = w.heap.size + 1 := q; omega)); clear R2 T2))
    refine ⟨rfl, _, results_cell_row_tmp (g := w.heap.size + 1) (cs := zs) (t := 65) rfl _ _ _ _ rfl HR2.out Try.underlying65 rfl hzi, rfl, HT2.out⟩
  | true =>
    by_cases ht : t ≤ 1125899906842624
    · have hf : bf = false := by simpa [ht] using hA
      subst hf
      have ht' : decide ((1125899906842624 : Int) < (t : Int)) = false := by simp; omega
      go_wp2_with (first | (go_at_call 32; refine (cN _).mono ?_; rintro e w1 ⟨rfl, rfl⟩) | (refine wpList_load_midG (by rfl) 54 (.tmp 20) rfl w.heap.size 3 rfl ip _ x3 Try.underlying54 rfl hi54 ?_) | (go_at_call 33; refine (cF _).mono ?_; rintro e w1 ⟨rfl, t1⟩; have B2 := B1.turn t1 (fun q => q); have HT1 := shut (HT0.out.then_no t1); clear B1 t1 x0 x1 x3) | (refine wpList_build_none rfl 65 rfl zs hbz ?_) | (refine wpList_store_anyN rfl rfl 65 (.tmp 2) (.tmp 25) rfl (w.heap.size + 1) zs rfl rfl 65 zs B2 hzi rfl hz1 ?_; intro w2 R2 T2; have HR2 := shut R2; have HT2 := shut (HT1.out.trans T2 (fun k hk q => by have : k = w.heap.size + 1 := q; omega)); clear R2 T2))
      refine ⟨rfl, _, results_cell_row_tmp (g := w.heap.size + 1) (cs := zs) (t := 65) rfl _ _ _ _ rfl HR2.out Try.underlying65 rfl hzi, rfl, HT2.out⟩
    · have ht' : (1125899906842624 : Int) < (t : Int) := by omega
      go_wp2_with (first | (go_at_call 32; refine (cN _).mono ?_; rintro e w1 ⟨rfl, rfl⟩) | (refine wpList_build_none rfl 65 rfl zs hbz ?_) | (refine wpList_store_anyN rfl rfl 65 (.tmp 2) (.tmp 25) rfl (w.heap.size + 1) zs rfl rfl 65 zs B1 hzi rfl hz1 ?_; intro w2 R2 T2; have HR2 := shut R2; have HT2 := shut (HT0.out.trans T2 (fun k hk q => by have : k = w.heap.size + 1 := q; omega)); clear R2 T2))
      refine ⟨rfl, _, results_cell_row_tmp (g := w.heap.size + 1) (cs := zs) (t := 65) rfl _ _ _ _ rfl HR2.out Try.underlying65 rfl hzi, rfl, HT2.out⟩
end Go.Proofs.Ytbhimedajfkioaa
