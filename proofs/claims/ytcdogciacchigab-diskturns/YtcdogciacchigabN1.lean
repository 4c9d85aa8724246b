/- Disks that no call made. -/
import Derived.Test.YtcdogciacchigabN0
namespace Go.Proofs.Ytcdogciacchigab
open Go.RowKit Go.Maps
set_option linter.unusedVariables false

theorem eql22_nil (a : Addr) (w : World) : (binOp .eql 34 (.pointer none) (.pointer (some a))).run Try.prog w = .ok (.bool false) w := by
  have h : ∀ d : Nat, (Op.equalIn (d + 1) 34 (.pointer none) (.pointer (some a))).run Try.prog w = .ok false w := fun d => by
    simp [Op.equalIn, run_underlying Try.underlying34]
  simp only [binOp]
  simp [Op.equal, Op.maxDepth, h 9999]
/-- One that no call made: nil, or its first cell is. -/
def No (w : World) (v : Value) : Prop := v = .pointer none ∨ ∃ p, v = .pointer (some ⟨p, 0, none⟩) ∧ w.cell? ⟨p, 0, none⟩ = some (.pointer none)
theorem No.form {w : World} {v : Value} (h : No w v) : ∃ a, v = .pointer a := by
  rcases h with rfl | ⟨p, rfl, _⟩
  · exact ⟨none, rfl⟩
  · exact ⟨_, rfl⟩
theorem No.turn {w w' : World} {v : Value} (h : No w v) (t : Turn no w w') : No w' v := by
  rcases h with rfl | ⟨p, rfl, h⟩
  · exact Or.inl rfl
  · exact Or.inr ⟨p, rfl, t.keep h (fun q => q)⟩
theorem made30_no (w : World) (v : Value) (h : No w v) : Calls Try.prog 41 #[v] w fun e w' => e = .returned (.bool false) ∧ w' = w := by
  have e1 := fun a w => eql22_nil a w
  rcases h with rfl | ⟨p, rfl, h⟩
  · go_enter Try.func41, Try.ntmps41
    go_wp2_with fail
    go_ret
    exact ⟨rfl, rfl⟩
  · go_enter Try.func41, Try.ntmps41
    go_wp2_with fail
    go_ret
    exact ⟨rfl, rfl⟩
section
variable {w : World} {v : Value}
set_option maxRecDepth 100000 in
set_option maxHeartbeats 1000000 in
theorem on13_no (h : No w v) : Calls Try.prog 14 #[v] w fun e w' => e = .returned (.bool false) ∧ w' = w := by
  have hm := made30_no w v h
  obtain ⟨a, rfl⟩ := h.form
  clear h
  go_enter Try.func14, Try.ntmps14
  go_wp2_with fail
  refine hm.mono ?_
  rintro e w' ⟨rfl, rfl⟩
  go_wp2_with fail
  go_ret
  exact ⟨rfl, rfl⟩
set_option maxRecDepth 100000 in
set_option maxHeartbeats 1000000 in
theorem calls14_no (h : No w v) : Calls Try.prog 11 #[v] w fun e w' => e = .returned (.int .i64 0) ∧ w' = w := by
  have hm := made30_no w v h
  obtain ⟨a, rfl⟩ := h.form
  clear h
  go_enter Try.func11, Try.ntmps11
  go_wp2_with fail
  refine hm.mono ?_
  rintro e w' ⟨rfl, rfl⟩
  go_wp2_with fail
  go_ret
  exact ⟨rfl, rfl⟩
set_option maxRecDepth 100000 in
set_option maxHeartbeats 1000000 in
theorem names29_no (h : No w v) : Calls Try.prog 34 #[v] w fun e w' => e = .returned (.slice none 0 0) ∧ w' = w := by
  have hm := on13_no h
  obtain ⟨a, rfl⟩ := h.form
  clear h
  go_enter Try.func34, Try.ntmps34
  go_wp2_with fail
  refine hm.mono ?_
  rintro e w' ⟨rfl, rfl⟩
  go_wp2_with fail
  go_ret
  exact ⟨rfl, rfl⟩
set_option maxRecDepth 100000 in
set_option maxHeartbeats 1000000 in
theorem ready32_no (h : No w v) (nm : Nm) : Calls Try.prog 44 #[v, strV nm] w fun e w' => e = .returned (.int .i64 1) ∧ w' = w := by
  have hm := made30_no w v h
  obtain ⟨a, rfl⟩ := h.form
  clear h
  unfold strV
  go_enter Try.func44, Try.ntmps44
  go_wp2_with fail
  refine hm.mono ?_
  rintro e w' ⟨rfl, rfl⟩
  go_wp2_with fail
  go_ret
  exact ⟨rfl, rfl⟩
set_option maxRecDepth 100000 in
set_option maxHeartbeats 1000000 in
theorem find46_no (h : No w v) (nm : Nm) : Calls Try.prog 69 #[v, strV nm] w fun e w' => e = .returned (.tuple #[zfile, .int .i64 1]) ∧ Turn no w w' := by
  have hr := fun o => ready32_no (h.turn ((Turn.refl no w).alloc o)) nm
  obtain ⟨a, rfl⟩ := h.form
  clear h
  unfold strV zfile at *
  go_enter Try.func69, Try.ntmps69
  go_wp2_with fail
  refine (hr _).mono ?_
  rintro e w' ⟨rfl, rfl⟩
  go_wp2_with fail
  refine ⟨rfl, _, results_cell_row_tmp (g := w.heap.size) (cs := #[.slice none 0 0, .int .i64 0]) (t := 97) rfl _ _ _ _ rfl (Row.new w #[.slice none 0 0, .int .i64 0] 97) Try.underlying97 rfl (by kernel_rfl), rfl, ((Turn.refl no w).alloc _)⟩
set_option maxRecDepth 100000 in
set_option maxHeartbeats 1000000 in
theorem read20_no (h : No w v) (nm : Nm) : Calls Try.prog 31 #[v, strV nm] w fun e w' => e = .returned (.tuple #[.slice none 0 0, .int .i64 1]) ∧ Turn no w w' := by
  have hf := find46_no h nm
  obtain ⟨a, rfl⟩ := h.form
  clear h
  unfold strV zfile at *
  go_enter Try.func31, Try.ntmps31
  go_wp2_with fail
  refine hf.mono ?_
  rintro e w' ⟨rfl, t2⟩
  go_wp2_with fail
  go_ret2
  exact ⟨rfl, t2.alloc _⟩
set_option maxRecDepth 100000 in
set_option maxHeartbeats 1000000 in
theorem size40_no (h : No w v) (nm : Nm) : Calls Try.prog 58 #[v, strV nm] w fun e w' => e = .returned (.tuple #[.int .i64 0, .int .i64 0, .int .i64 1]) ∧ Turn no w w' := by
  have hf := find46_no h nm
  obtain ⟨a, rfl⟩ := h.form
  clear h
  unfold strV zfile at *
  go_enter Try.func58, Try.ntmps58
  go_wp2_with fail
  refine hf.mono ?_
  rintro e w' ⟨rfl, t2⟩
  go_wp2_with fail
  exact ⟨rfl, _, results_tmp3 rfl _ _ _, rfl, t2.alloc _⟩
set_option maxRecDepth 100000 in
set_option maxHeartbeats 1000000 in
theorem arm11_no (h : No w v) (t : Tr) : Calls Try.prog 13 #[v, trV t] w fun e w' => e = .returned (.int .i64 1) ∧ Turn no w w' := by
  have hm := fun o => made30_no _ v (h.turn ((Turn.refl no w).alloc o))
  obtain ⟨a, rfl⟩ := h.form
  clear h
  unfold trV
  go_enter Try.func13, Try.ntmps13
  go_wp2_with fail
  refine (hm _).mono ?_
  rintro e w' ⟨rfl, rfl⟩
  go_wp2_with fail
  go_ret
  exact ⟨rfl, (Turn.refl no w).alloc _⟩
set_option maxRecDepth 100000 in
set_option maxHeartbeats 1000000 in
theorem crash15_no (h : No w v) (a : Option Addr) (n cap : Nat) (j : Int) : Calls Try.prog 27 #[v, .slice a n cap, .int .u8 j] w fun e w' => e = .returned (.tuple #[.agg #[.slice none 0 0], .int .i64 1]) ∧ Turn no w w' := by
  have hm := fun o => made30_no _ v (h.turn ((Turn.refl no w).alloc o))
  obtain ⟨a, rfl⟩ := h.form
  clear h
  go_enter Try.func27, Try.ntmps27
  go_wp2_with fail
  refine (hm _).mono ?_
  rintro e w' ⟨rfl, rfl⟩
  go_wp2_with fail
  refine ⟨rfl, _, results_cell_row_tmp (g := w.heap.size) (cs := #[.slice none 0 0]) (t := 24) rfl _ _ _ _ rfl (Row.new w #[.slice none 0 0] 24) Try.underlying24 rfl (by kernel_rfl), rfl, ((Turn.refl no w).alloc _)⟩
set_option maxRecDepth 100000 in
set_option maxHeartbeats 1000000 in
theorem append12_no (h : No w v) (nm : Nm) (a : Option Addr) (n cap : Nat) : Calls Try.prog 21 #[v, strV nm, .slice a n cap] w fun e w' => e = .returned (.int .i64 1) ∧ Turn no w w' := by
  have T1 := fun o o' o'' => (((Turn.refl no w).alloc o).alloc o').alloc o''
  have hm := fun o o' o'' => ready32_no (h.turn (T1 o o' o'')) nm
  obtain ⟨b, rfl⟩ := h.form
  clear h
  unfold strV at *
  go_enter Try.func21, Try.ntmps21
  go_wp2_with fail
  refine (hm _ _ _).mono ?_
  rintro e w' ⟨rfl, rfl⟩
  go_wp2_with fail
  go_ret
  exact ⟨rfl, T1 _ _ _⟩
set_option maxRecDepth 100000 in
set_option maxHeartbeats 1000000 in
theorem replace43_no (h : No w v) (nm : Nm) (a : Option Addr) (n cap : Nat) : Calls Try.prog 23 #[v, strV nm, .slice a n cap] w fun e w' => e = .returned (.int .i64 1) ∧ Turn no w w' := by
  have T1 := fun o o' o'' => (((Turn.refl no w).alloc o).alloc o').alloc o''
  have hm := fun o o' o'' => ready32_no (h.turn (T1 o o' o'')) nm
  obtain ⟨b, rfl⟩ := h.form
  clear h
  unfold strV at *
  go_enter Try.func23, Try.ntmps23
  go_wp2_with fail
  refine (hm _ _ _).mono ?_
  rintro e w' ⟨rfl, rfl⟩
  go_wp2_with fail
  go_ret
  exact ⟨rfl, T1 _ _ _⟩
set_option maxRecDepth 100000 in
set_option maxHeartbeats 1000000 in
theorem sync42_no (h : No w v) (nm : Nm) : Calls Try.prog 38 #[v, strV nm] w fun e w' => e = .returned (.int .i64 1) ∧ Turn no w w' := by
  have T1 := fun o o' => ((Turn.refl no w).alloc o).alloc o'
  have hm := fun o o' => find46_no (h.turn (T1 o o')) nm
  obtain ⟨b, rfl⟩ := h.form
  clear h
  unfold strV zfile at *
  go_enter Try.func38, Try.ntmps38
  go_wp2_with fail
  refine (hm _ _).mono ?_
  rintro e w' ⟨rfl, t2⟩
  go_wp2_with fail
  go_ret
  exact ⟨rfl, ((T1 _ _).then_no t2).alloc _⟩
set_option maxRecDepth 100000 in
set_option maxHeartbeats 1000000 in
theorem remove45_no (h : No w v) (nm : Nm) : Calls Try.prog 40 #[v, strV nm] w fun e w' => e = .returned (.int .i64 1) ∧ Turn no w w' := by
  have T1 := fun o o' => ((Turn.refl no w).alloc o).alloc o'
  have hm := fun o o' => find46_no (h.turn (T1 o o')) nm
  obtain ⟨b, rfl⟩ := h.form
  clear h
  unfold strV zfile at *
  go_enter Try.func40, Try.ntmps40
  go_wp2_with fail
  refine (hm _ _).mono ?_
  rintro e w' ⟨rfl, t2⟩
  go_wp2_with fail
  go_ret
  exact ⟨rfl, ((T1 _ _).then_no t2).alloc _⟩
set_option maxRecDepth 100000 in
set_option maxHeartbeats 1000000 in
theorem cut44_no (h : No w v) (nm : Nm) (x : Int) : Calls Try.prog 39 #[v, strV nm, .int .i64 x] w fun e w' => e = .returned (.int .i64 1) ∧ Turn no w w' := by
  have T1 := fun o o' o'' => (((Turn.refl no w).alloc o).alloc o').alloc o''
  have hm := fun o o' o'' => find46_no (h.turn (T1 o o' o'')) nm
  obtain ⟨b, rfl⟩ := h.form
  clear h
  unfold strV zfile at *
  go_enter Try.func39, Try.ntmps39
  go_wp2_with fail
  refine (hm _ _ _).mono ?_
  rintro e w' ⟨rfl, t2⟩
  go_wp2_with fail
  go_ret
  exact ⟨rfl, ((T1 _ _ _).then_no t2).alloc _⟩
set_option maxRecDepth 100000 in
set_option maxHeartbeats 4000000 in
theorem does18_no (h : No w v) {B : Nat} (o : Opx) (ho : Ox B w o) (k : Nat) (hk : 1 ≤ k ∧ k ≤ 5) (hok : o.kind = k) : Calls Try.prog 10 #[v, .agg (opC o)] w fun e w' => e = .returned (.int .i64 1) ∧ Turn no w w' := by
  have T1 : Turn no w (w.alloc (.cells (opC o) 33)) := (Turn.refl no w).alloc _
  have r0 : Row (w.alloc (.cells (opC o) 33)) w.heap.size (opC o) 33 := Row.new w _ 33
  have h1 := h.turn T1
  obtain ⟨va, vn, vc, hvs⟩ : ∃ ka kn kc, o.vd = .slice ka kn kc := by
    obtain ⟨a, c, e⟩ := ho.data.slice
    exact ⟨_, _, _, e⟩
  obtain ⟨ka, kn, kc, hks⟩ : ∃ ka kn kc, o.vk = .slice ka kn kc := by
    obtain ⟨a, c, e⟩ := ho.keep.slice
    exact ⟨_, _, _, e⟩
  have f1 := append12_no h1 o.nm va vn vc
  have f2 := sync42_no h1 o.nm
  have f3 := replace43_no h1 o.nm va vn vc
  have f4 := cut44_no h1 o.nm o.n
  have f5 := remove45_no h1 o.nm
  obtain ⟨pa, hpa⟩ := h.form
  have c0 := r0.cell 0 _ rfl
  have c2 := r0.cell 2 _ rfl
  have c3 := r0.cell 3 _ rfl
  have c4 := r0.cell 4 _ rfl
  obtain ⟨kind, who, nm, vd, data, n, t, vk, keep, junk⟩ := o
  simp only at hvs hks hok
  subst hvs hks hok hpa
  simp only at *
  clear ho r0 h h1
  unfold opC strV at *
  simp only at *
  have hkz : 1 ≤ (k : Int) ∧ (k : Int) ≤ 5 := by omega
  clear hk
  generalize (k : Int) = kk at *
  rcases (show kk = 1 ∨ kk = 2 ∨ kk = 3 ∨ kk = 4 ∨ kk = 5 by omega) with rfl | rfl | rfl | rfl | rfl
  all_goals clear hkz
  · go_enter Try.func10, Try.ntmps10
    go_wp2_with fail
    refine f1.mono ?_
    rintro e w2 ⟨rfl, t2⟩
    go_wp2_with fail
    go_ret
    exact ⟨rfl, T1.then_no t2⟩
  · go_enter Try.func10, Try.ntmps10
    go_wp2_with fail
    refine f2.mono ?_
    rintro e w2 ⟨rfl, t2⟩
    go_wp2_with fail
    go_ret
    exact ⟨rfl, T1.then_no t2⟩
  · go_enter Try.func10, Try.ntmps10
    go_wp2_with fail
    refine f3.mono ?_
    rintro e w2 ⟨rfl, t2⟩
    go_wp2_with fail
    go_ret
    exact ⟨rfl, T1.then_no t2⟩
  · go_enter Try.func10, Try.ntmps10
    go_wp2_with fail
    refine f4.mono ?_
    rintro e w2 ⟨rfl, t2⟩
    go_wp2_with fail
    go_ret
    exact ⟨rfl, T1.then_no t2⟩
  · go_enter Try.func10, Try.ntmps10
    go_wp2_with fail
    refine f5.mono ?_
    rintro e w2 ⟨rfl, t2⟩
    go_wp2_with fail
    go_ret
    exact ⟨rfl, T1.then_no t2⟩
end
end Go.Proofs.Ytcdogciacchigab
