/- Pools that New did not make; registries that are nil. -/
import Derived.Test.YtdgfkaoohfdmfaaGreatDoorV7
namespace Go.Proofs.YtdgfkaoohfdmfaaGreatDoor
open Go.RowKit
set_option linter.unusedVariables false

theorem eql45_nil (a : Addr) (w : World) : (binOp .eql 45 (.pointer none) (.pointer (some a))).run Tryz.prog w = .ok (.bool false) w := by
  have h : ∀ d : Nat, (Op.equalIn (d + 1) 45 (.pointer none) (.pointer (some a))).run Tryz.prog w = .ok false w := fun d => by
    simp [Op.equalIn, run_underlying Tryz.underlying45]
  simp only [binOp]
  simp [Op.equal, Op.maxDepth, h 9999]
/-- A pool that New did not make: nil, or its first cell is. -/
def No (w : World) (v : Value) : Prop := v = .pointer none ∨ ∃ p, v = .pointer (some ⟨p, 0, none⟩) ∧ w.cell? ⟨p, 0, none⟩ = some (.pointer none)
theorem No.form {w : World} {v : Value} (h : No w v) : ∃ a, v = .pointer a := by
  rcases h with rfl | ⟨p, rfl, _⟩
  · exact ⟨none, rfl⟩
  · exact ⟨_, rfl⟩
theorem No.turn {w w' : World} {v : Value} (h : No w v) (t : Turn no w w') : No w' v := by
  rcases h with rfl | ⟨p, rfl, h⟩
  · exact Or.inl rfl
  · exact Or.inr ⟨p, rfl, t.keep h (fun q => q)⟩
theorem made27_no (w : World) (v : Value) (h : No w v) : Calls Tryz.prog 27 #[v] w fun e w' => e = .returned (.bool false) ∧ w' = w := by
  have e1 := fun a w => eql45_nil a w
  rcases h with rfl | ⟨p, rfl, h⟩
  · go_enter Tryz.func27, Tryz.ntmps27
    go_wp2_with fail
    go_ret
    exact ⟨rfl, rfl⟩
  · go_enter Tryz.func27, Tryz.ntmps27
    go_wp2_with fail
    go_ret
    exact ⟨rfl, rfl⟩
set_option maxRecDepth 100000 in
theorem len13_no (w : World) (v : Value) (h : No w v) : Calls Tryz.prog 13 #[v] w fun e w' => e = .returned (.int .i64 0) ∧ w' = w := by
  have hm := made27_no w v h
  obtain ⟨pa, rfl⟩ := h.form
  go_enter Tryz.func13, Tryz.ntmps13
  go_wp2_with fail
  refine hm.mono ?_
  rintro e w' ⟨rfl, rfl⟩
  go_wp2_with fail
  go_ret
  exact ⟨rfl, rfl⟩
set_option maxRecDepth 100000 in
theorem add8_no (w : World) (v R : Value) (S E : Array Value) (h : No w v) : Calls Tryz.prog 8 #[v, .agg S, R, .agg E] w fun e w' => e = .returned (.int .i64 1) ∧ Turn no w w' := by
  have T0 : Turn no w ((w.alloc (.cells S 37)).alloc (.cells E 44)) := ((Turn.refl no w).alloc _).alloc _
  have hm := made27_no _ v (h.turn T0)
  have HT := shut T0
  clear T0
  obtain ⟨pa, rfl⟩ := h.form
  clear h
  go_enter Tryz.func8, Tryz.ntmps8
  go_wp2_with fail
  refine hm.mono ?_
  rintro e w' ⟨rfl, rfl⟩
  go_wp2_with fail
  go_ret
  exact ⟨rfl, HT.out⟩
set_option maxRecDepth 100000 in
theorem pick9_no (w : World) (v R : Value) (S : Array Value) (h : No w v) : Calls Tryz.prog 9 #[v, .agg S, R] w fun e w' => e = .returned (.slice none 0 0) ∧ Turn no w w' := by
  have T0 : Turn no w (w.alloc (.cells S 37)) := (Turn.refl no w).alloc _
  have hm := made27_no _ v (h.turn T0)
  have HT := shut T0
  clear T0
  obtain ⟨pa, rfl⟩ := h.form
  clear h
  go_enter Tryz.func9, Tryz.ntmps9
  go_wp2_with fail
  refine hm.mono ?_
  rintro e w' ⟨rfl, rfl⟩
  go_wp2_with fail
  go_ret
  exact ⟨rfl, HT.out⟩
set_option maxRecDepth 100000 in
theorem settle10_no (w : World) (v L : Value) (S : Array Value) (h : No w v) : Calls Tryz.prog 10 #[v, .agg S, L] w fun e w' => e = .returned (.tuple #[]) ∧ Turn no w w' := by
  have T0 : Turn no w (w.alloc (.cells S 37)) := (Turn.refl no w).alloc _
  have hm := made27_no _ v (h.turn T0)
  have HT := shut T0
  clear T0
  obtain ⟨pa, rfl⟩ := h.form
  clear h
  go_enter Tryz.func10, Tryz.ntmps10
  go_wp2_with fail
  refine hm.mono ?_
  rintro e w' ⟨rfl, rfl⟩
  go_wp2_with fail
  exact ⟨rfl, _, results_none rfl _ _ _, rfl, HT.out⟩
theorem rmade55_nil (w : World) : Calls Tryz.prog 55 #[.pointer none] w fun e w' => e = .returned (.bool false) ∧ w' = w := by
  go_enter Tryz.func55, Tryz.ntmps55
  go_wp2_with fail
  go_ret
  exact ⟨rfl, rfl⟩
set_option maxRecDepth 100000 in
theorem enter37_nil (w : World) (a : Int) : Calls Tryz.prog 37 #[.pointer none, .int .u64 a] w fun e w' => e = .returned (.tuple #[.pointer none, .int .i64 1]) ∧ w' = w := by
  go_enter_defers Tryz.func37, Tryz.ntmps37
  go_wp2_with fail
  refine (rmade55_nil w).mono ?_
  rintro e w' ⟨rfl, rfl⟩
  go_wp2_with fail
  exact ⟨_, results_tmp2 rfl _ _ _, rfl, rfl⟩
set_option maxRecDepth 100000 in
theorem isreg29_nil (w : World) : Calls Tryz.prog 29 #[.pointer none] w fun e w' => e = .returned (.bool false) ∧ w' = w := by
  go_enter Tryz.func29, Tryz.ntmps29
  go_wp2_with fail
  refine (enter37_nil w 0).mono ?_
  rintro e w' ⟨rfl, rfl⟩
  go_wp2_with fail
  go_ret
  exact ⟨rfl, rfl⟩
set_option maxRecDepth 100000 in
theorem verify16_nil (w : World) (S E : Array Value) : Calls Tryz.prog 16 #[.agg S, .pointer none, .agg E] w fun e w' => e = .returned (.int .i64 1) ∧ Turn no w w' := by
  have T0 : Turn no w ((w.alloc (.cells S 37)).alloc (.cells E 44)) := ((Turn.refl no w).alloc _).alloc _
  have HT := shut T0
  clear T0
  go_enter Tryz.func16, Tryz.ntmps16
  go_wp2_with fail
  refine (isreg29_nil _).mono ?_
  rintro e w' ⟨rfl, rfl⟩
  go_wp2_with fail
  go_ret
  exact ⟨rfl, HT.out⟩
set_option maxRecDepth 100000 in
theorem pick9_nil (w : World) (p : Nat) (S : Array Value) (h0 : w.cell? ⟨p, 0, none⟩ = some (.pointer (some ⟨p, 0, none⟩))) : Calls Tryz.prog 9 #[.pointer (some ⟨p, 0, none⟩), .agg S, .pointer none] w fun e w' => e = .returned (.slice none 0 0) ∧ Turn no w w' := by
  have T0 : Turn no w (w.alloc (.cells S 37)) := (Turn.refl no w).alloc _
  have hm := made14 _ p (T0.keep h0 (fun q => q))
  have HT := shut T0
  clear T0 h0
  go_enter Tryz.func9, Tryz.ntmps9
  go_wp2_with fail
  refine hm.mono ?_
  rintro e w' ⟨rfl, rfl⟩
  go_wp2_with fail
  refine (isreg29_nil _).mono ?_
  rintro e w' ⟨rfl, rfl⟩
  go_wp2_with fail
  go_ret
  exact ⟨rfl, HT.out⟩
set_option maxRecDepth 100000 in
set_option maxHeartbeats 1000000 in
theorem add8_nil (w : World) (p : Nat) (S E : Array Value) (hs : (Tryz.prog.info? 37).map (·.size) = some S.size) (he : (Tryz.prog.info? 44).map (·.size) = some E.size) (h0 : w.cell? ⟨p, 0, none⟩ = some (.pointer (some ⟨p, 0, none⟩))) : Calls Tryz.prog 8 #[.pointer (some ⟨p, 0, none⟩), .agg S, .pointer none, .agg E] w fun e w' => e = .returned (.int .i64 1) ∧ Turn no w w' := by
  have T0 : Turn no w ((w.alloc (.cells S 37)).alloc (.cells E 44)) := ((Turn.refl no w).alloc _).alloc _
  have hm := made14 _ p (T0.keep h0 (fun q => q))
  have RS := (Row.new w S 37).alloc (.cells E 44)
  have RE := Row.newAt (w.alloc (.cells S 37)) E 44 (w.heap.size + 1) (by simp)
  have HT := shut T0
  clear T0 h0
  go_enter Tryz.func8, Tryz.ntmps8
  go_wp2_with fail
  refine hm.mono ?_
  rintro e w' ⟨rfl, rfl⟩
  go_wp2_with (first | (refine wpList_load_row rfl 37 (.tmp 5) rfl w.heap.size rfl 37 S _ _ RS Tryz.underlying37 rfl hs ?_) | (refine wpList_load_row rfl 44 (.tmp 7) rfl (w.heap.size + 1) rfl 44 E _ _ RE Tryz.underlying44 rfl he ?_))
  refine (verify16_nil _ S E).mono ?_
  rintro e w' ⟨rfl, t⟩
  have HT2 := shut (HT.out.then_no t)
  clear t RS RE
  go_wp2_with fail
  go_ret
  exact ⟨rfl, HT2.out⟩
set_option maxRecDepth 100000 in
theorem sealnew7 (w : World) : Calls Tryz.prog 7 #[] w fun e w' => ∃ p, e = .returned (.pointer (some ⟨p, 0, none⟩)) ∧ Turn no w w' := by
  have m1 := fun t W => run_makeMap (P := Tryz.prog) t W
  go_enter Tryz.func7, Tryz.ntmps7
  go_wp2_with fail
  go_ret
  exact ⟨_, rfl, (((Turn.refl no w).alloc _).alloc _).alloc _⟩
end Go.Proofs.YtdgfkaoohfdmfaaGreatDoor
