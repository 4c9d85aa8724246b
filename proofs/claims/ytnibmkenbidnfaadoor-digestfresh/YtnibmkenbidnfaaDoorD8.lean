/- Digests held against each other; hashers that no call made. -/
import Derived.Test.YtnibmkenbidnfaaDoorD7
import Derived.ChangeKeysEq
namespace Go.Proofs.YtnibmkenbidnfaaDoor
open Go.RowKit
set_option linter.unusedVariables false

theorem part5 (w : World) (X : List UInt8) (i : Nat) (h : i < X.length) : (part 5 (X.map bv).toArray (i * 1)).run Tryd.prog w = .ok (bv (X.getD i 0)) w := by
  simp [part, Tryd.isAgg5, h]

theorem eqItems_u8 (w : World) (d : Nat) (X Y : List UInt8) : ∀ is : List Nat, (∀ i ∈ is, i < X.length ∧ i < Y.length) → (Op.eqItems (d + 1) 5 1 (X.map bv).toArray (Y.map bv).toArray is).run Tryd.prog w = .ok (is.all fun i => X.getD i 0 == Y.getD i 0) w
  | [], _ => by simp [Op.eqItems]
  | i :: is, h => by
    have h1 := h i (by simp)
    have ih := eqItems_u8 w d X Y is (fun j hj => h j (by simp [hj]))
    have he := run_equalIn_int (P := Tryd.prog) w d 5 .u8 .u8 ((X.getD i 0).toNat : Int) ((Y.getD i 0).toNat : Int) Tryd.underlying5
    simp only [Op.eqItems, Sem.run_bind, part5 w X i h1.1, part5 w Y i h1.2, Result.andThen_ok]
    simp only [bv, he, Result.andThen_ok]
    have hb : ((((X.getD i 0).toNat : Nat) : Int) == (((Y.getD i 0).toNat : Nat) : Int)) = (X.getD i 0 == Y.getD i 0) := by
      by_cases hq : X.getD i 0 = Y.getD i 0
      · rw [hq]; simp
      · have : (X.getD i 0).toNat ≠ (Y.getD i 0).toNat := fun q => hq (UInt8.toNat_inj.1 q)
        rw [beq_false_of_ne hq, beq_false_of_ne (by omega)]
    rw [hb]
    rw [List.all_cons]
    cases hq : (X.getD i 0 == Y.getD i 0) with
    | false => rfl
    | true => simpa using ih

theorem all_range (X Y : List UInt8) (n : Nat) (hx : X.length = n) (hy : Y.length = n) : ((List.range n).all fun i => X.getD i 0 == Y.getD i 0) = (X == Y) := by
  by_cases h : X = Y
  · subst h; simp
  · rw [beq_false_of_ne h]
    rw [Bool.eq_false_iff]
    intro q
    apply h
    apply List.ext_getElem (by omega)
    intro i h1 h2
    have := List.all_eq_true.1 q i (by simp; omega)
    simp [h1, h2] at this
    exact this

theorem eqIn35 (w : World) (X Y : List UInt8) (hx : X.length = 32) (hy : Y.length = 32) : (Op.equalIn 10000 35 (.agg (X.map bv).toArray) (.agg (Y.map bv).toArray)).run Tryd.prog w = .ok (X == Y) w := by
  obtain ⟨i, hi⟩ : ∃ i, Tryd.prog.info? 5 = some i := by
    cases hq : Tryd.prog.info? 5 with
    | none => have := size5; simp [hq] at this
    | some i => exact ⟨i, rfl⟩
  rw [show (10000 : Nat) = 9999 + 1 from rfl, run_equalIn_array w 9999 _ _ Tryd.underlying35 hi]
  have hc : Tryd.prog.cellsOf 5 = 1 := by kernel_rfl
  rw [hc, eqItems_u8 w 9998 X Y _ (fun j hj => by simp at hj; omega), all_range X Y 32 hx hy]

theorem eql35 (w : World) (X Y : List UInt8) (hx : X.length = 32) (hy : Y.length = 32) : (binOp .eql 35 (.agg (X.map bv).toArray) (.agg (Y.map bv).toArray)).run Tryd.prog w = .ok (.bool (X == Y)) w := by
  rw [run_eql_struct, eqIn35 w X Y hx hy]
  rfl
theorem neq35 (w : World) (X Y : List UInt8) (hx : X.length = 32) (hy : Y.length = 32) : (binOp .neq 35 (.agg (X.map bv).toArray) (.agg (Y.map bv).toArray)).run Tryd.prog w = .ok (.bool (!(X == Y))) w := by
  rw [run_neq_struct, eqIn35 w X Y hx hy]
  rfl
/-- Digests held against each other. -/
theorem eqlH (w : World) (x y : List UInt8) : (binOp .eql 35 (.agg (hv x)) (.agg (hv y))).run Tryd.prog w = .ok (.bool (hashOf x == hashOf y)) w := eql35 w _ _ (hashOf_len x) (hashOf_len y)

theorem eql23_nil (a : Addr) (w : World) : (binOp .eql 23 (.pointer none) (.pointer (some a))).run Tryd.prog w = .ok (.bool false) w := by
  have h : ∀ d : Nat, (Op.equalIn (d + 1) 23 (.pointer none) (.pointer (some a))).run Tryd.prog w = .ok false w := fun d => by
    simp [Op.equalIn, run_underlying Tryd.underlying23]
  simp only [binOp]
  simp [Op.equal, Op.maxDepth, h 9999]

set_option maxRecDepth 100000 in
set_option maxHeartbeats 1000000 in
theorem made_nil (w : World) : Calls Tryd.prog 29 #[.pointer none] w fun e w' => e = .returned (.bool false) ∧ w' = w := by
  go_enter Tryd.func29, Tryd.ntmps29
  go_wp2_with fail
  go_ret
  exact ⟨rfl, rfl⟩

set_option maxRecDepth 100000 in
set_option maxHeartbeats 1000000 in
theorem made_zero (w : World) (p : Nat) (h : w.cell? ⟨p, 0, none⟩ = some (.pointer none)) : Calls Tryd.prog 29 #[.pointer (some ⟨p, 0, none⟩)] w fun e w' => e = .returned (.bool false) ∧ w' = w := by
  have e1 := fun a w => eql23_nil a w
  go_enter Tryd.func29, Tryd.ntmps29
  go_wp2_with fail
  go_ret
  exact ⟨rfl, rfl⟩

/-- A Hasher that no call made. -/
def NoH (w : World) (v : Value) : Prop := v = .pointer none ∨ ∃ p, v = .pointer (some ⟨p, 0, none⟩) ∧ w.cell? ⟨p, 0, none⟩ = some (.pointer none)
theorem made_no (w : World) (v : Value) (h : NoH w v) : Calls Tryd.prog 29 #[v] w fun e w' => e = .returned (.bool false) ∧ w' = w := by
  rcases h with rfl | ⟨p, rfl, h⟩
  · exact made_nil w
  · exact made_zero w p h
theorem NoH.form {w : World} {v : Value} (h : NoH w v) : ∃ a, v = .pointer a := by
  rcases h with rfl | ⟨p, rfl, _⟩
  · exact ⟨none, rfl⟩
  · exact ⟨_, rfl⟩

set_option maxRecDepth 100000 in
set_option maxHeartbeats 1000000 in
theorem write_no (w : World) (v va : Value) (h : NoH w v) (a : Option Addr) (n c : Nat) (hva : va = .slice a n c) : Calls Tryd.prog 9 #[v, va] w fun e w' => e = .returned (.tuple #[]) ∧ w' = w := by
  have hm := made_no w v h
  obtain ⟨pa, rfl⟩ := h.form
  subst hva
  go_enter Tryd.func9, Tryd.ntmps9
  go_wp2_with fail
  refine hm.mono ?_
  rintro e w' ⟨rfl, rfl⟩
  go_wp2_with fail
  go_end0
  exact ⟨rfl, rfl⟩

set_option maxRecDepth 100000 in
set_option maxHeartbeats 1000000 in
theorem copy_no (w : World) (v : Value) (h : NoH w v) : Calls Tryd.prog 12 #[v] w fun e w' => e = .returned (.pointer none) ∧ w' = w := by
  have hm := made_no w v h
  obtain ⟨pa, rfl⟩ := h.form
  go_enter Tryd.func12, Tryd.ntmps12
  go_wp2_with fail
  refine hm.mono ?_
  rintro e w' ⟨rfl, rfl⟩
  go_wp2_with fail
  go_ret
  exact ⟨rfl, rfl⟩

def zeroH : Array Value := ((List.replicate 32 (0 : UInt8)).map bv).toArray
set_option maxRecDepth 100000 in
set_option maxHeartbeats 1000000 in
theorem sum_no (w : World) (v : Value) (h : NoH w v) : Calls Tryd.prog 11 #[v] w fun e w' => e = .returned (.agg zeroH) ∧ Turn no w w' := by
  have hm := fun W (T : Turn no w W) => made_no W v (by
    rcases h with rfl | ⟨p, rfl, h⟩
    · exact Or.inl rfl
    · exact Or.inr ⟨p, rfl, T.keep h (fun q => q)⟩)
  obtain ⟨pa, rfl⟩ := h.form
  go_enter Tryd.func11, Tryd.ntmps11
  go_wp2_with fail
  refine (hm _ ((Turn.refl no w).alloc _)).mono ?_
  rintro e w' ⟨rfl, rfl⟩
  go_wp2_with (refine wpList_store_row rfl 35 (.tmp 2) (.tmp 6) rfl w.heap.size _ rfl rfl 35 _ (heap_alloc_new w _) (by kernel_rfl) rfl (by kernel_rfl) ?_)
  refine bodyPost_ret (v := .agg zeroH) ?_ rfl ⟨rfl, ((Turn.refl no w).alloc _).setRow _ _ (fun q => by omega)⟩
  refine results_cell_row (P := Tryd.prog) Tryd.results11 _ _ w.heap.size 35 zeroH (0, 0) _ rfl ?_ Tryd.underlying35 rfl (by kernel_rfl)
  rw [setRow_heap _ _ _ _ _ _ (heap_alloc_new w _)]
  kernel_rfl
end Go.Proofs.YtnibmkenbidnfaaDoor
