/- Digests held against each other; hashers that no call made. -/
import Derived.Test.YtieoomdbijpdhaaDoorD7
import Derived.ChangeKeysEq
namespace Go.Proofs.YtieoomdbijpdhaaDoor
open Go.RowKit
set_option linter.unusedVariables false

theorem part5 (w : World) (X : List UInt8) (i : Nat) (h : i < X.length) : (part 5 (X.map bv).toArray (i * 1)).run Tryd.prog w = .ok (bv (X.getD i 0)) w := by
  simp [part, Tryd.isAgg5, h]

theorem eqItems_u8 (w : World) (d : Nat) (X Y : List UInt8) : ∀ is : List Nat, (∀ i ∈ is, i < X.length ∧ i < Y.length) → (Op.eqItems (d + 1) 5 1 (X.map bv).toArray (Y.map bv).toArray is).run Tryd.prog w = .ok (is.all fun i => X.getD i 0 == Y.getD i 0) w
  | [], _ => by simp [Op.eqItems]
  | i :: is, h => by
    have h1 := h i (by simp)
    have ih := eqItems_u8 w d X Y is (fun j hj => h j (by simp [hj]))
    have he := run_equalIn_int (P := Tryd.prog) w d 5 .u8 .u8 ((X.getD i 0).toNat : Int) ((Y.getD i 0).toNat : Int) Tryd.underlying5
    simp only [Op.eqItems, Sem.run_bind, part5 w X i h1.1, part5 w Y i h1.2, Result.andThen_ok]
    simp only [bv, he, Result.andThen_ok]
    have hb : ((((X.getD i 0).toNat : Nat) : Int) == (((Y.getD i 0).toNat : Nat) : Int)) = (X.getD i 0 == Y.getD i 0) := by
      by_cases hq : X.getD i 0 = Y.getD i 0
      · rw [hq]; simp
      · have : (X.getD i 0).toNat ≠ (Y.getD i 0).toNat := fun q => hq (UInt8.toNat_inj.1 q)
        rw [beq_false_of_ne hq, beq_false_of_ne (by omega)]
    rw [hb]
    rw [List.all_cons]
    cases hq : (X.getD i 0 == Y.getD i 0) with
    | false => rfl
    | true => simpa using ih

theorem all_range (X Y : List UInt8) (n : Nat) (hx : X.length = n) (hy : Y.length = n) : ((List.range n).all fun i => X.getD i 0 == Y.getD i 0) = (X == Y) := by
  by_cases h : X = Y
  · subst h; simp
  · rw [beq_false_of_ne h]
    rw [Bool.eq_false_iff]
    intro q
    apply h
    apply List.ext_getElem (by omega)
    intro i h1 h2
    have := List.all_eq_true.1 q i (by simp; omega)
    simp [h1, h2] at this
    exact this

theorem eqIn35 (w : World) (X Y : List UInt8) (hx : X.length = 32) (hy : Y.length = 32) : (Op.equalIn 10000 23 (.agg (X.map bv).toArray) (.agg (Y.map bv).toArray)).run Tryd.prog w = .ok (X == Y) w := by
  obtain ⟨i, hi⟩ : ∃ i, Tryd.prog.info? 5 = some i := by
    cases hq : Tryd.prog.info? 5 with
    | none => have := size5; simp [hq] at this
    | some i => exact ⟨i, rfl⟩
  rw [show (10000 : Nat) = 9999 + 1 from rfl, run_equalIn_array w 9999 _ _ Tryd.underlying23 hi]
  have hc : Tryd.prog.cellsOf 5 = 1 := by kernel_rfl
  rw [hc, eqItems_u8 w 9998 X Y _ (fun j hj => by simp at hj; omega), all_range X Y 32 hx hy]

theorem eql35 (w : World) (X Y : List UInt8) (hx : X.length = 32) (hy : Y.length = 32) : (binOp .eql 23 (.agg (X.map bv).toArray) (.agg (Y.map bv).toArray)).run Tryd.prog w = .ok (.bool (X == Y)) w := by
  rw [run_eql_struct, eqIn35 w X Y hx hy]
  rfl
theorem neq35 (w : World) (X Y : List UInt8) (hx : X.length = 32) (hy : Y.length = 32) : (binOp .neq 23 (.agg (X.map bv).toArray) (.agg (Y.map bv).toArray)).run Tryd.prog w = .ok (.bool (!(X == Y))) w := by
  rw [run_neq_struct, eqIn35 w X Y hx hy]
  rfl
/-- Digests held against each other. -/
theorem eqlH (w : World) (x y : List UInt8) : (binOp .eql 23 (.agg (hv x)) (.agg (hv y))).run Tryd.prog w = .ok (.bool (hashOf x == hashOf y)) w := eql35 w _ _ (hashOf_len x) (hashOf_len y)

/-- A Hasher that no call made. -/
def NoH (w : World) (v : Value) : Prop := v = .pointer none ∨ ∃ p, v = .pointer (some ⟨p, 0, none⟩) ∧ w.cell? ⟨p, 0, none⟩ = some (.pointer none)
theorem NoH.form {w : World} {v : Value} (h : NoH w v) : ∃ a, v = .pointer a := by
  rcases h with rfl | ⟨p, rfl, _⟩
  · exact ⟨none, rfl⟩
  · exact ⟨_, rfl⟩

def zeroH : Array Value := ((List.replicate 32 (0 : UInt8)).map bv).toArray
end Go.Proofs.YtieoomdbijpdhaaDoor

