/- Ids held against each other; heights, rounds, times. -/
import Derived.Test.YtbhimedajfkioaaM3
import Derived.ChangeKeysEq
import Derived.Lib.Bytealg
namespace Go.Proofs.Ytbhimedajfkioaa
open Go.RowKit
set_option linter.unusedVariables false

theorem size27 : (Try.prog.info? 27).map (·.size) = some 32 := by kernel_rfl
theorem size5 : (Try.prog.info? 5).map (·.size) = some 1 := by kernel_rfl
theorem part5 (w : World) (X : List UInt8) (i : Nat) (h : i < X.length) : (part 5 (X.map bv).toArray (i * 1)).run Try.prog w = .ok (bv (X.getD i 0)) w := by
  simp [part, Try.isAgg5, h]
theorem eqItems_u8 (w : World) (d : Nat) (X Y : List UInt8) : ∀ is : List Nat, (∀ i ∈ is, i < X.length ∧ i < Y.length) → (Op.eqItems (d + 1) 5 1 (X.map bv).toArray (Y.map bv).toArray is).run Try.prog w = .ok (is.all fun i => X.getD i 0 == Y.getD i 0) w
  | [], _ => by simp [Op.eqItems]
  | i :: is, h => by
    have h1 := h i (by simp)
    have ih := eqItems_u8 w d X Y is (fun j hj => h j (by simp [hj]))
    have he := run_equalIn_int (P := Try.prog) w d 5 .u8 .u8 ((X.getD i 0).toNat : Int) ((Y.getD i 0).toNat : Int) Try.underlying5
    simp only [Op.eqItems, Sem.run_bind, part5 w X i h1.1, part5 w Y i h1.2, Result.andThen_ok]
    simp only [bv, he, Result.andThen_ok]
    have hb : ((((X.getD i 0).toNat : Nat) : Int) == (((Y.getD i 0).toNat : Nat) : Int)) = (X.getD i 0 == Y.getD i 0) := by
      by_cases hq : X.getD i 0 = Y.getD i 0
      · rw [hq]; simp
      · have : (X.getD i 0).toNat ≠ (Y.getD i 0).toNat := fun q => hq (UInt8.toNat_inj.1 q)
        rw [beq_false_of_ne hq, beq_false_of_ne (by omega)]
    rw [hb]
    rw [List.all_cons]
    cases hq : (X.getD i 0 == Y.getD i 0) with
    | false => rfl
    | true => simpa using ih
theorem all_range (X Y : List UInt8) (n : Nat) (hx : X.length = n) (hy : Y.length = n) : ((List.range n).all fun i => X.getD i 0 == Y.getD i 0) = (X == Y) := by
  by_cases h : X = Y
  · subst h; simp
  · rw [beq_false_of_ne h]
    rw [Bool.eq_false_iff]
    intro q
    apply h
    apply List.ext_getElem (by omega)
    intro i h1 h2
    have := List.all_eq_true.1 q i (by simp; omega)
    simp [h1, h2] at this
    exact this
theorem cells5 : Try.prog.cellsOf 5 = 1 := by kernel_rfl
theorem eqIn27 (w : World) (d : Nat) (X Y : List UInt8) (hx : X.length = 32) (hy : Y.length = 32) : (Op.equalIn (d + 2) 27 (.agg (X.map bv).toArray) (.agg (Y.map bv).toArray)).run Try.prog w = .ok (X == Y) w := by
  obtain ⟨i, hi⟩ : ∃ i, Try.prog.info? 5 = some i := by
    cases hq : Try.prog.info? 5 with
    | none => have := size5; simp [hq] at this
    | some i => exact ⟨i, rfl⟩
  rw [run_equalIn_array w (d + 1) _ _ Try.underlying27 hi, cells5, eqItems_u8 w d X Y _ (fun j hj => by simp at hj; omega), all_range X Y 32 hx hy]
def zid : List UInt8 := List.replicate 32 0
def hB (h : Int) : Bool := decide (1 ≤ h) && decide (h ≤ 1099511627776)
def rB (r : Int) : Bool := decide (0 ≤ r) && decide (r ≤ 65535)
def tB (t : Int) : Bool := decide (t ≤ 1125899906842624)

theorem zid_lit : (zid.map bv).toArray = #[.int .u8 0, .int .u8 0, .int .u8 0, .int .u8 0, .int .u8 0, .int .u8 0, .int .u8 0, .int .u8 0, .int .u8 0, .int .u8 0, .int .u8 0, .int .u8 0, .int .u8 0, .int .u8 0, .int .u8 0, .int .u8 0, .int .u8 0, .int .u8 0, .int .u8 0, .int .u8 0, .int .u8 0, .int .u8 0, .int .u8 0, .int .u8 0, .int .u8 0, .int .u8 0, .int .u8 0, .int .u8 0, .int .u8 0, .int .u8 0, .int .u8 0, .int .u8 0] := rfl
theorem eqz (w : World) (X : List UInt8) (hx : X.length = 32) : (Op.equalIn 10000 27 (.agg (X.map bv).toArray) (.agg #[.int .u8 0, .int .u8 0, .int .u8 0, .int .u8 0, .int .u8 0, .int .u8 0, .int .u8 0, .int .u8 0, .int .u8 0, .int .u8 0, .int .u8 0, .int .u8 0, .int .u8 0, .int .u8 0, .int .u8 0, .int .u8 0, .int .u8 0, .int .u8 0, .int .u8 0, .int .u8 0, .int .u8 0, .int .u8 0, .int .u8 0, .int .u8 0, .int .u8 0, .int .u8 0, .int .u8 0, .int .u8 0, .int .u8 0, .int .u8 0, .int .u8 0, .int .u8 0])).run Try.prog w = .ok (X == zid) w := by
  rw [← zid_lit]
  exact eqIn27 w 9998 X zid hx (by decide)

set_option maxRecDepth 100000 in
theorem none45 (w : World) (X : List UInt8) (hx : X.length = 32) : Calls Try.prog 45 #[.agg (X.map bv).toArray] w fun e w' => e = .returned (.bool (X == zid)) ∧ Turn no w w' := by
  have he := fun W => eqz W X hx
  have hs : (X.map bv).toArray.size = 32 := by simpa using hx
  generalize (X.map bv).toArray = A at *
  have hi : (Try.prog.info? 27).map (·.size) = some A.size := by rw [hs]; exact size27
  go_enter Try.func45, Try.ntmps45
  go_wp2_with (refine wpList_load_row rfl 27 _ rfl w.heap.size rfl 27 A _ _ (Row.new w A 27) Try.underlying27 rfl hi ?_)
  go_ret
  exact ⟨rfl, (Turn.refl no w).alloc _⟩
theorem height43 (w : World) (h : Int) : Calls Try.prog 43 #[.int .u64 h] w fun e w' => e = .returned (.bool (hB h)) ∧ w = w' := by
  by_cases h1 : 1 ≤ h
  · go_enter Try.func43, Try.ntmps43
    go_wp2_with fail
    go_ret
    exact ⟨by simp [hB, h1], rfl⟩
  · have h2 : h < 1 := by omega
    go_enter Try.func43, Try.ntmps43
    go_wp2_with fail
    go_ret
    exact ⟨by simp [hB]; omega, rfl⟩
theorem height52 (w : World) (h : Int) : Calls Try.prog 52 #[.int .u64 h] w fun e w' => e = .returned (.bool (hB h)) ∧ w = w' := by
  by_cases h1 : 1 ≤ h
  · go_enter Try.func52, Try.ntmps52
    go_wp2_with fail
    go_ret
    exact ⟨by simp [hB, h1], rfl⟩
  · have h2 : h < 1 := by omega
    go_enter Try.func52, Try.ntmps52
    go_wp2_with fail
    go_ret
    exact ⟨by simp [hB]; omega, rfl⟩
theorem round44 (w : World) (h : Int) : Calls Try.prog 44 #[.int .i64 h] w fun e w' => e = .returned (.bool (rB h)) ∧ w = w' := by
  by_cases h1 : 0 ≤ h
  · go_enter Try.func44, Try.ntmps44
    go_wp2_with fail
    go_ret
    exact ⟨by simp [rB, h1], rfl⟩
  · have h2 : h < 0 := by omega
    go_enter Try.func44, Try.ntmps44
    go_wp2_with fail
    go_ret
    exact ⟨by simp [rB]; omega, rfl⟩
theorem round53 (w : World) (h : Int) : Calls Try.prog 53 #[.int .i64 h] w fun e w' => e = .returned (.bool (rB h)) ∧ w = w' := by
  by_cases h1 : 0 ≤ h
  · go_enter Try.func53, Try.ntmps53
    go_wp2_with fail
    go_ret
    exact ⟨by simp [rB, h1], rfl⟩
  · have h2 : h < 0 := by omega
    go_enter Try.func53, Try.ntmps53
    go_wp2_with fail
    go_ret
    exact ⟨by simp [rB]; omega, rfl⟩
theorem time46 (w : World) (h : Int) : Calls Try.prog 46 #[.int .u64 h] w fun e w' => e = .returned (.bool (tB h)) ∧ w = w' := by
  go_enter Try.func46, Try.ntmps46
  go_wp2_with fail
  go_ret
  exact ⟨rfl, rfl⟩
theorem time54 (w : World) (h : Int) : Calls Try.prog 54 #[.int .u64 h] w fun e w' => e = .returned (.bool (tB h)) ∧ w = w' := by
  go_enter Try.func54, Try.ntmps54
  go_wp2_with fail
  go_ret
  exact ⟨rfl, rfl⟩
end Go.Proofs.Ytbhimedajfkioaa
