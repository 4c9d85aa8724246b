/- A transaction as plain data and as cells; PlainTx of the program and of the document. -/
import Derived.Test.YtgimecdmleofeaaDoorU1
namespace Go.Proofs.YtgimecdmleofeaaDoor
open Go.RowKit
set_option linter.unusedVariables false

structure Tx where
  k : Int
  fr : Nat
  to : Nat
  am : Nat
  fe : Nat
  no : Nat
  se : List UInt8
def Tx.ok (x : Tx) : Prop := x.se.length = 16 ∧ x.fr < 18446744073709551616 ∧ x.to < 18446744073709551616 ∧ x.am < 18446744073709551616 ∧ x.fe < 18446744073709551616 ∧ x.no < 18446744073709551616
/-- Its cells. -/
def Tx.cs (x : Tx) : List Value := .int .i64 x.k :: .int .u64 x.fr :: .int .u64 x.to :: .int .u64 x.am :: .int .u64 x.fe :: .int .u64 x.no :: x.se.map bv
theorem Tx.len {x : Tx} (h : x.ok) : x.cs.length = 22 := by simp [Tx.cs, h.1]
/-- What a block with a transaction in it, from o on, shows. -/
structure TxAt (w : World) (g o : Nat) (x : Tx) : Prop where
  c0 : w.cell? ⟨g, o, none⟩ = some (.int .i64 x.k)
  c1 : w.cell? ⟨g, o + 1, none⟩ = some (.int .u64 x.fr)
  c2 : w.cell? ⟨g, o + 2, none⟩ = some (.int .u64 x.to)
  c3 : w.cell? ⟨g, o + 3, none⟩ = some (.int .u64 x.am)
  c4 : w.cell? ⟨g, o + 4, none⟩ = some (.int .u64 x.fe)
  c5 : w.cell? ⟨g, o + 5, none⟩ = some (.int .u64 x.no)
  all : w.rangeAt g o x.cs
theorem txAt {w : World} {g o : Nat} {x : Tx} (h : w.rangeAt g o x.cs) : TxAt w g o x :=
  ⟨h 0 _ rfl, h 1 _ rfl, h 2 _ rfl, h 3 _ rfl, h 4 _ rfl, h 5 _ rfl, h⟩
theorem Row.tx {w : World} {g : Nat} {x : Tx} (r : Row w g x.cs.toArray 27) : TxAt w g 0 x := txAt (fun j u hu => by rw [Nat.zero_add]; exact r.cell j u (by simpa using hu))
theorem size27 : (Tryd.prog.info? 27).map (·.size) = some 22 := by kernel_rfl

def aB (n : Nat) : Bool := decide ((n : Int) ≤ 1152921504606846975)
theorem amount60 (w : World) (n : Nat) : Calls Tryd.prog 53 #[.int .u64 n] w fun e w' => e = .returned (.bool (aB n)) ∧ w = w' := by
  go_enter Tryd.func53, Tryd.ntmps53
  go_wp2_with fail
  go_ret
  exact ⟨rfl, rfl⟩
theorem amount76 (w : World) (n : Nat) : Calls Tryd.prog 70 #[.int .u64 n] w fun e w' => e = .returned (.bool (aB n)) ∧ w = w' := by
  go_enter Tryd.func70, Tryd.ntmps70
  go_wp2_with fail
  go_ret
  exact ⟨rfl, rfl⟩
/-- What PlainTx answers. -/
def plainT (x : Tx) : Int :=
  if x.k < 1 ∨ 4 < x.k then 40
  else fieldE (((x.fr : Int) != 0) && ((x.k == 1) == ((x.to : Int) != 0)) && (aB x.am && (x.k != 4 || (x.am : Int) == 0)) && aB x.fe)
set_option maxRecDepth 100000 in
set_option maxHeartbeats 4000000 in
theorem plain27 (w : World) (x : Tx) : Calls Tryd.prog 20 #[.agg x.cs.toArray] w fun e w' => e = .returned (.int .i64 (plainT x)) ∧ Turn no w w' := by
  obtain ⟨c0, c1, c2, c3, c4, c5, _⟩ := (Row.new w x.cs.toArray 27).tx
  simp only [Nat.zero_add] at c1 c2 c3 c4 c5
  unfold plainT
  generalize x.cs.toArray = C at *
  generalize x.k = k at *
  generalize x.fr = fr at *
  generalize x.to = to at *
  generalize x.am = am at *
  generalize x.fe = fe at *
  clear c5
  have A := fun w n => amount60 w n
  have F := fun w b => unless17 w b
  by_cases h1 : k < 1
  · rw [if_pos (.inl h1)]
    go_enter Tryd.func20, Tryd.ntmps20
    go_wp2_with fail
    go_ret
    exact ⟨rfl, (Turn.refl no w).alloc _⟩
  · by_cases h2 : 4 < k
    · rw [if_pos (.inr h2)]
      go_enter Tryd.func20, Tryd.ntmps20
      go_wp2_with fail
      go_ret
      exact ⟨rfl, (Turn.refl no w).alloc _⟩
    · rw [if_neg (fun q => q.elim h1 h2)]
      obtain ⟨TO, hTO⟩ : ∃ b, ((k == 1) == ((to : Int) != 0)) = b := ⟨_, rfl⟩
      rw [hTO]
      have hk4 : (k != 4) = true ∨ (k != 4) = false := by cases (k != 4) <;> simp
      have hz : ((am : Int) == 0) = true ∨ ((am : Int) == 0) = false := by cases ((am : Int) == 0) <;> simp
      have hf : ((fr : Int) != 0) = true ∨ ((fr : Int) != 0) = false := by cases ((fr : Int) != 0) <;> simp
      have ha : aB am = true ∨ aB am = false := by cases aB am <;> simp
      rcases hf with hf | hf <;> rcases ha with ha | ha <;> rcases hk4 with hk4 | hk4 <;> rcases hz with hz | hz <;> cases TO
      all_goals (
        go_enter Tryd.func20, Tryd.ntmps20
        go_wp2_with (first | (go_at_call 53; refine (A _ _).mono ?_; rintro e w' ⟨rfl, rfl⟩) | (go_at_call 54; refine (F _ _).mono ?_; rintro e w' ⟨rfl, rfl⟩))
        go_ret
        exact ⟨by simp [*], (Turn.refl no w).alloc _⟩)
end Go.Proofs.YtgimecdmleofeaaDoor

