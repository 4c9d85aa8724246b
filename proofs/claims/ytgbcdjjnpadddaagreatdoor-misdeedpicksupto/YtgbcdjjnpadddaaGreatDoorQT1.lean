/- A transaction as plain data and as cells; PlainTx of the program and of the document. -/
import Derived.Test.YtgbcdjjnpadddaaGreatDoorQU
namespace Go.Proofs.YtgbcdjjnpadddaaGreatDoor
open Go.RowKit
set_option linter.unusedVariables false

structure Tx where
  k : Int
  fr : Nat
  to : Nat
  am : Nat
  fe : Nat
  no : Nat
  se : List UInt8
def Tx.ok (x : Tx) : Prop := x.se.length = 16 ∧ x.fr < 18446744073709551616 ∧ x.to < 18446744073709551616 ∧ x.am < 18446744073709551616 ∧ x.fe < 18446744073709551616 ∧ x.no < 18446744073709551616
/-- Its cells. -/
def Tx.cs (x : Tx) : List Value := .int .i64 x.k :: .int .u64 x.fr :: .int .u64 x.to :: .int .u64 x.am :: .int .u64 x.fe :: .int .u64 x.no :: x.se.map bv
theorem Tx.len {x : Tx} (h : x.ok) : x.cs.length = 22 := by simp [Tx.cs, h.1]
/-- What a block with a transaction in it, from o on, shows. -/
structure TxAt (w : World) (g o : Nat) (x : Tx) : Prop where
  c0 : w.cell? ⟨g, o, none⟩ = some (.int .i64 x.k)
  c1 : w.cell? ⟨g, o + 1, none⟩ = some (.int .u64 x.fr)
  c2 : w.cell? ⟨g, o + 2, none⟩ = some (.int .u64 x.to)
  c3 : w.cell? ⟨g, o + 3, none⟩ = some (.int .u64 x.am)
  c4 : w.cell? ⟨g, o + 4, none⟩ = some (.int .u64 x.fe)
  c5 : w.cell? ⟨g, o + 5, none⟩ = some (.int .u64 x.no)
  all : w.rangeAt g o x.cs
theorem txAt {w : World} {g o : Nat} {x : Tx} (h : w.rangeAt g o x.cs) : TxAt w g o x :=
  ⟨h 0 _ rfl, h 1 _ rfl, h 2 _ rfl, h 3 _ rfl, h 4 _ rfl, h 5 _ rfl, h⟩
theorem Row.tx {w : World} {g : Nat} {x : Tx} (r : Row w g x.cs.toArray 27) : TxAt w g 0 x := txAt (fun j u hu => by rw [Nat.zero_add]; exact r.cell j u (by simpa using hu))
def aB (n : Nat) : Bool := decide ((n : Int) ≤ 1152921504606846975)
/-- What PlainTx answers. -/
def plainT (x : Tx) : Int :=
  if x.k < 1 ∨ 4 < x.k then 40
  else fieldE (((x.fr : Int) != 0) && ((x.k == 1) == ((x.to : Int) != 0)) && (aB x.am && (x.k != 4 || (x.am : Int) == 0)) && aB x.fe)
end Go.Proofs.YtgbcdjjnpadddaaGreatDoor


