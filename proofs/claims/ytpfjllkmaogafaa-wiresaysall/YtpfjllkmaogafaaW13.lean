/- 'read' of a Reader that was made, whatever is asked. -/
import Derived.Test.YtpfjllkmaogafaaW12
import Derived.Test.YtpfjllkmaogafaaW9
namespace Go.Proofs.Ytpfjllkmaogafaa
open Go.RowKit
set_option linter.unusedVariables false

/-- A number of so many bytes. -/
def rfix (bs : List UInt8) (i n : Nat) : Nat × Nat × Int := if bs.length - i < n then (0, i, 10) else (lsum (bs.drop i) n, i + n, 0)
def rbool (bs : List UInt8) (i : Nat) : Nat × Nat × Int := if bs.length - i < 1 then (0, i, 10) else if 1 < lsum (bs.drop i) 1 then (0, i, 11) else (lsum (bs.drop i) 1, i + 1, 0)

/-- What a read answers, of a Reader without an error: the number, the bytes, the place, the error. -/
def rget (bs : List UInt8) (i : Nat) (k a b : Int) : Nat × List UInt8 × Nat × Int :=
  if k % 9 = 0 then ((rfix bs i 1).1, [], (rfix bs i 1).2)
  else if k % 9 = 1 then ((rbool bs i).1, [], (rbool bs i).2)
  else if k % 9 = 2 then ((rfix bs i 4).1, [], (rfix bs i 4).2)
  else if k % 9 = 3 then ((rfix bs i 8).1, [], (rfix bs i 8).2)
  else if k % 9 = 4 then ((rvar bs i).1, [], (rvar bs i).2)
  else if k % 9 = 5 then (0, rraw bs i a)
  else if k % 9 = 6 then (0, rbytes bs i a)
  else if k % 9 = 7 then (0, rbytes bs i a)
  else ((rcount bs i a b).1, [], (rcount bs i a b).2)

/-- With an error or without. -/
def rgets (bs : List UInt8) (i : Nat) (e : Int) (k a b : Int) : Nat × List UInt8 × Nat × Int := if e = 0 then rget bs i k a b else (0, [], i, e)

/-- What a read leaves: its answer, the Reader. -/
def Got (w : World) (p : Nat) (v : Value) (bs : List UInt8) (r : Nat × List UInt8 × Nat × Int) (e : Ending) (w' : World) : Prop :=
  ∃ vB, e = .returned (.agg #[.int .u64 r.1, vB]) ∧ Bs w' vB r.2.1 ∧ (∀ g, vB.ownBlock = some g → w.heap.size ≤ g) ∧ Rd w' p v bs r.2.2.1 r.2.2.2 ∧ Turn (fun k => k = p) w w'

theorem nil_bs (w : World) : Bs w (.slice none 0 0) [] := Or.inl ⟨rfl, rfl⟩

theorem Rd.back {w w2 w' : World} {p : Nat} {v : Value} {bs : List UInt8} {i i0 : Nat} {e e0 : Int} (h0 : Rd w p v bs i0 e0) (h : Rd w2 p v bs i e) (l' : Turn (fun j => j = w.heap.size + 1) w2 w') : Rd w' p v bs i e :=
  h.turn l' (fun k q r => by
    have hp := h0.lt
    rcases q with q | q
    · omega
    · have := h0.own.lt q
      omega)

theorem Bytes.form {w : World} {p : Nat} {v : Value} {bs : List UInt8} {r : List UInt8 × Nat × Int} {v' : Value} {w' : World} (h : Bytes w p v bs r v' w') : (∃ ad n c, v' = .slice ad n c) ∧ Turn (fun j => j = p) w w' := ⟨h.1.form, h.2.2.2⟩

theorem rcount_lt {bs : List UInt8} {i : Nat} {m l : Int} (hm : m < 9223372036854775808) : (0 : Int) ≤ ((rcount bs i m l).1 : Int) ∧ ((rcount bs i m l).1 : Int) < 9223372036854775808 := by
  unfold rcount
  split
  · simp
  · split
    · simp
    · split
      · simp
      · split
        · simp
        · simp only
          omega

theorem rbytes_le (bs : List UInt8) (i : Nat) (m : Int) : (rbytes bs i m).1.length ≤ bs.length := by
  unfold rbytes
  split
  · simp
  · split
    · simp
    · split
      · simp
      · split
        · simp
        · simp
          omega

end Go.Proofs.Ytpfjllkmaogafaa

