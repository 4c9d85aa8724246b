/- 'lay' on a Writer that was made, with an error or without. -/
import Derived.Test.YtpfjllkmaogafaaV2
namespace Go.Proofs.Ytpfjllkmaogafaa
open Go.RowKit
set_option linter.unusedVariables false

/-- What a value lays down: its bytes, the error. -/
def enc (k : Int) (n : Nat) (B : List UInt8) : List UInt8 × Int :=
  if k % 9 = 0 then (leB (n % 256) 1, 0)
  else if k % 9 = 1 then (leB (n % 2) 1, 0)
  else if k % 9 = 2 then (leB (n % 4294967296) 4, 0)
  else if k % 9 = 3 then (leB n 8, 0)
  else if k % 9 = 4 then (varE n, 0)
  else if k % 9 = 5 then (B, 0)
  else if k % 9 = 6 then (varE B.length ++ B, 0)
  else if k % 9 = 7 then (varE B.length ++ B, 0)
  else if n < 9223372036854775808 then (varE n, 0) else ([], 2)

/-- A Writer's state behind a value. -/
def wput (bs : List UInt8) (e : Int) (k : Int) (n : Nat) (B : List UInt8) : List UInt8 × Int := if e = 0 then (bs ++ (enc k n B).1, (enc k n B).2) else (bs, e)

theorem Bs.turn' {S : Nat → Prop} {w w' : World} {v : Value} {bs : List UInt8} (h : Bs w v bs) (ht : Turn S w w') (hn : bs ≠ [] → ∀ g, v.ownBlock = some g → ¬ S g) : Bs w' v bs := by
  by_cases hb : bs = []
  · subst hb
    rcases h with q | ⟨a, cap, q, h1, h2, _⟩
    · exact Or.inl q
    · exact Or.inr ⟨a, cap, q, h1, h2, fun j u hu => (by simp at hu)⟩
  · exact h.turn ht (hn hb)

theorem wrap64_big (n : Nat) (h1 : 9223372036854775808 ≤ n) (h2 : n < 18446744073709551616) : wrap64 (n : Int) < 0 := by
  unfold wrap64
  omega

def Pw (w : World) (k : Int) (n : Nat) (vb : Value) : World := w.alloc (.cells #[.int .i64 k, .int .u64 n, vb] 27)

theorem laid_back {w w' : World} {p : Nat} {v : Value} {bs bs' : List UInt8} {e e' : Int} {k : Int} {n : Nat} {vb : Value} (h0 : Wr w p v bs e) (h : Laid (Pw w k n vb) p v bs' e' w') : Laid w p v bs' e' w' := by
  obtain ⟨v', h1, h2, h3⟩ := h
  refine ⟨v', h1, ((Turn.refl no w).alloc _).of_no.trans h2 (fun _ _ q => q), ?_⟩
  rcases h3 with q | ⟨g, q, r⟩
  · exact Or.inl q
  · exact Or.inr ⟨g, q, by simp [Pw] at r; omega⟩

end Go.Proofs.Ytpfjllkmaogafaa

