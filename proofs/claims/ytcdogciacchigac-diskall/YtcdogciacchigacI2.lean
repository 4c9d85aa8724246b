/- opened, lives: the disk of a law. -/
import Derived.Test.YtcdogciacchigacI1
import Derived.Test.YtcdogciacchigacN1
namespace Go.Proofs.Ytcdogciacchigac
open Go.RowKit Go.Maps
set_option linter.unusedVariables false

theorem eql22_none (w : World) : (binOp .eql 30 (.pointer none) (.pointer none)).run Try.prog w = .ok (.bool true) w := by
  have h : ∀ d : Nat, (Op.equalIn (d + 1) 30 (.pointer none) (.pointer none)).run Try.prog w = .ok true w := fun d => by
    simp [Op.equalIn, run_underlying Try.underlying30]
  simp only [binOp]
  simp [Op.equal, Op.maxDepth, h 9999]

/-- What a law's disk is made of. -/
structure Mx where
  lim : Int
  mt : Bool
  l : List Fx
def liveS (m : Mx) : St := if m.mt then (if mOk m.lim m.l then mSt m.lim.toNat m.l else newSt 4096) else (if m.lim < 1 ∨ 1073741824 < m.lim then newSt 4096 else newSt m.lim.toNat)
def mxC (m : Mx) (a : Option Addr) (cap : Nat) : Array Value := #[.int .i64 m.lim, .bool m.mt, .slice a m.l.length cap]
/-- A disk that was made just now. -/
def Live (w : World) (q : Nat) (w' : World) (s : St) : Prop := ∃ K, w.heap.size ≤ q ∧ Dk w' q K s ∧ (∀ x, K x → w.heap.size ≤ x) ∧ Turn no w w'
theorem Live.of {w w1 w2 : World} {q : Nat} {K : Nat → Prop} {s : St} (t : Turn no w w1) (hq : w1.heap.size ≤ q) (h : Dk w2 q K s) (hF : From w1 no K) (t2 : Turn no w1 w2) : Live w q w2 s :=
  ⟨K, by have := t.size; omega, h, fun x hx => by
    rcases hF x hx with y | y
    · exact y.elim
    · have := t.size; omega, t.then_no t2⟩

end Go.Proofs.Ytcdogciacchigac
