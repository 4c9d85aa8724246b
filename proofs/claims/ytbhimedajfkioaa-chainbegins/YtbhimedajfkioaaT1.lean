/- Members out of accounts; a state out of its parts; what Begin makes. -/
import Derived.Test.YtbhimedajfkioaaS8
import Derived.Test.YtbhimedajfkioaaS2
import Derived.Test.YtbhimedajfkioaaS3
import Derived.Test.YtbhimedajfkioaaS4
import Derived.Test.YtbhimedajfkioaaLG9
import Derived.Test.YtbhimedajfkioaaGe
import Derived.Test.YtbhimedajfkioaaGc
import Derived.Test.YtbhimedajfkioaaQ2
import Derived.Test.YtbhimedajfkioaaKE2
namespace Go.Proofs.Ytbhimedajfkioaa
open Go.RowKit
set_option linter.unusedVariables false

def mbsOf (L : List Ac) : List Mb := L.map fun m => ⟨m.ad, m.bond, 0⟩
theorem mbsOf_len (L : List Ac) : (mbsOf L).length = L.length := by simp [mbsOf]
theorem meC_flat (L : List Ac) : meC L = flat (mbsOf L) := by simp [meC, flat, mbsOf, List.flatMap_map, mbC]
theorem seats_ms {w : World} {v : Value} {L : List Ac} (h : OwnN w 71 3 v L.length (meC L)) (hok : ∀ m ∈ L, m.ok) : Ms w v (mbsOf L) := by
  rw [meC_flat] at h
  exact h.ms (by simp [mbsOf]) (fun m hm => by
    obtain ⟨x, hx, rfl⟩ := List.mem_map.1 hm
    have := hok x hx
    exact ⟨this.1, this.2.2.1, (by decide : (-9223372036854775808 : Int) ≤ 0), (by decide : (0 : Int) < 9223372036854775808)⟩)
def p0 : Pm := ⟨0, 0, 0, 0, 0, 0, 0, 0, 0, 0, 0, 0⟩
def nilV : Value := .slice none 0 0
def stZ : List Value := stL ByteArray.empty p0 0 0 nilV nilV nilV nilV 0 0
theorem built65z : Try.prog.built 65 [] = some stZ.toArray := by kernel_rfl
theorem built65 (s : ByteArray) (p : Pm) (t : Int) (v u va : Value) (k : Int) : Try.prog.built 65 [(0, .string s), (1, .agg (pmL p).toArray), (3, .int .u64 t), (5, .agg #[v]), (6, .agg #[u]), (9, .agg #[va, nilV, .int .u64 0, .int .u64 k])] = some (stL s p 0 t v u va nilV 0 k).toArray := by kernel_rfl
theorem size65 (s : ByteArray) (p : Pm) (h t : Int) (v u va vr : Value) (b k : Int) : (Try.prog.info? 65).map (·.size) = some (stL s p h t v u va vr b k).toArray.size := by kernel_rfl
theorem one65 (s : ByteArray) (p : Pm) (t : Int) (a1 a2 a3 : Option Addr) (n1 n2 n3 c1 c2 c3 : Nat) (k : Int) : (stL s p 0 t (.slice a1 n1 c1) (.slice a2 n2 c2) (.slice a3 n3 c3) nilV 0 k).toArray.all (·.oneCell') = true := by kernel_rfl
theorem onez : stZ.toArray.all (·.oneCell') = true := by kernel_rfl
theorem sizez : (Try.prog.info? 65).map (·.size) = some stZ.toArray.size := by kernel_rfl
/-- A genesis' cells. -/
def gnL (s : ByteArray) (t : Int) (va : Value) (p : Pm) : List Value := [.string s, .int .u64 t, va, .int .u64 p.mb, .int .i64 p.se, .int .u64 p.sl, .int .u64 p.pe, .int .u64 p.ag, .int .i64 p.mt, .int .u64 p.pr, .int .u64 p.vo, .int .u64 p.pa, .int .u64 p.re, .int .u64 p.tr, .int .u64 p.dr]
theorem gnL_pm (s : ByteArray) (t : Int) (va : Value) (p : Pm) (j : Nat) (x : Value) (hx : (pmL p)[j]? = some x) : (gnL s t va p).toArray[3 + j]? = some x := by
  have hj : j < 12 := (List.getElem?_eq_some_iff.1 hx).1
  rw [← hx]
  rcases j with _ | _ | _ | _ | _ | _ | _ | _ | _ | _ | _ | _ | j <;> first | rfl | omega
def argB (s : ByteArray) (t : Nat) (p : Pm) : Bool := nameB s.size && decide (t ≤ 1125899906842624) && fitB p
/-- What is wrong with a beginning whose seats are L. -/
def beginE (s : ByteArray) (t : Nat) (p : Pm) (l L : List Ac) : Int :=
  if argB s t p = false then 2 else if newE l ≠ 0 then newE l else if weighE (mbsOf L) ≠ 0 then weighE (mbsOf L) else soundE (onceL (zeroed (mbsOf L)))
def firstL (L : List Ac) : List Mb := zeroed (mbsOf L)
def nextL (L : List Ac) : List Mb := renewL (onceL (zeroed (mbsOf L))) (mbsOf L)
/-- What a Begin leaves. -/
def Began (old : Nat) (w' : World) (e : Ending) (s : ByteArray) (t : Nat) (p : Pm) (l : List Ac) : Prop :=
  ∃ L, (argB s t p = true → newE l = 0 → Seated l L p.mb p.se) ∧
    ((beginE s t p l L ≠ 0 ∧ e = .returned (.tuple #[.agg stZ.toArray, .int .i64 (beginE s t p l L)])) ∨
     (beginE s t p l L = 0 ∧ ∃ v u va', e = .returned (.tuple #[.agg (stL s p 0 t v u va' nilV 0 (sumN 0 l [])).toArray, .int .i64 0]) ∧ Made old w' v (firstL L) ∧ Made old w' u (nextL L) ∧ As w' va' l ∧ ∀ g, va'.ownBlock = some g → old ≤ g))
theorem asc_of_new {l : List Ac} (h : newE l = 0) : Asc l ∧ l.length ≤ 65536 := by
  unfold newE at h
  split at h
  · contradiction
  · rename_i hE
    have hE : accE l = 0 := by simpa using hE
    unfold accE at hE
    split at hE
    · cases hE
    · exact ⟨(scanA_asc l 0 hE).1, by omega⟩
end Go.Proofs.Ytbhimedajfkioaa
