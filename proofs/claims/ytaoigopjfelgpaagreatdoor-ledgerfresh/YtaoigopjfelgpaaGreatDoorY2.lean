/- A witness in memory; topOf. -/
import Derived.Test.YtaoigopjfelgpaaGreatDoorYx
import Derived.Test.YtaoigopjfelgpaaGreatDoorJa
import Derived.Test.YtaoigopjfelgpaaGreatDoorLa
namespace Go.Proofs.YtaoigopjfelgpaaGreatDoor
open Go.RowKit
set_option linter.unusedVariables false

/-- A proof: of how many, of which, the way. -/
structure Pf where
  t : Int
  i : Int
  A : List (List UInt8)
def pfC (q : Pf) (a : Option Addr) (cap : Nat) : List Value := [.int .i64 q.t, .int .i64 q.i, .slice a q.A.length cap]
/-- A list of proofs, wherever it lies. -/
structure QsAt (w : World) (a : Option Addr) (cap : Nat) (l : List Pf) : Prop where
  le : l.length ≤ cap
  cap : cap ≤ maxLen
  cells : ∀ (j : Nat) q, l[j]? = some q → ∃ b off a' c', a = some ⟨b, off, none⟩ ∧ HsAt w a' c' q.A ∧ w.rangeAt b (off + j * 3) (pfC q a' c')
def Qs (w : World) (v : Value) (l : List Pf) : Prop := ∃ a cap, v = .slice a l.length cap ∧ QsAt w a cap l
theorem QsAt.turn_no {w w' : World} {a : Option Addr} {cap : Nat} {l : List Pf} (h : QsAt w a cap l) (t : Turn no w w') : QsAt w' a cap l :=
  ⟨h.le, h.cap, fun j q hj => by
    obtain ⟨b, off, a', c', e, hs, r⟩ := h.cells j q hj
    exact ⟨b, off, a', c', e, hs.turn_no t, fun i u hu => t.keep (r i u hu) (fun q => q)⟩⟩
theorem AsAt.range {w : World} {a : Option Addr} {cap : Nat} {l : List Ac} (h : AsAt w a cap l) (j : Nat) (m : Ac) (hj : l[j]? = some m) : ∃ b off, a = some ⟨b, off, none⟩ ∧ w.rangeAt b (off + j * 5) (acs m) := by
  obtain ⟨b, off, e, c0, c1, c2, c3, c4⟩ := h.cells j m hj
  refine ⟨b, off, e, fun i u hu => ?_⟩
  rcases i with _ | _ | _ | _ | _ | i
  · simp [acs] at hu; subst hu; exact c0
  · simp [acs] at hu; subst hu; exact c1
  · simp [acs] at hu; subst hu; exact c2
  · simp [acs] at hu; subst hu; exact c3
  · simp [acs] at hu; subst hu; exact c4
  · simp [acs] at hu
/-- A witness's cells: what lies under the rest, the accounts, the proofs. -/
def wtL (R : List UInt8) (va vp : Value) : List Value := R.map bv ++ [va, vp]
theorem wtL_len {R : List UInt8} (hR : R.length = 32) (va vp : Value) : (wtL R va vp).length = 34 := by simp [wtL, hR]
theorem wtL_R (R : List UInt8) (va vp : Value) (j : Nat) (u : Value) (hu : (R.map bv)[j]? = some u) : (wtL R va vp).toArray[0 + j]? = some u := by
  rw [List.getElem?_toArray, Nat.zero_add, wtL, List.getElem?_append_left (List.getElem?_eq_some_iff.1 hu).1]
  exact hu
theorem wtL_32 {R : List UInt8} (hR : R.length = 32) (va vp : Value) : (wtL R va vp).toArray[(32 : Nat)]? = some va := by
  rw [List.getElem?_toArray, wtL, List.getElem?_append_right (by simp [hR])]
  simp [hR]
theorem wtL_33 {R : List UInt8} (hR : R.length = 32) (va vp : Value) : (wtL R va vp).toArray[(33 : Nat)]? = some vp := by
  rw [List.getElem?_toArray, wtL, List.getElem?_append_right (by simp [hR])]
  simp [hR]
/-- The two under the root. -/
def inH (X R : List UInt8) : List UInt8 := hashOf (1 :: (X ++ R))
def tpE (X R : List UInt8) (q : Pf) (m : Ac) : Int := if pathE q.t q.i q.A.length 33 = 0 then (if (inH (pathH q.t q.i q.A (formB m)) R == X) = true then 0 else 21) else pathE q.t q.i q.A.length 33
def tpH (X R : List UInt8) (q : Pf) (m : Ac) : List UInt8 := if tpE X R q m = 0 then pathH q.t q.i q.A (formB m) else z32
theorem tpH_len (X R : List UInt8) (q : Pf) (m : Ac) : (tpH X R q m).length = 32 := by
  unfold tpH
  split
  · exact pathH_len _ _ _ _
  · rfl
theorem size57 : (Tryz.prog.info? 53).map (·.size) = some 3 := by kernel_rfl
theorem size32a : (Tryz.prog.info? 50).map (·.size) = some 5 := by kernel_rfl
theorem size29w : (Tryz.prog.info? 43).map (·.size) = some 34 := by kernel_rfl
end Go.Proofs.YtaoigopjfelgpaaGreatDoor


