/- What the arguments read as. -/
import Derived.Test.YtnlcngcilojnkaaDoorStrangeW
import Derived.Test.YtnlcngcilojnkaaDoorLaid
import Derived.ChangeOld
import Derived.SizedLaws
import Derived.Lib.SmallJoins
namespace Go.Proofs.YtnlcngcilojnkaaDoor
open Go.ChangeShapes Go.WideShapes Go.ChangeAt Go.RowKit Go.Joins
set_option linter.unusedVariables false

theorem cells5 : Tryd.prog.cellsOf 5 = 1 := by kernel_rfl
theorem cells31 : Tryd.prog.cellsOf 31 = 1 := by kernel_rfl
theorem cells33 : Tryd.prog.cellsOf 33 = 16 := by kernel_rfl
theorem cells40 : Tryd.prog.cellsOf 40 = 19 := by kernel_rfl

section
variable {H : Type} {enc : TypeId × Value → H} {w : World} {base : Nat} {spare : Nat → Bool} {held : Bool}

theorem u8_wf {n : Int} (h : (Lit.int .u8 n).wf = true) : 0 ≤ n ∧ n < 256 := by
  have := bounds_u8 h
  omega
theorem u64_of {n : Int} (h : (Lit.int .u64 n).wf = true) : ∃ a : UInt64, n = (a.toNat : Int) := by
  simp only [Lit.wf, Bool.and_eq_true, decide_eq_true_eq] at h
  rw [show IntKind.u64.min = 0 by decide, show IntKind.u64.max = 18446744073709551615 by decide] at h
  refine ⟨UInt64.ofNat n.toNat, ?_⟩
  rw [UInt64.toNat_ofNat']
  have : n.toNat % 2 ^ 64 = n.toNat := Nat.mod_eq_of_lt (by omega)
  rw [this]
  omega

/-- A slice of bytes, read: what it holds. -/
theorem open_bytes {n : Nat} {v : Value} {y : DataW H × List MemPlace} (h : DataW.trod enc Tryd.prog w base spare held n 31 [v] = some y) : ∃ bs, Bs w v bs := by
  rcases open_ints Tryd.underlying31 Tryd.underlying5 cells5 h with ⟨hcs, hx⟩ | ⟨a, len, cap, zs, hcs, _, hl, hm, hz, hx, hcell, hwz⟩
  · simp at hcs
    exact ⟨[], Or.inl ⟨hcs, rfl⟩⟩
  · simp at hcs
    have hlen : len ≤ zs.length := by rw [hz]; split <;> omega
    have hbl : ((zs.take len).map fun z => UInt8.ofNat z.toNat).length = len := by simp; omega
    refine ⟨(zs.take len).map fun z => UInt8.ofNat z.toNat, Or.inr ⟨a, cap, by rw [hcs, hbl], by rw [hbl]; exact hl, hm, fun j u hu => ?_⟩⟩
    have hj : j < len := by
      have := (List.getElem?_eq_some_iff.1 hu).1
      omega
    rw [hcell j (by omega)]
    rw [List.getElem?_map, List.getElem?_take, if_pos hj, List.getElem?_eq_getElem (by omega)] at hu
    simp only [Option.map_some, Option.some.injEq] at hu
    rw [← hu]
    have hw := u8_wf (hwz zs[j] (List.getElem_mem _))
    have e1 : zs.getD j 0 = zs[j] := by simp [show j < zs.length by omega]
    rw [e1]
    unfold bv
    congr 2
    simp
    omega

def byteOfV : Value → UInt8
  | .int _ k => UInt8.ofNat k.toNat
  | _ => 0

theorem open_seal {n : Nat} {L : List Value} {y : DataW H × List MemPlace} (h : DataW.trod enc Tryd.prog w base spare held n 33 L = some y) : ∃ X : List UInt8, X.length = 16 ∧ L = X.map bv := by
  obtain ⟨xs, m1, _, _, hlen, hn, hel⟩ := DataW.trod_array Tryd.underlying33 h
  rw [cells33] at hlen
  refine ⟨L.map byteOfV, by simpa using hlen, ?_⟩
  apply List.ext_getElem?
  intro j
  by_cases hj : j < 16
  · have h0 := hel j hj
    obtain ⟨x, hxj⟩ : ∃ x, xs[j]? = some x := ⟨xs[j]'(by omega), List.getElem?_eq_getElem (by omega)⟩
    rw [hxj, cells5, Nat.mul_one] at h0
    obtain ⟨k, e1, _, wk⟩ := DataW.trod_int Tryd.underlying5 h0
    have hc : L[j]? = some (.int .u8 k) := by
      have := congrArg (·[0]?) e1
      simpa [List.getElem?_take, List.getElem?_drop] using this
    have hb := bounds_u8 wk
    rw [hc]
    simp [hc, byteOfV, bv]
    omega
  · rw [List.getElem?_eq_none (by omega), List.getElem?_eq_none (by simp; omega)]

theorem cut1 {L : List Value} {o : Nat} {v : Value} (h : (L.drop o).take 1 = [v]) : L[o]? = some v := by
  have := congrArg (·[0]?) h
  simpa [List.getElem?_take, List.getElem?_drop] using this

theorem open_strange {n : Nat} {L : List Value} {y : DataW H × List MemPlace} (h : DataW.trod enc Tryd.prog w base spare held n 40 L = some y) :
    ∃ (a b : UInt64) (va : Value) (bs X : List UInt8), L = inC a b va (X.map bv) ∧ Bs w va bs ∧ X.length = 16 := by
  obtain ⟨xs, m, _, _, hlen, hn, hel⟩ := DataW.trod_struct Tryd.underlying40 h
  rw [cells40] at hlen
  have hx : ∀ i, i < 4 → ∃ x, xs[i]? = some x := fun i hi => ⟨xs[i]'(by rw [hn]; exact hi), List.getElem?_eq_getElem _⟩
  obtain ⟨x0, e0⟩ := hx 0 (by omega)
  obtain ⟨x1, e1⟩ := hx 1 (by omega)
  obtain ⟨x2, e2⟩ := hx 2 (by omega)
  obtain ⟨x3, e3⟩ := hx 3 (by omega)
  have h0 : DataW.trod enc Tryd.prog w base spare held m 29 ((L.drop 0).take (Tryd.prog.cellsOf 29)) = some x0 := (hel 0 _ rfl).trans e0
  have h1 : DataW.trod enc Tryd.prog w base spare held m 29 ((L.drop 1).take (Tryd.prog.cellsOf 29)) = some x1 := (hel 1 _ rfl).trans e1
  have h2 : DataW.trod enc Tryd.prog w base spare held m 31 ((L.drop 2).take (Tryd.prog.cellsOf 31)) = some x2 := (hel 2 _ rfl).trans e2
  have h3 : DataW.trod enc Tryd.prog w base spare held m 33 ((L.drop 3).take (Tryd.prog.cellsOf 33)) = some x3 := (hel 3 _ rfl).trans e3
  rw [cells29] at h0 h1
  rw [cells31] at h2
  rw [cells33] at h3
  obtain ⟨k0, c0, _, w0⟩ := DataW.trod_int Tryd.underlying29 h0
  obtain ⟨k1, c1, _, w1⟩ := DataW.trod_int Tryd.underlying29 h1
  obtain ⟨a, rfl⟩ := u64_of w0
  obtain ⟨b, rfl⟩ := u64_of w1
  have hL2 : (L.drop 2).take 1 = [L[2]'(by omega)] := by
    apply List.ext_getElem?
    intro j
    cases j with
    | zero => simp [List.getElem?_drop, show 2 < L.length by omega]
    | succ j => simp [List.getElem?_take]
  rw [hL2] at h2
  obtain ⟨bs, hb⟩ := open_bytes h2
  obtain ⟨X, hX, eX⟩ := open_seal h3
  refine ⟨a, b, _, bs, X, ?_, hb, hX⟩
  apply List.ext_getElem?
  intro j
  have d0 := cut1 c0
  have d1 := cut1 c1
  match j with
  | 0 => simpa [inC] using d0
  | 1 => simpa [inC] using d1
  | 2 => simp [inC, show 2 < L.length by omega]
  | j + 3 =>
    have : ((L.drop 3).take 16)[j]? = L[j + 3]? := by
      rw [List.getElem?_take, List.getElem?_drop]
      split
      · rw [Nat.add_comm]
      · rw [List.getElem?_eq_none (by omega)]
    rw [← this, eX]
    simp [inC]
end
end Go.Proofs.YtnlcngcilojnkaaDoor
