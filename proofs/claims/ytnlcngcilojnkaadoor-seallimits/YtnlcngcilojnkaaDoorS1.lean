/- Keys of the book's two maps; the shape of a registry and of a signer. -/
import Derived.Test.YtnlcngcilojnkaaDoorBase
import Derived.Test.YtnlcngcilojnkaaDoorLocks
import Derived.Maps.OwnSet
import Derived.DeepKeys4
namespace Go.Proofs.YtnlcngcilojnkaaDoor
open Go.RowKit Go.Maps
set_option linter.unusedVariables false

theorem laidOut : laidOutB Tryd.prog = true := by kernel_rfl
theorem row86 : (86 : TypeId) < Tryd.prog.types.size := of_decide_eq_true (by kernel_rfl)
theorem cells86 : Tryd.prog.cellsOf 86 = 2 := by kernel_rfl
theorem cells29 : Tryd.prog.cellsOf 29 = 1 := by kernel_rfl
theorem cells9 : Tryd.prog.cellsOf 9 = 1 := by kernel_rfl
theorem wide86 : (match Tryd.prog.underlying 86 with | some (.array _ _) | some (.struct _) => true | _ => false) = true := by rw [Tryd.underlying86]
set_option maxRecDepth 100000 in
theorem law86 : Keyed Tryd.prog 86 := Keyed.of_law (deep_law_laid laidOut (m := 2) (by omega) row86 (by kernel_rfl) wide86)
theorem law29 : Keyed Tryd.prog 29 := int_keyed Tryd.underlying29

/-- A record as the program has it. -/
def recV (a : UInt64) (s : ByteArray) : Value := .agg #[.int .u64 a.toNat, .string s]
theorem u64_wf (a : UInt64) : (Lit.int .u64 (a.toNat : Int)).wf = true := by
  have := a.toNat_lt
  simp only [Lit.wf, Bool.and_eq_true, decide_eq_true_eq]
  constructor
  · rw [show IntKind.u64.min = 0 by decide]; omega
  · rw [show IntKind.u64.max = 18446744073709551615 by decide]; omega
theorem key86 : Tryd.prog.keyType 86 = true := by kernel_rfl
theorem keyOf_two {P : Program} {t k1 k2 : TypeId} {fs : Array Field} {f1 f2 : Field} (ht : P.underlying t = some (.struct fs)) (hfs : fs = #[f1, f2]) (h1 : f1.type = k1) (h2 : f2.type = k2) (o1 : f1.offset = 0) (o2 : f2.offset = 1) (n1 : f1.name ≠ "_") (n2 : f2.name ≠ "_")
    (hk1 : P.underlying k1 = some (.int .u64)) (hk2 : P.underlying k2 = some .string) (hc : P.cellsOf t = 2) (hc1 : P.cellsOf k1 = 1) (hc2 : P.cellsOf k2 = 1) (hk : P.keyType t = true) (hn : 1 ≤ P.types.size) (a : Int) (s : ByteArray) (ha : (Lit.int .u64 a).wf = true) (hs : s.size ≤ maxLen) :
    ∃ kl, keyOf P t (.agg #[.int .u64 a, .string s]) = some kl := by
  obtain ⟨m, hm⟩ : ∃ m, P.types.size = m + 1 := ⟨P.types.size - 1, by omega⟩
  subst hfs
  unfold keyOf
  rw [ht]
  simp only [hk, Bool.true_and]
  rw [if_pos (by simp [Value.formed, ht, hc]), hm]
  simp [Value.cells, Program.keyLits, ht, hk1, hk2, hc, hc1, hc2, h1, h2, o1, o2, n1, n2, ha, hs]
set_option maxRecDepth 100000 in
theorem recKey_is (a : UInt64) (s : ByteArray) (hs : s.size ≤ maxLen) : ∃ kl, keyOf Tryd.prog 86 (recV a s) = some kl :=
  keyOf_two Tryd.underlying86 rfl rfl rfl rfl rfl (by decide) (by decide) Tryd.underlying29 Tryd.underlying9 cells86 cells29 cells9 key86 (by have : 86 < Tryd.prog.types.size := row86; omega) _ s (u64_wf a) hs
def recKey (P : Program) (a : UInt64) (s : ByteArray) : Lit := (keyOf P 86 (recV a s)).getD (.bool true)
theorem recKey_of (a : UInt64) (s : ByteArray) (hs : s.size ≤ maxLen) : keyOf Tryd.prog 86 (recV a s) = some (recKey Tryd.prog a s) := by
  obtain ⟨kl, h⟩ := recKey_is a s hs
  rw [recKey, h]; rfl
theorem recKey_inj {a b : UInt64} {s t : ByteArray} (hs : s.size ≤ maxLen) (ht : t.size ≤ maxLen) (h : recKey Tryd.prog a s = recKey Tryd.prog b t) : a = b ∧ s = t := by
  have k1 := recKey_of a s hs
  have k2 := recKey_of b t ht
  rw [← h] at k2
  have := law86.inj k1 k2
  simp [recV] at this
  exact ⟨UInt64.toNat_inj.1 (by omega), this.2⟩
def adKey (a : UInt64) : Lit := .int .u64 a.toNat
theorem adKey_of (a : UInt64) : keyOf Tryd.prog 29 (.int .u64 a.toNat) = some (adKey a) := keyOf_int_mk Tryd.underlying29 (u64_wf a)
theorem adKey_inj {a b : UInt64} (h : adKey a = adKey b) : a = b := by
  simp [adKey] at h
  exact UInt64.toNat_inj.1 (by omega)

/-- An element that is held as it is. -/
def heldElem (v : Value) : Option (DataW Value × List MemPlace) := some (.held v, [])
theorem zero81 (w : World) : (zeroValue 81).run Tryd.prog w = .ok (.slice none 0 0) w := by kernel_rfl
theorem zero47 (w : World) : (zeroValue 47).run Tryd.prog w = .ok (.agg #[]) w := by kernel_rfl

/-- The registry's cells. -/
def regC (p br bt : Nat) (l : Int) : Array Value := #[.pointer (some ⟨p, 0, none⟩), .int .i32 l, .int .u32 0, .map (some br), .map (some bt)]
/-- A registry that New made: at p, its maps at br and bt; they read as D1, D2. -/
structure Reg (w : World) (p br bt n : Nat) (D1 D2 : DataW Value) : Prop where
  row : w.heap[p]? = some (.cells (regC p br bt 0) 57 (0, 0))
  recs : w.ownsMap Tryd.prog 86 unitElem br n D1
  texts : w.ownsMap Tryd.prog 29 heldElem bt n D2
  apart : br ≠ bt

theorem ownsMap_turn {S : Nat → Prop} {w w' : World} {k : TypeId} {R : Value → Option (DataW Value × List MemPlace)} {b n : Nat} {D : DataW Value} (h : w.ownsMap Tryd.prog k R b n D) (t : Turn S w w') (hn : ¬ S b) : w'.ownsMap Tryd.prog k R b n D := by
  obtain ⟨es, clock, hb, r⟩ := h
  exact ⟨es, clock, t.obj hb hn, r⟩
theorem Reg.turn {S : Nat → Prop} {w w' : World} {p br bt n : Nat} {D1 D2 : DataW Value} (h : Reg w p br bt n D1 D2) (t : Turn S w w') (hp : ¬ S p) (hr : ¬ S br) (ht : ¬ S bt) : Reg w' p br bt n D1 D2 :=
  ⟨t.obj h.row hp, ownsMap_turn h.recs t hr, ownsMap_turn h.texts t ht, h.apart⟩
theorem Reg.ne1 {w : World} {p br bt n : Nat} {D1 D2 : DataW Value} (h : Reg w p br bt n D1 D2) : br ≠ p := by
  rintro rfl
  obtain ⟨es, clock, hb, _⟩ := h.recs
  rw [h.row] at hb
  cases hb
theorem Reg.ne2 {w : World} {p br bt n : Nat} {D1 D2 : DataW Value} (h : Reg w p br bt n D1 D2) : bt ≠ p := by
  rintro rfl
  obtain ⟨es, clock, hb, _⟩ := h.texts
  rw [h.row] at hb
  cases hb
theorem mapTurn {w w' : World} {b : Nat} (h : w.mapTurned w' b) : Turn (fun k => k = b) w w' :=
  (Turn.refl _ w).grown h.grown (fun k q _ => (Option.some.inj q).symm)
end Go.Proofs.YtnlcngcilojnkaaDoor
