/- Lists of items; Root of both; Clash. -/
import Derived.Test.YtaoigopjfelgpaaGreatDoorJa
import Derived.Laws.Strings
namespace Go.Proofs.YtaoigopjfelgpaaGreatDoor
open Go.RowKit
set_option linter.unusedVariables false

section
variable {P : Program} {ops : Array Oper} {rest : List Oper} {op : Oper} {a : Act} {w : World} {Q : Exit → Act → World → Prop}
/-- A load of many cells whose guard is on. -/
theorem wpList_load_midG (hgd : Region.wanted op (yielded ops a.tmps) = true) (ty : TypeId) (x : Operand) (ho : op.op = .load ty x)
    (b o : Nat) (hx : a.eval x = .pointer (some ⟨b, o, none⟩)) (cs : List Value) (d : TypeDesc) (hc : w.rangeAt b o cs)
    (hu : P.underlying ty = some d) (hd : d.isRow = true) (hi : (P.info? ty).map (·.size) = some cs.length)
    (h : wpList P ops Q rest (a.put op.dst (.agg cs.toArray)) w) : wpList P ops Q (op :: rest) a w :=
  wpList_want hgd fun _ hK => wp_load_mid ty x ho b o hx cs d hc hu hd hi (hK _ _ h)
end
abbrev Its := List (Value × List UInt8)
def txs (l : Its) : List (List UInt8) := l.map (·.2)
theorem txs_len (l : Its) : (txs l).length = l.length := by simp [txs]
/-- A list of items, wherever it lies. -/
structure BlAt (w : World) (a : Option Addr) (cap : Nat) (l : Its) : Prop where
  le : l.length ≤ cap
  cap : cap ≤ maxLen
  lt : l.length < 4611686018427387904
  pcs : l = [] ∨ ∃ b o, a = some ⟨b, o, none⟩ ∧ Pcs w b o l
theorem BlAt.turn_no {w w' : World} {a : Option Addr} {cap : Nat} {l : Its} (h : BlAt w a cap l) (t : Turn no w w') : BlAt w' a cap l :=
  ⟨h.le, h.cap, h.lt, h.pcs.elim .inl (fun ⟨b, o, e, p⟩ => .inr ⟨b, o, e, p.turn_no t⟩)⟩
def okL (l : Its) : Prop := l.length ≤ 65536 ∧ ∀ x ∈ l, x.2.length ≤ 1048576
theorem big_of (l : Its) : bigOf (txs l) = false ↔ okL l := by
  unfold bigOf okL txs
  simp [Bool.or_eq_false_iff]
section
variable {w : World} {a : Option Addr} {cap : Nat} {l : Its}
theorem big_all (h : BlAt w a cap l) : Calls Tryz.prog 69 #[.slice a l.length cap] w fun e w' => e = .returned (.bool (bigOf (txs l))) ∧ w' = w := by
  rcases h.pcs with rfl | ⟨b, o, rfl, p⟩
  · exact tooBig_none w a cap
  · exact tooBig_any w l l.length b o cap rfl p h.le h.lt
theorem rbig_all (h : BlAt w a cap l) : Calls Tryz.prog 75 #[.slice a l.length cap] w fun e w' => e = .returned (.bool (bigOf (txs l))) ∧ w' = w := by
  rcases h.pcs with rfl | ⟨b, o, rfl, p⟩
  · exact large_none w a cap
  · exact large_any w l l.length b o cap rfl p h.le h.lt
theorem top_all (h : BlAt w a cap l) (ho : okL l) (hl : Laid1 w) (h2 : 2 ≤ w.heap.size) : Calls Tryz.prog 96 #[.slice a l.length cap] w fun e w' => e = .returned (.agg (hb32 (topH (txs l)))) ∧ Turn no w w' := by
  by_cases h0 : l = []
  · subst h0
    rw [topH_none (txs []) rfl]
    exact top_none w a cap hl h2
  · rcases h.pcs with q | ⟨b, o, rfl, p⟩
    · exact absurd q h0
    · exact top_any l.length l b o cap w rfl p h.le (List.length_pos_iff.2 h0) ho.1 ho.2 hl h2
theorem rtop_all (h : BlAt w a cap l) (ho : okL l) (hl : Laid0 w) (h2 : 2 ≤ w.heap.size) : Calls Tryz.prog 102 #[.slice a l.length cap] w fun e w' => e = .returned (.agg (hb32 (topH (txs l)))) ∧ Turn no w w' := by
  by_cases h0 : l = []
  · subst h0
    rw [topH_none (txs []) rfl]
    exact rtop_none w a cap hl h2
  · rcases h.pcs with q | ⟨b, o, rfl, p⟩
    · exact absurd q h0
    · exact rtop_any l.length l b o cap w rfl p h.le (List.length_pos_iff.2 h0) ho.1 ho.2 hl h2
end
/-- What Root answers. -/
def rootE (l : Its) : Int := if bigOf (txs l) = true then 4 else 0
def rootT (l : Its) : List UInt8 := 2 :: (numE l.length ++ topH (txs l))
def rootH (l : Its) : List UInt8 := if bigOf (txs l) = true then z32 else hashOf (rootT l)
theorem rootH_len (l : Its) : (rootH l).length = 32 := by
  unfold rootH
  split
  · rfl
  · exact hashOf_len _
/-- Two unlike texts with one digest. -/
def clB (A B : List UInt8) : Bool := !(A == B) && hashOf A == hashOf B
theorem text_list (A : List UInt8) : (⟨A.toArray⟩ : ByteArray).toList = A := by
  rw [ByteArray.toList_eq]
end Go.Proofs.YtaoigopjfelgpaaGreatDoor



