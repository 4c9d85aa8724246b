/- watch: a script is played. -/
import Derived.Test.YtnlcngcilojnkaaDoorT3
import Derived.Test.YtnlcngcilojnkaaDoorT4
import Derived.Laws.Bits128
import Derived.Deep.MidRow
namespace Go.Proofs.YtnlcngcilojnkaaDoor
open Go.RowKit Go.Maps Go.MuLone
set_option linter.unusedVariables false

theorem i64_and1 (n : Int) : bits .and .i64 n 1 = n % 2 := by
  have h127 : (BitVec.ofInt 64 1).toNat = 2 ^ 1 - 1 := by decide
  have key : (BitVec.ofInt 64 n &&& BitVec.ofInt 64 1).toNat = (n % ((2 ^ 64 : Nat) : Int)).toNat % 2 ^ 1 := by
    rw [BitVec.toNat_and, BitVec.toNat_ofInt, h127, Nat.and_two_pow_sub_one_eq_mod]
  show IntKind.i64.wrap ((BitVec.ofInt 64 n &&& BitVec.ofInt 64 1).toNat : Nat) = n % 2
  rw [key, IntKind.wrap_i64]
  omega

def sgA (E : List UInt64) (x : Int) : UInt64 := E.getD (around x E.length) 0
def sgB (B : List Wr) (E : List UInt64) (k : Nat) (x : Int) (bs : List UInt8) : List Wr :=
  if E = [] ∨ 1048576 < bs.length then B else if (k, sgA E x, bs) ∈ B then B else B ++ [(k, sgA E x, bs)]

/-- One call of a script. -/
structure Opx where
  kind : Int
  who : Int
  pos : Int
  a : UInt64
  va : Value
  bs : List UInt8
  X : List UInt8
  tw : Int
  lg : Bool
def Opx.k (x : Opx) : Nat := (x.who % 2).toNat
theorem Opx.k_lt (x : Opx) : x.k < 2 := by unfold Opx.k; omega
theorem Opx.k_eq (x : Opx) : x.who % 2 = (x.k : Int) := by unfold Opx.k; omega
def opC (x : Opx) : List Value := .int .i64 x.kind :: .int .i64 x.who :: .int .i64 x.pos :: .int .u64 x.a.toNat :: x.va :: (x.X.map bv ++ [.int .i64 x.tw, .bool x.lg])
def Script (w : World) (v : Value) (l : List Opx) : Prop :=
  (v = .slice none 0 0 ∧ l = []) ∨ ∃ a cap, v = .slice (some a) l.length cap ∧ l.length ≤ cap ∧ cap ≤ maxLen ∧
    ∀ j x, l[j]? = some x → ∃ b off, a = ⟨b, off, none⟩ ∧ w.rangeAt b (off + j * 23) (opC x) ∧ Bs w x.va x.bs ∧ x.X.length = 16
theorem Script.slice {w : World} {v : Value} {l : List Opx} (h : Script w v l) : ∃ a cap, v = .slice a l.length cap ∧ (∀ j x, l[j]? = some x → ∃ b off, a = some ⟨b, off, none⟩ ∧ w.rangeAt b (off + j * 23) (opC x) ∧ Bs w x.va x.bs ∧ x.X.length = 16) ∧ l.length ≤ cap ∧ l.length ≤ 9223372036854775807 := by
  rcases h with ⟨rfl, rfl⟩ | ⟨a, cap, rfl, h1, h2, h3⟩
  · exact ⟨none, 0, rfl, fun j x hx => by simp at hx, by simp, by simp⟩
  · refine ⟨some a, cap, rfl, fun j x hx => ?_, h1, by simp [maxLen] at h2; omega⟩
    obtain ⟨b, off, rfl, h⟩ := h3 j x hx
    exact ⟨b, off, rfl, h⟩
theorem rangeAt_turn {w w' : World} {b o : Nat} {cs : List Value} (h : w.rangeAt b o cs) (t : Turn no w w') : w'.rangeAt b o cs := fun j v hv => t.keep (h j v hv) (fun q => q)

/-- What a script makes of the addresses and of the book. -/
structure Ab where
  E : Nat → List UInt64
  B : List Wr
def stepA (s : Ab) (x : Opx) : Ab :=
  if x.kind = 1 then ⟨fun j => if j = x.k then entE (s.E x.k) x.a else s.E j, s.B⟩
  else if x.kind = 2 then ⟨s.E, sgB s.B (s.E x.k) x.k x.pos x.bs⟩ else s
def ab0 : Ab := ⟨fun _ => [], []⟩
def runA (l : List Opx) : Ab := l.foldl stepA ab0
theorem runA_succ (l : List Opx) (i : Nat) (x : Opx) (h : l[i]? = some x) : runA (l.take (i + 1)) = stepA (runA (l.take i)) x := by
  unfold runA
  rw [List.take_add_one, h, List.foldl_append]
  rfl
theorem stepA_len (s : Ab) (x : Opx) : (∀ j, ((stepA s x).E j).length ≤ (s.E j).length + 1) ∧ (stepA s x).B.length ≤ s.B.length + 1 := by
  unfold stepA
  split
  · refine ⟨fun j => ?_, Nat.le_succ _⟩
    by_cases hj : j = x.k
    · subst hj
      simp only [if_true]
      unfold entE
      split <;> simp
    · simp [hj]
  · split
    · refine ⟨fun j => Nat.le_succ _, ?_⟩
      simp only [sgB]
      split
      · omega
      · split <;> simp
    · exact ⟨fun j => Nat.le_succ _, Nat.le_succ _⟩
theorem runA_len (l : List Opx) : ∀ i, i ≤ l.length → (∀ j, ((runA (l.take i)).E j).length ≤ i) ∧ (runA (l.take i)).B.length ≤ i
  | 0, _ => by simp [runA, ab0]
  | i + 1, h => by
    obtain ⟨h1, h2⟩ := runA_len l i (by omega)
    obtain ⟨x, hx⟩ : ∃ x, l[i]? = some x := ⟨_, List.getElem?_eq_getElem (by omega)⟩
    rw [runA_succ l i x hx]
    obtain ⟨h3, h4⟩ := stepA_len (runA (l.take i)) x
    exact ⟨fun j => by have := h3 j; have := h1 j; omega, by omega⟩

def sd0 (p br bt : Nat) : Sd := ⟨p, br, bt, fun _ => .slice none 0 0, .slice none 0 0, .slice none 0 0, [], []⟩
def nilC (a b : Value) : Array Value := #[a, b, .slice none 0 0, .slice none 0 0, .slice none 0 0, .slice none 0 0, .slice none 0 0, .bool false]
def Fresh3 (base p br bt : Nat) : Prop := base ≤ p ∧ base ≤ br ∧ base ≤ bt
theorem fp0 {p br bt g : Nat} (h : SFp (sd0 p br bt) g) : g = p ∨ g = br ∨ g = bt := by
  rcases h with (q | q | q | ⟨a, q⟩) | q | q | q
  · exact .inl q
  · exact .inr (.inl q)
  · exact .inr (.inr q)
  · cases q
  · cases q
  · cases q
  · cases q
theorem sight0 {base : Nat} {w1 w : World} {sw p0 br0 bt0 p1 br1 bt1 : Nat} (hb : base ≤ sw) (hw : base ≤ w.heap.size) (row : Row w sw (nilC (ptr p0) (ptr p1)) 74) (b0 : Bk w p0 br0 bt0 (fun _ => .slice none 0 0) [] []) (b1 : Bk w p1 br1 bt1 (fun _ => .slice none 0 0) [] [])
    (f0 : Fresh3 base p0 br0 bt0) (f1 : Fresh3 base p1 br1 bt1) (hs : p0 < w1.heap.size ∧ br0 < w1.heap.size ∧ bt0 < w1.heap.size) (g1 : Fresh3 w1.heap.size p1 br1 bt1) : Sight base w sw (fun k => if k = 0 then sd0 p0 br0 bt0 else sd0 p1 br1 bt1) (.slice none 0 0) [] := by
  obtain ⟨h1, h2, h3⟩ := hs
  obtain ⟨g1, g2, g3⟩ := g1
  obtain ⟨x1, x2, x3⟩ := f0
  obtain ⟨y1, y2, y3⟩ := f1
  have hd : ∀ g, SFp (sd0 p0 br0 bt0) g → ¬ SFp (sd0 p1 br1 bt1) g := fun g h h' => by
    rcases fp0 h with rfl | rfl | rfl <;> rcases fp0 h' with q | q | q <;> omega
  refine ⟨row, fun k hk => ?_, fun j k g hj hk hjk hg => ?_, fun k g hk hg => ?_, OwnN.nil _ _ _, fun g q => (by cases q), hb, hw, fun x hx => (by cases hx)⟩
  · rcases (show k = 0 ∨ k = 1 by omega) with rfl | rfl
    · exact ⟨b0, Own.nil _ _, Own.nil _ _, rfl, fun j q a h _ => by simp [sd0] at h⟩
    · exact ⟨b1, Own.nil _ _, Own.nil _ _, rfl, fun j q a h _ => by simp [sd0] at h⟩
  · rcases (show (j = 0 ∧ k = 1) ∨ (j = 1 ∧ k = 0) by omega) with ⟨rfl, rfl⟩ | ⟨rfl, rfl⟩
    · exact hd g hg
    · exact fun q => hd g q hg
  · rcases (show k = 0 ∨ k = 1 by omega) with rfl | rfl
    · rcases fp0 hg with rfl | rfl | rfl <;> omega
    · rcases fp0 hg with rfl | rfl | rfl <;> omega
end Go.Proofs.YtnlcngcilojnkaaDoor
