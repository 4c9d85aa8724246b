/- Texts in one. -/
import Derived.Test.YtgbcdjjnpadddaaGreatDoorQT1
import Derived.Test.YtgbcdjjnpadddaaGreatDoorQW
import Derived.Deep.RegionLaw
import Derived.Deep.CutRange
import Derived.Deep.QuietTactic
import Derived.BigQuiet
import Derived.Deep.MidRow
import Derived.Laws.Tables
/- A writer, call behind call; layTx. -/
namespace Go.Proofs.YtgbcdjjnpadddaaGreatDoor
open Go.RowKit
set_option linter.unusedVariables false

section
variable {w0 W W' : World} {p : Nat} {v v1 : Value} {bs bs' : List UInt8}
theorem Laid.trans {e e' : Int} (h : Wr W p v1 bs e) (t : Turn (wfoot p v) w0 W) (n : Near w0 v v1) (k : Laid W p v1 bs' e' W') : Laid w0 p v bs' e' W' := by
  obtain ⟨v2, k1, k2, k3⟩ := k
  exact ⟨v2, k1, near_turn t n k2, near_near t.size n k3⟩
theorem step62 (L : Laid w0 p v bs 0 W) (n : Nat) (hn : n < 18446744073709551616) (hle : bs.length + 10 ≤ 140737488355328) : Calls Tryz.prog 135 #[.pointer (some ⟨p, 0, none⟩), .int .u64 n] W fun e w' => e = .returned (.tuple #[]) ∧ Laid w0 p v (bs ++ varE n) 0 w' := by
  obtain ⟨v1, h, t, nr⟩ := L
  exact (var_made W p v1 bs n hn h hle).mono (fun e w' ⟨q1, q2⟩ => ⟨q1, Laid.trans h t nr q2⟩)
theorem step57 (L : Laid w0 p v bs 0 W) (n : Nat) (hn : n < 256) (hle : bs.length + 10 ≤ 140737488355328) : Calls Tryz.prog 132 #[.pointer (some ⟨p, 0, none⟩), .int .u8 n] W fun e w' => e = .returned (.tuple #[]) ∧ Laid w0 p v (bs ++ leB n 1) 0 w' := by
  obtain ⟨v1, h, t, nr⟩ := L
  exact (wbyte_made W p v1 bs h n hn hle).mono (fun e w' ⟨q1, q2⟩ => ⟨q1, Laid.trans h t nr q2⟩)
theorem step71 (L : Laid w0 p v bs 0 W) (x : Value) (B : List UInt8) (hx : Bs W x B) (hle : bs.length + B.length + 10 ≤ 140737488355328) : Calls Tryz.prog 136 #[.pointer (some ⟨p, 0, none⟩), x] W fun e w' => e = .returned (.tuple #[]) ∧ Laid w0 p v (bs ++ B) 0 w' := by
  obtain ⟨v1, h, t, nr⟩ := L
  exact (wraw_made W p v1 bs h x B hx hle).mono (fun e w' ⟨q1, q2⟩ => ⟨q1, Laid.trans h t nr q2⟩)
theorem step58 (L : Laid w0 p v bs 0 W) (x : ByteArray) (hle : bs.length + x.size + 10 ≤ 140737488355328) : Calls Tryz.prog 133 #[.pointer (some ⟨p, 0, none⟩), .string x] W fun e w' => e = .returned (.tuple #[]) ∧ Laid w0 p v (bs ++ (varE x.size ++ x.data.toList)) 0 w' := by
  obtain ⟨v1, h, t, nr⟩ := L
  exact (wtext_made W p v1 bs h x hle).mono (fun e w' ⟨q1, q2⟩ => ⟨q1, Laid.trans h t nr q2⟩)
theorem Laid.turn (L : Laid w0 p v bs 0 W) : Turn (wfoot p v) w0 W := by
  obtain ⟨v1, h, t, nr⟩ := L
  exact t
/-- A block that was there and is not the writer's. -/
theorem Laid.cell (L : Laid w0 p v bs 0 W) {b j : Nat} {u : Value} (hb : ¬ wfoot p v b) (h : w0.cell? ⟨b, j, none⟩ = some u) : W.cell? ⟨b, j, none⟩ = some u := L.turn.keep h hb
theorem Laid.pre {w : World} {e : Int} (h : Laid w0 p v bs e W) (t : Turn no w w0) : Laid w p v bs e W := by
  obtain ⟨v1, k1, k2, k3⟩ := h
  refine ⟨v1, k1, t.of_no.trans k2 (fun _ _ q => q), ?_⟩
  rcases k3 with q | ⟨g, q, hg⟩
  · exact .inl q
  · exact .inr ⟨g, q, Nat.le_trans t.size hg⟩
end
theorem layNone59 (w : World) (x : Value) (hx : ∃ a n c, x = .slice a n c) : Calls Tryz.prog 134 #[x] w fun e w' => e = .returned (.tuple #[]) ∧ w' = w := by
  obtain ⟨a, n, c, rfl⟩ := hx
  go_enter Tryz.func134, Tryz.ntmps134
  go_wp2_with fail
  go_end0
  exact ⟨rfl, rfl⟩
/-- What a transaction is without its seal. -/
def txB (x : Tx) : List UInt8 := leB x.k.toNat 1 ++ (varE x.fr ++ (varE x.to ++ (varE x.am ++ (varE x.fe ++ varE x.no))))
end Go.Proofs.YtgbcdjjnpadddaaGreatDoor



/- What is signed of a transaction: the program. -/
namespace Go.Proofs.YtgbcdjjnpadddaaGreatDoor
open Go.RowKit
set_option linter.unusedVariables false

def cB (ch : ByteArray) : Bool := decide ((1 : Int) ≤ (ch.size : Int)) && decide ((ch.size : Int) ≤ 16)
theorem chain109 (w : World) (ch : ByteArray) : Calls Tryz.prog 155 #[.string ch] w fun e w' => e = .returned (.bool (cB ch)) ∧ w = w' := by
  unfold cB
  by_cases h1 : (1 : Int) ≤ (ch.size : Int)
  · go_enter Tryz.func155, Tryz.ntmps155
    go_wp2_with fail
    go_ret
    exact ⟨by simp [h1], rfl⟩
  · go_enter Tryz.func155, Tryz.ntmps155
    go_wp2_with fail
    go_ret
    exact ⟨by simp; omega, rfl⟩
/-- A chain's name and a transaction. -/
def stC (ch : ByteArray) (x : Tx) : List Value := .string ch :: x.cs
def plainS (ch : ByteArray) (x : Tx) : Int := if cB ch then plainT x else 41
theorem Row.st {w : World} {g : Nat} {ch : ByteArray} {x : Tx} (r : Row w g (stC ch x).toArray 67) : w.cell? ⟨g, 0, none⟩ = some (.string ch) ∧ w.rangeAt g 1 x.cs ∧ w.rangeAt g 0 (stC ch x) := by
  have h0 : w.rangeAt g 0 (stC ch x) := fun j u hu => by rw [Nat.zero_add]; exact r.cell j u (by simpa using hu)
  exact ⟨h0 0 _ rfl, fun j u hu => by have := h0 (j + 1) u hu; rwa [Nat.zero_add, Nat.add_comm] at this, h0⟩
theorem stC_len {ch : ByteArray} {x : Tx} (h : x.ok) : (stC ch x).length = 23 := by simp [stC, x.len h]
/-- What is signed of it. -/
def stB (ch : ByteArray) (x : Tx) : List UInt8 := leB 84 1 ++ ((varE ch.size ++ ch.data.toList) ++ txB x)
end Go.Proofs.YtgbcdjjnpadddaaGreatDoor



/- TxBytes of the program. -/
namespace Go.Proofs.YtgbcdjjnpadddaaGreatDoor
open Go.RowKit
set_option linter.unusedVariables false

theorem plainT_kind {x : Tx} (h : plainT x = 0) : 1 ≤ x.k ∧ x.k ≤ 4 := by
  unfold plainT at h
  by_cases q : x.k < 1 ∨ 4 < x.k
  · rw [if_pos q] at h; cases h
  · omega
theorem plainS_zero {ch : ByteArray} {x : Tx} (h : plainS ch x = 0) : ch.size ≤ 16 ∧ 1 ≤ x.k ∧ x.k ≤ 4 := by
  unfold plainS at h
  cases hc : cB ch
  · rw [hc] at h; cases h
  · rw [hc] at h
    have := plainT_kind h
    unfold cB at hc
    simp at hc
    omega
/-- What a call that tells bytes or an error leaves. -/
def Told (w : World) (e0 : Int) (B : List UInt8) (e : Ending) (w' : World) : Prop := ∃ v', e = .returned (.tuple #[v', .int .i64 e0]) ∧ Own w' 5 v' (B.map bv) ∧ (∀ g, v'.ownBlock = some g → w.heap.size ≤ g) ∧ Turn no w w'
theorem Told.pre {w w0 w' : World} {e0 : Int} {B : List UInt8} {e : Ending} (h : Told w0 e0 B e w') (t : Turn no w w0) : Told w e0 B e w' := by
  obtain ⟨v', h1, h2, h3, h4⟩ := h
  exact ⟨v', h1, h2, fun g hg => Nat.le_trans t.size (h3 g hg), t.then_no h4⟩
def sB (ch : ByteArray) (x : Tx) : List UInt8 := if plainS ch x = 0 then stB ch x else []
end Go.Proofs.YtgbcdjjnpadddaaGreatDoor



/- A chain's name and a thing, built beside each other; TxBytes of the program. -/
namespace Go.Proofs.YtgbcdjjnpadddaaGreatDoor
open Go.RowKit
set_option linter.unusedVariables false

theorem putPart (off : Nat) : ∀ (l : List Value) (k : Nat) (Z : Array Value), (l.zipIdx k).foldl (fun cs (c, j) => cs.setIfInBounds (off + j) c) Z = (l.zipIdx k).foldl (fun cs x => cs.setIfInBounds (off + x.2) x.1) Z := fun _ _ _ => rfl
theorem fold_size (off : Nat) : ∀ (l : List Value) (k : Nat) (Z : Array Value), ((l.zipIdx k).foldl (fun cs (x : Value × Nat) => cs.setIfInBounds (off + x.2) x.1) Z).size = Z.size
  | [], _, _ => rfl
  | v :: l, k, Z => by
    rw [List.zipIdx_cons, List.foldl_cons, fold_size off l (k + 1)]
    simp
theorem fold_get (off : Nat) : ∀ (l : List Value) (k : Nat) (Z : Array Value) (i : Nat), off + k + l.length ≤ Z.size → ((l.zipIdx k).foldl (fun cs (x : Value × Nat) => cs.setIfInBounds (off + x.2) x.1) Z)[i]? = if off + k ≤ i ∧ i < off + k + l.length then l[i - (off + k)]? else Z[i]?
  | [], k, Z, i, _ => by
    rw [if_neg (by simp only [List.length_nil]; omega)]
    rfl
  | v :: l, k, Z, i, h => by
    simp only [List.length_cons] at h
    rw [List.zipIdx_cons, List.foldl_cons, fold_get off l (k + 1) _ i (by simp; omega)]
    simp only [List.length_cons, Array.getElem?_setIfInBounds]
    by_cases h1 : i = off + k
    · subst h1
      rw [if_neg (by omega), if_pos rfl, if_pos (by omega), if_pos (by omega)]
      simp
    · by_cases h2 : off + (k + 1) ≤ i ∧ i < off + (k + 1) + l.length
      · rw [if_pos h2, if_pos (by omega)]
        rw [show i - (off + k) = (i - (off + (k + 1))) + 1 by omega]
        simp
      · rw [if_neg h2, if_neg (fun q => h1 q.symm), if_neg (by omega)]
theorem fill_gen (Z : Array Value) (ua ub : Value) (n m : Nat) (hz : Z.size = n + m) (ha : ua.cells.size = n) (hb : ub.cells.size = m) (place : Nat → Option (Nat × Nat)) (h0 : place 0 = some (0, n)) (h1 : place 1 = some (n, m)) :
    Instr.fill place Z [(0, ua), (1, ub)] = some (ua.cells ++ ub.cells) := by
  have e : ∀ (off : Nat) (C Y : Array Value), (C.zipIdx.foldl (fun cs (x : Value × Nat) => cs.setIfInBounds (off + x.2) x.1) Y) = (C.toList.zipIdx 0).foldl (fun cs (x : Value × Nat) => cs.setIfInBounds (off + x.2) x.1) Y := fun off C Y => by
    rw [← Array.foldl_toList, Array.toList_zipIdx]
  simp only [Instr.fill, h0, h1]
  generalize ua.cells = A at *
  generalize ub.cells = B at *
  simp only [ha, hb]
  have s1 : ((A.toList.zipIdx 0).foldl (fun cs (x : Value × Nat) => cs.setIfInBounds (0 + x.2) x.1) Z).size = n + m := by rw [fold_size]; exact hz
  rw [if_neg (by simp; omega)]
  have e1 := e 0 A Z
  rw [e1, if_neg (by rw [s1]; simp)]
  congr 1
  rw [e n B]
  apply Array.ext_getElem?
  intro i
  rw [fold_get n B.toList 0 _ i (by rw [s1]; simp [hb]), fold_get 0 A.toList 0 _ i (by simp [ha, hz])]
  simp only [Array.length_toList, ha, hb, Nat.add_zero, Nat.zero_add, Nat.zero_le, true_and, Nat.sub_zero, Array.getElem?_append, Array.getElem?_toList]
  by_cases h2 : i < n
  · rw [if_neg (by omega), if_pos h2, if_pos h2]
  · rw [if_neg h2]
    by_cases h3 : i < n + m
    · rw [if_pos (by omega), if_neg h2]
    · rw [if_neg (by omega), if_neg h2]
      rw [Array.getElem?_eq_none (by omega), Array.getElem?_eq_none (by omega)]
section
variable {P : Program} {ops : Array Oper} {rest : List Oper} {o : Oper} {a : Act} {w : World} {Q : Exit → Act → World → Prop}
theorem wpList_build_as (hg : o.guard = none) (t : TypeId) (i0 i1 : Nat) (x0 x1 : Operand) (ho : o.op = .build t #[(i0, x0), (i1, x1)]) (v0 v1 : Value) (h0 : a.eval x0 = v0) (h1 : a.eval x1 = v1) (cells : Array Value)
    (hf : P.built t [(i0, v0), (i1, v1)] = some cells) (h : wpList P ops Q rest (a.put o.dst (.agg cells)) w) : wpList P ops Q (o :: rest) a w := by
  have e : (#[(i0, x0), (i1, x1)].map fun (i, x) => (i, a.eval x)).toList = [(i0, v0), (i1, v1)] := by simp [h0, h1]
  exact wpList_build hg t _ ho (by rw [e, hf]; rfl) (by rw [e, hf]; exact h)
end
end Go.Proofs.YtgbcdjjnpadddaaGreatDoor


