/- Texts in one. -/
import Derived.Test.YtaoigopjfelgpaaGreatDoorT1
import Derived.Test.YtaoigopjfelgpaaGreatDoorRa
import Derived.Test.YtaoigopjfelgpaaGreatDoorT2
import Derived.Test.YtaoigopjfelgpaaGreatDoorT3
import Derived.Test.YtaoigopjfelgpaaGreatDoorHb
/- What New, Pay and Punish of both return, as one form: a ledger without releases, in memory of its own. -/
namespace Go.Proofs.YtaoigopjfelgpaaGreatDoor
open Go.RowKit
set_option linter.unusedVariables false

/-- A ledger's value, without releases. -/
def ldV (v : Value) (b s : Nat) : Value := .agg #[v, .slice none 0 0, .int .u64 b, .int .u64 s]
/-- A ledger whose list lies in memory that is new since B. -/
def LdO (w : World) (B : Nat) (V : Value) (l : List Ac) (b s : Nat) : Prop := ∃ v, V = ldV v b s ∧ OwnN w 50 5 v l.length (acC l) ∧ (∀ g, v.ownBlock = some g → B ≤ g)
theorem LdO.turn {S : Nat → Prop} {w w' : World} {B : Nat} {V : Value} {l : List Ac} {b s : Nat} (h : LdO w B V l b s) (t : Turn S w w') (hS : ∀ k, B ≤ k → ¬ S k) : LdO w' B V l b s := by
  obtain ⟨v, e, O, f⟩ := h
  exact ⟨v, e, O.turn t (fun g hg => hS g (f g hg)), f⟩
theorem LdO.turn_no {w w' : World} {B : Nat} {V : Value} {l : List Ac} {b s : Nat} (h : LdO w B V l b s) (t : Turn no w w') : LdO w' B V l b s := h.turn t (fun _ _ q => q)
theorem LdO.nil (w : World) (B : Nat) : LdO w B (ldV (.slice none 0 0) 0 0) [] 0 0 := ⟨_, rfl, OwnN.nil w 50 5, fun g hg => by cases hg⟩
/-- What Punish makes of a ledger. -/
def PunO (w : World) (B : Nat) (V : Value) (l : List Ac) (b s x sl : Nat) : Prop :=
  ((¬ sl ≤ 1000 ∨ hasB l x = false) ∧ LdO w B V [] 0 0) ∨ (sl ≤ 1000 ∧ hasB l x = true ∧ ∃ (c : Nat) (m : Ac), l[c]? = some m ∧ m.ad = x ∧ LdO w B V (l.set c (punA m sl)) (b + lostN m.bond sl) s)
/-- Two of them are of one list. -/
theorem PunO.one {w w' : World} {B B' : Nat} {V V' : Value} {l : List Ac} {b s x sl : Nat} (hA : Asc l) (h : PunO w B V l b s x sl) (h' : PunO w' B' V' l b s x sl) : ∃ L b1 s1, LdO w B V L b1 s1 ∧ LdO w' B' V' L b1 s1 ∧ ((L = [] ∧ b1 = 0 ∧ s1 = 0) ∨ ∃ (c : Nat) (m : Ac), l[c]? = some m ∧ L = l.set c (punA m sl) ∧ b1 = b + lostN m.bond sl ∧ s1 = s) := by
  rcases h with ⟨h1, h2⟩ | ⟨h1, h2, c, m, h3, h4, h5⟩
  · rcases h' with ⟨k1, k2⟩ | ⟨k1, k2, _⟩
    · exact ⟨[], 0, 0, h2, k2, Or.inl ⟨rfl, rfl, rfl⟩⟩
    · rcases h1 with h1 | h1
      · exact absurd k1 h1
      · rw [k2] at h1; cases h1
  · rcases h' with ⟨k1, k2⟩ | ⟨k1, k2, c', m', k3, k4, k5⟩
    · rcases k1 with k1 | k1
      · exact absurd h1 k1
      · rw [h2] at k1; cases k1
    · have e : c = c' := by
        rcases Nat.lt_trichotomy c c' with q | q | q
        · have := hA.at q h3 k3; omega
        · exact q
        · have := hA.at q k3 h3; omega
      subst e
      have e : m = m' := by rw [h3] at k3; exact Option.some.inj k3
      subst e
      exact ⟨_, _, _, h5, k5, Or.inr ⟨c, m, h3, rfl, rfl, rfl⟩⟩
section
variable (w : World) (va : Value) (l : List Ac) (ha : As w va l)
theorem pay7o (hl : l.length * 40 ≤ 140737488355328) (b s h : Nat) (h1 : 1 ≤ h) (h2 : h ≤ 1000) (ha : As w va l) : Calls Tryz.prog 7 #[ldV va b s, .int .u64 h] w fun e w' => ∃ V, e = .returned (.tuple #[V, .int .i64 0]) ∧ LdO w' w.heap.size V l b s ∧ Turn no w w' :=
  (pay7 w va l ha hl b s h h1 h2).mono (by rintro e w' ⟨v, rfl, O, f, t⟩; exact ⟨_, rfl, ⟨v, rfl, O, f⟩, t⟩)
theorem rpay9o (hl : l.length * 40 ≤ 140737488355328) (b s h : Nat) (h1 : 1 ≤ h) (h2 : h ≤ 1000) (ha : As w va l) : Calls Tryz.prog 9 #[ldV va b s, .int .u64 h] w fun e w' => ∃ V, e = .returned (.tuple #[V, .int .i64 0]) ∧ LdO w' w.heap.size V l b s ∧ Turn no w w' :=
  (rpay9 w va l ha hl b s h h1 h2).mono (by rintro e w' ⟨v, rfl, O, f, t⟩; exact ⟨_, rfl, ⟨v, rfl, O, f⟩, t⟩)
theorem pun8o (ha : As w va l) (hA : Asc l) (hl : l.length ≤ 65536) (b s x h sl : Nat) (hbd : ∀ m ∈ l, b + m.bond ≤ 1152921504606846975) (hb : b ≤ 1152921504606846975) (h1 : 1 ≤ h) (h2 : h ≤ 1000) (P : Array Value) (hP : P[2]? = some (.int .u64 sl)) : Calls Tryz.prog 8 #[ldV va b s, .agg P, .int .u64 x, .int .u64 h] w fun e w' => ∃ V k, e = .returned (.tuple #[V, .int .i64 k]) ∧ PunO w' w.heap.size V l b s x sl ∧ Turn no w w' := by
  by_cases hsl : sl ≤ 1000
  · cases hx : hasB l x with
    | false => exact (pun8_none w va l ha hA hl b s x h sl h1 h2 P hP hsl hx).mono (by rintro e w' ⟨rfl, t⟩; exact ⟨_, _, rfl, Or.inl ⟨Or.inr hx, LdO.nil _ _⟩, t⟩)
    | true => exact (pun8_ok w va l ha hA hl b s x h sl hbd hb h1 h2 P hP hsl hx).mono (by rintro e w' ⟨v, c, m, rfl, h3, h4, O, f, t⟩; exact ⟨_, _, rfl, Or.inr ⟨hsl, hx, c, m, h3, h4, v, rfl, by rw [List.length_set]; exact O, f⟩, t⟩)
  · exact (pun8_arg w va l ha b s x h sl h1 h2 P hP hsl).mono (by rintro e w' ⟨rfl, t⟩; exact ⟨_, _, rfl, Or.inl ⟨Or.inl hsl, LdO.nil _ _⟩, t⟩)
theorem rpun10o (ha : As w va l) (hA : Asc l) (hpos : ∀ m ∈ l, 0 < m.ad) (hl : l.length ≤ 65536) (b s x h sl : Nat) (hbd : ∀ m ∈ l, b + m.bond ≤ 1152921504606846975) (hb : b ≤ 1152921504606846975) (h1 : 1 ≤ h) (h2 : h ≤ 1000) (P : Array Value) (hP : P[2]? = some (.int .u64 sl)) : Calls Tryz.prog 10 #[ldV va b s, .agg P, .int .u64 x, .int .u64 h] w fun e w' => ∃ V k, e = .returned (.tuple #[V, .int .i64 k]) ∧ PunO w' w.heap.size V l b s x sl ∧ Turn no w w' := by
  by_cases hsl : sl ≤ 1000
  · cases hx : hasB l x with
    | false => exact (rpun10_none w va l ha hA hpos b s x h sl h1 h2 P hP hsl hx).mono (by rintro e w' ⟨rfl, t⟩; exact ⟨_, _, rfl, Or.inl ⟨Or.inr hx, LdO.nil _ _⟩, t⟩)
    | true => exact (rpun10_ok w va l ha hA hpos hl b s x h sl hbd hb h1 h2 P hP hsl hx).mono (by rintro e w' ⟨v, c, m, rfl, h3, h4, O, f, t⟩; exact ⟨_, _, rfl, Or.inr ⟨hsl, hx, c, m, h3, h4, v, rfl, by rw [List.length_set]; exact O, f⟩, t⟩)
  · exact (rpun10_arg w va l ha b s x h sl h1 h2 P hP hsl).mono (by rintro e w' ⟨rfl, t⟩; exact ⟨_, _, rfl, Or.inl ⟨Or.inl hsl, LdO.nil _ _⟩, t⟩)
end
/-- The program's New, of a list that the document's New takes. -/
theorem new6l (w : World) (va : Value) (l : List Ac) (ha : As w va l) (hl : l.length * 40 ≤ 140737488355328) (h0 : newE l = 0) : Calls Tryz.prog 6 #[va] w fun e w' => ∃ V k, e = .returned (.tuple #[V, .int .i64 k]) ∧ LdO w' w.heap.size V l 0 (sumN 0 l []) ∧ Turn no w w' :=
  (new6o w va l ha hl).mono (by
    rintro e w' ⟨v, q, k, rfl, ⟨_, h⟩, t⟩
    rcases h with ⟨_, O, f, rfl⟩ | ⟨h, _⟩
    · exact ⟨_, _, rfl, ⟨v, rfl, O, f⟩, t⟩
    · exact absurd h0 h)
/-- The program's and the document's ledger, held against one another. -/
theorem same14o (W : World) (B B' : Nat) (V V' : Value) (l : List Ac) (b s : Nat) (hok : ∀ m ∈ l, m.ok) (h : LdO W B V l b s) (h' : LdO W B' V' l b s) : Calls Tryz.prog 14 #[V, V'] W fun e w' => e = .returned (.bool true) ∧ Turn no W w' := by
  obtain ⟨v, rfl, O, _⟩ := h
  obtain ⟨v', rfl, O', _⟩ := h'
  exact same16 W _ _ _ _ l [] (O.as hok) (rs_nil W) (O'.as hok) (rs_nil W) b s
end Go.Proofs.YtaoigopjfelgpaaGreatDoor

/- Seats of both, as one form: who sits, in memory of its own. -/
namespace Go.Proofs.YtaoigopjfelgpaaGreatDoor
open Go.RowKit
set_option linter.unusedVariables false

/-- Members whose list lies in memory that is new since B. -/
def SeO (w : World) (B : Nat) (V : Value) (L : List Ac) : Prop := OwnN w 55 3 V L.length (meC L) ∧ (∀ g, V.ownBlock = some g → B ≤ g)
theorem SeO.turn {S : Nat → Prop} {w w' : World} {B : Nat} {V : Value} {L : List Ac} (h : SeO w B V L) (t : Turn S w w') (hS : ∀ k, B ≤ k → ¬ S k) : SeO w' B V L := ⟨h.1.turn t (fun g hg => hS g (h.2 g hg)), h.2⟩
theorem SeO.turn_no {w w' : World} {B : Nat} {V : Value} {L : List Ac} (h : SeO w B V L) (t : Turn no w w') : SeO w' B V L := h.turn t (fun _ _ q => q)
theorem seats11o (w : World) (va : Value) (l : List Ac) (ha : As w va l) (hA : Asc l) (hl : l.length * 40 ≤ 140737488355328) (b s : Nat) (P : Array Value) (mb : Nat) (st : Int) (hP0 : P[0]? = some (.int .u64 mb)) (hP1 : P[1]? = some (.int .i64 st)) :
    Calls Tryz.prog 11 #[ldV va b s, .agg P] w fun e w' => ∃ v' L, e = .returned v' ∧ Seated l L mb st ∧ SeO w' w.heap.size v' L ∧ Turn no w w' :=
  (seats11f w va none 0 0 l ha hl hA.inj b s P mb st hP0 hP1).mono (by
    rintro e w' ⟨v, q, rfl, hq, hs, O, f, t⟩
    exact ⟨v, _, rfl, seated_of hA hq hs, ⟨O, f⟩, t⟩)
theorem rseats15o (w : World) (va : Value) (l : List Ac) (ha : As w va l) (hA : Asc l) (hl : l.length ≤ 65536) (b s : Nat) (mb : Nat) (st : Int) (p2 p3 p4 p5 p6 p7 p8 p9 p10 p11 : Value) :
    Calls Tryz.prog 15 #[ldV va b s, .agg #[.int .u64 mb, .int .i64 st, p2, p3, p4, p5, p6, p7, p8, p9, p10, p11]] w fun e w' => ∃ v' L, e = .returned v' ∧ Seated l L mb st ∧ SeO w' w.heap.size v' L ∧ Turn no w w' :=
  (rseats15f w va (.slice none 0 0) l ha ⟨_, _, _, rfl⟩ hA hl b s mb st p2 p3 p4 p5 p6 p7 p8 p9 p10 p11).mono (by
    rintro e w' ⟨v, L, rfl, hs, O, f, t⟩
    exact ⟨v, L, rfl, hs, ⟨O, f⟩, t⟩)
theorem same16o (W : World) (B B' : Nat) (v u : Value) (l L M : List Ac) (mb : Nat) (st : Int) (hA : Asc l) (hL : Seated l L mb st) (hM : Seated l M mb st) (h : SeO W B v L) (h' : SeO W B' u M) : Calls Tryz.prog 16 #[v, u] W fun e w' => e = .returned (.bool true) ∧ Turn no W w' := by
  have e := Seated.one hA hL hM
  subst e
  exact sameM18 W v u _ L rfl h.1 h'.1
end Go.Proofs.YtaoigopjfelgpaaGreatDoor
