/- CodecReads: how it begins; its rounds' state. -/
import Derived.Test.YtfjdojodbhmmaaaY10
import Derived.Test.YtfjdojodbhmmaaaX6
namespace Go.Proofs.Ytfjdojodbhmmaaa
open Go.RowKit
set_option linter.unusedVariables false

def Q4 {α : Type} (a b c d : α) : Nat → α
  | 0 => a
  | 1 => b
  | 2 => c
  | _ => d
def Q2 {α : Type} (a b : α) : Nat → α
  | 0 => a
  | _ => b
def kv0 : Kv := ⟨.slice none 0 0, .slice none 0 0, .slice none 0 0, .slice none 0 0⟩
theorem kb_empty {w : World} {kp : Nat} (h : w.heap[kp]? = some (.cells #[.slice none 0 0, .slice none 0 0, .slice none 0 0, .slice none 0 0] 58 (0, 0))) : Kb w kp kv0 [] :=
  ⟨h, Own.nil _ _, Own.nil _ _, Own.nil _ _, Own.nil _ _, fun x q => (by cases q), fun x q => (by cases q), fun x q => (by cases q), fun x hx => (by simp at hx), fun x hx => (by simp at hx), fun x hx => (by simp at hx)⟩
/-- What holds at the head of each round. -/
def Rs (w0 w : World) (P : Nat → Nat) (kp : Nat) (bs : Nat → List UInt8) (i : Nat) : Prop :=
  ∃ ow V kv C Es, Sx w0 w ow P V kp kv bs C Es ∧ C 2 = C 0 ∧ C 3 = C 1 ∧ Es.length ≤ i ∧ ∀ x ∈ Es, x.W.length ≤ 140737488355000
theorem rs_begin {w0 w : World} {p0 p1 q0 q1 kp n0 n1 n2 n3 n4 : Nat} {v0 v1 u0 u1 : Value} {B cs : List UInt8} (h0 : Rd w p0 v0 B 0 0) (h1 : Rd w p1 v1 cs 0 0) (k0 : Rq w q0 u0 B 0 0) (k1 : Rq w q1 u1 cs 0 0)
    (f0 : ∀ g, wfoot p0 v0 g → n0 ≤ g ∧ g < n1) (f1 : ∀ g, wfoot p1 v1 g → n1 ≤ g ∧ g < n2) (f2 : ∀ g, wfoot q0 u0 g → n2 ≤ g ∧ g < n3) (f3 : ∀ g, wfoot q1 u1 g → n3 ≤ g ∧ g < n4)
    (hk : w.heap[kp]? = some (.cells #[.slice none 0 0, .slice none 0 0, .slice none 0 0, .slice none 0 0] 58 (0, 0))) (hkp : n4 ≤ kp) (h01 : n0 ≤ n1) (h12 : n1 ≤ n2) (h23 : n2 ≤ n3) (h34 : n3 ≤ n4) (t : Turn no w0 w) (hw : w0.heap.size ≤ n0) :
    Rs w0 w (Q4 p0 p1 q0 q1) kp (Q2 B cs) 0 := by
  refine ⟨fun g => if g < n1 then 0 else if g < n2 then 1 else if g < n3 then 2 else if g < n4 then 3 else 4, Q4 v0 v1 u0 u1, kv0, fun _ => (0, 0), [], ⟨fun j hj => ?_, fun j hj => ?_, kb_empty hk, fun j hj g hg => ?_, fun g hg => ?_, fun x hx => (by simp at hx), t⟩, rfl, rfl, Nat.le_refl _, fun x hx => (by simp at hx)⟩
  · match j, hj with
    | 0, _ => exact h0
    | 1, _ => exact h1
  · match j, hj with
    | 0, _ => exact k0
    | 1, _ => exact k1
  · match j, hj, hg with
    | 0, _, hg =>
      obtain ⟨a, b⟩ := f0 g hg
      rw [if_pos b]
      exact ⟨rfl, by omega⟩
    | 1, _, hg =>
      obtain ⟨a, b⟩ := f1 g hg
      rw [if_neg (by omega), if_pos b]
      exact ⟨rfl, by omega⟩
    | 2, _, hg =>
      obtain ⟨a, b⟩ := f2 g hg
      rw [if_neg (by omega), if_neg (by omega), if_pos b]
      exact ⟨rfl, by omega⟩
    | 3, _, hg =>
      obtain ⟨a, b⟩ := f3 g hg
      rw [if_neg (by omega), if_neg (by omega), if_neg (by omega), if_pos b]
      exact ⟨rfl, by omega⟩
  · have hg : g = kp := by
      rcases hg with q | q | q | q | q
      · exact q
      all_goals (simp [kv0, Value.ownBlock] at q)
    subst hg
    rw [if_neg (by omega), if_neg (by omega), if_neg (by omega), if_neg (by omega)]
    exact ⟨rfl, by omega⟩
/-- A box with an answer in it. -/
def Bo (w : World) (b : Nat) (n : Nat) (v : Value) : Prop := w.heap[b]? = some (.cells #[.int .u64 n, v] 33 (0, 0))
theorem Bo.new (w : World) (n : Nat) (v : Value) : Bo (w.alloc (.cells #[.int .u64 n, v] 33)) w.heap.size n v := heap_alloc_new w _
theorem Bo.turn {S : Nat → Prop} {w w' : World} {b n : Nat} {v : Value} (h : Bo w b n v) (t : Turn S w w') (hn : ¬ S b) : Bo w' b n v := t.obj h hn
theorem Bo.c0 {w : World} {b n : Nat} {v : Value} (h : Bo w b n v) : w.cell? ⟨b, 0, none⟩ = some (.int .u64 n) := by rw [cell_of_row w b 0 _ 33 (0, 0) h]; rfl
theorem Bo.c1 {w : World} {b n : Nat} {v : Value} (h : Bo w b n v) : w.cell? ⟨b, 1, none⟩ = some v := by rw [cell_of_row w b 1 _ 33 (0, 0) h]; rfl
theorem Bo.lt {w : World} {b n : Nat} {v : Value} (h : Bo w b n v) : b < w.heap.size := lt_of_obj h
theorem holds_step {w0 w : World} {P : Nat → Nat} {kp : Nat} {bs : Nat → List UInt8} {i : Nat} (h : Rs w0 w P kp bs i) (hi : i + 1 ≤ 5864062014805) : Calls Try.prog 25 #[.pointer (some ⟨kp, 0, none⟩)] w fun e w' => e = .returned (.bool true) ∧ Turn no w0 w' := by
  obtain ⟨ow, V, ⟨vg, vw, vn, vm⟩, C, Es, S, _, _, hE, hW⟩ := h
  refine (holds25 w kp vg vw vn vm Es S.kb (by omega) (fun x hx => by have := hW x hx; omega)).mono ?_
  rintro e w' ⟨rfl, t⟩
  exact ⟨rfl, S.t.then_no t⟩
end Go.Proofs.Ytfjdojodbhmmaaa
