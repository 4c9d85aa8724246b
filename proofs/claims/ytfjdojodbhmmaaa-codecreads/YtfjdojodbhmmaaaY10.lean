/- Two readers, the document's two, the book: side by side. -/
import Derived.Test.YtfjdojodbhmmaaaX7
import Derived.Test.YtfjdojodbhmmaaaY7
import Derived.Test.YtfjdojodbhmmaaaY8
import Derived.Test.YtfjdojodbhmmaaaY9
namespace Go.Proofs.Ytfjdojodbhmmaaa
open Go.RowKit
set_option linter.unusedVariables false

def upd {α : Type} (f : Nat → α) (i : Nat) (x : α) : Nat → α := fun j => if j = i then x else f j
theorem upd_same {α : Type} (f : Nat → α) (i : Nat) (x : α) : upd f i x i = x := by simp [upd]
theorem upd_other {α : Type} (f : Nat → α) (i : Nat) (x : α) {j : Nat} (h : j ≠ i) : upd f i x j = f j := by simp [upd, h]
theorem Rd.foot_lt {w : World} {p : Nat} {v : Value} {bs : List UInt8} {i : Nat} {e : Int} (h : Rd w p v bs i e) {g : Nat} (hg : wfoot p v g) : g < w.heap.size := by
  rcases hg with q | q
  · subst q; exact h.lt
  · exact h.own.lt q
theorem Rq.foot_lt {w : World} {p : Nat} {v : Value} {bs : List UInt8} {i : Nat} {e : Int} (h : Rq w p v bs i e) {g : Nat} (hg : wfoot p v g) : g < w.heap.size := by
  rcases hg with q | q
  · subst q; exact h.lt
  · exact h.own.lt q
/-- Which of the blocks are whose: the readers' 0 to 3, the book's and its entries' 4. -/
structure Sx (w0 w : World) (ow : Nat → Nat) (P : Nat → Nat) (V : Nat → Value) (kp : Nat) (kv : Kv) (bs : Nat → List UInt8) (C : Nat → Nat × Int) (Es : List En) : Prop where
  rd : ∀ j, j < 2 → Rd w (P j) (V j) (bs j) (C j).1 (C j).2
  rq : ∀ j, j < 2 → Rq w (P (2 + j)) (V (2 + j)) (bs j) (C (2 + j)).1 (C (2 + j)).2
  kb : Kb w kp kv Es
  of : ∀ j, j < 4 → ∀ g, wfoot (P j) (V j) g → ow g = j ∧ w0.heap.size ≤ g
  ok : ∀ g, kfoot kp kv g → ow g = 4 ∧ w0.heap.size ≤ g
  oe : ∀ x ∈ Es, ∀ g, eblk x g → ow g = 4 ∧ w0.heap.size ≤ g
  t : Turn no w0 w
/-- All blocks that are someone's. -/
def Foot (P : Nat → Nat) (V : Nat → Value) (kp : Nat) (kv : Kv) (Es : List En) (g : Nat) : Prop := (∃ j, j < 4 ∧ wfoot (P j) (V j) g) ∨ kfoot kp kv g ∨ ∃ x ∈ Es, eblk x g
section
variable {w0 w w' : World} {ow : Nat → Nat} {P : Nat → Nat} {V : Nat → Value} {kp : Nat} {kv : Kv} {bs : Nat → List UInt8} {C : Nat → Nat × Int} {Es : List En}
theorem Sx.lt (h : Sx w0 w ow P V kp kv bs C Es) {g : Nat} (hg : Foot P V kp kv Es g) : g < w.heap.size := by
  rcases hg with ⟨j, hj, hg⟩ | hg | ⟨x, hx, hg⟩
  · by_cases h2 : j < 2
    · exact (h.rd j h2).foot_lt hg
    · obtain ⟨i, rfl⟩ : ∃ i, j = 2 + i := ⟨j - 2, by omega⟩
      exact (h.rq i (by omega)).foot_lt hg
  · exact h.kb.foot_lt hg
  · exact h.kb.lt x hx g hg
theorem Sx.new (h : Sx w0 w ow P V kp kv bs C Es) {g : Nat} (hg : Foot P V kp kv Es g) : w0.heap.size ≤ g := by
  rcases hg with ⟨j, hj, hg⟩ | hg | ⟨x, hx, hg⟩
  · exact (h.of j hj g hg).2
  · exact (h.ok g hg).2
  · exact (h.oe x hx g hg).2
theorem Sx.plt (h : Sx w0 w ow P V kp kv bs C Es) {j : Nat} (hj : j < 4) : P j < w.heap.size := h.lt (.inl ⟨j, hj, .inl rfl⟩)
/-- Blocks that are nobody's have turned. -/
theorem Sx.off {S : Nat → Prop} (h : Sx w0 w ow P V kp kv bs C Es) (t : Turn S w w') (hs : ∀ g, Foot P V kp kv Es g → ¬ S g) (h0 : ∀ g, S g → w0.heap.size ≤ g) : Sx w0 w' ow P V kp kv bs C Es :=
  ⟨fun j hj => (h.rd j hj).turn t (fun g hg => hs g (.inl ⟨j, by omega, hg⟩)), fun j hj => (h.rq j hj).turn t (fun g hg => hs g (.inl ⟨2 + j, by omega, hg⟩)),
   h.kb.turn t (fun g hg => hs g (.inr (.inl hg))) (fun x hx g hg => hs g (.inr (.inr ⟨x, hx, hg⟩))), h.of, h.ok, h.oe, h.t.trans t (fun i hi q => by have := h0 i q; omega)⟩
theorem Sx.no (h : Sx w0 w ow P V kp kv bs C Es) (t : Turn no w w') : Sx w0 w' ow P V kp kv bs C Es := h.off t (fun _ _ q => q) (fun _ q => q.elim)
/-- One reader has moved on. -/
theorem Sx.moved (h : Sx w0 w ow P V kp kv bs C Es) {j : Nat} (hj : j < 4) (c : Nat × Int) (t : Turn (fun g => g = P j) w w') (h1 : j < 2 → Rd w' (P j) (V j) (bs j) c.1 c.2) (h2 : ∀ i, j = 2 + i → Rq w' (P j) (V j) (bs i) c.1 c.2) : Sx w0 w' ow P V kp kv bs (upd C j c) Es := by
  have hpj := h.of j hj (P j) (.inl rfl)
  have ne : ∀ i g, i < 4 → i ≠ j → wfoot (P i) (V i) g → ¬ g = P j := fun i g hi hij hg q => by
    have := (h.of i hi g hg).1
    rw [q, hpj.1] at this
    omega
  refine ⟨fun i hi => ?_, fun i hi => ?_, ?_, h.of, h.ok, h.oe, h.t.trans t (fun i hi q => by rw [q] at hi; omega)⟩
  · by_cases e : i = j
    · subst e; rw [upd_same]; exact h1 hi
    · rw [upd_other _ _ _ e]; exact (h.rd i hi).turn t (fun g hg => ne i g (by omega) e hg)
  · by_cases e : 2 + i = j
    · subst e; rw [upd_same]; exact h2 i rfl
    · rw [upd_other _ _ _ e]; exact (h.rq i hi).turn t (fun g hg => ne (2 + i) g (by omega) e hg)
  · refine h.kb.turn t (fun g hg q => ?_) (fun x hx g hg q => ?_)
    · have := (h.ok g hg).1
      rw [q, hpj.1] at this
      omega
    · have := (h.oe x hx g hg).1
      rw [q, hpj.1] at this
      omega
/-- The program reads. -/
theorem read_step (h : Sx w0 w ow P V kp kv bs C Es) {j : Nat} (hj : j < 2) (k a b : Int) (ha : a < 9223372036854775808) (hb : b < 9223372036854775808) (hle : (bs j).length ≤ 140737488355328) (r : Nat × List UInt8 × Nat × Int) (hr : rgets (bs j) (C j).1 (C j).2 k a b = r) :
    Calls Try.prog 20 #[.pointer (some ⟨P j, 0, none⟩), .agg #[.int .i64 k, .int .i64 a, .int .i64 b]] w fun e w' => ∃ vB, e = .returned (.agg #[.int .u64 r.1, vB]) ∧ Bs w' vB r.2.1 ∧ Fu w' vB r.2.1.length ∧ (∀ g, vB.ownBlock = some g → w.heap.size ≤ g) ∧ Sx w0 w' ow P V kp kv bs (upd C j r.2.2) Es ∧ Turn (fun g => g = P j) w w' := by
  refine (read_any2 w (P j) (V j) (bs j) (C j).1 (C j).2 k a b ha hb hle (h.rd j hj)).mono ?_
  rintro e w' ⟨vB, rfl, k1, k2, k3, k4, k5⟩
  rw [hr] at k1 k2 k4 ⊢
  exact ⟨vB, rfl, k1, k2, k3, h.moved (by omega) r.2.2 k5 (fun _ => k4) (fun i q => by omega), k5⟩
/-- The document reads. -/
theorem told_step (h : Sx w0 w ow P V kp kv bs C Es) {j : Nat} (hj : j < 2) (k a b : Int) (ha : a < 9223372036854775808) (hb : b < 9223372036854775808) (hle : (bs j).length ≤ 140737488355328) (r : Nat × List UInt8 × Nat × Int) (hr : rgets (bs j) (C (2 + j)).1 (C (2 + j)).2 k a b = r) :
    Calls Try.prog 33 #[.pointer (some ⟨P (2 + j), 0, none⟩), .agg #[.int .i64 k, .int .i64 a, .int .i64 b]] w fun e w' => ∃ vB, e = .returned (.agg #[.int .u64 r.1, vB]) ∧ Bs w' vB r.2.1 ∧ (∀ g, vB.ownBlock = some g → w.heap.size ≤ g) ∧ Sx w0 w' ow P V kp kv bs (upd C (2 + j) r.2.2) Es ∧ Turn (fun g => g = P (2 + j)) w w' := by
  refine (told_any w (P (2 + j)) (V (2 + j)) (bs j) (C (2 + j)).1 (C (2 + j)).2 k a b ha hb hle (h.rq j hj)).mono ?_
  rintro e w' ⟨vB, rfl, k1, k3, k4, k5⟩
  rw [hr] at k1 k4 ⊢
  exact ⟨vB, rfl, k1, k3, h.moved (by omega) r.2.2 k5 (fun q => by omega) (fun i q => (by omega : i = j) ▸ k4), k5⟩
/-- They stand alike. -/
theorem stands_step (h : Sx w0 w ow P V kp kv bs C Es) {j : Nat} (hj : j < 2) (he : C (2 + j) = C j) (hle : (bs j).length ≤ 140737488355328) :
    Calls Try.prog 32 #[.pointer (some ⟨P j, 0, none⟩), .pointer (some ⟨P (2 + j), 0, none⟩)] w fun e w' => e = .returned (.bool true) ∧ Turn no w w' := by
  have k := h.rq j hj
  rw [he] at k
  exact stands32 w (P j) (P (2 + j)) (V j) (V (2 + j)) (bs j) (C j).1 (C j).2 (h.rd j hj) k hle
/-- An answer is noted. -/
theorem note_step (h : Sx w0 w ow P V kp kv bs C Es) (s : Nat) (hs : ∀ g, Foot P V kp kv Es g → g < s) (a b c : Value) (W : List UInt8) (ha : Bs w a W) (hb : Own w 5 b (W.map bv)) (hc : Bs w c W) (m : Nat)
    (ka : ∀ g, a.ownBlock = some g → s ≤ g ∧ g < m) (kb : ∀ g, b.ownBlock = some g → m ≤ g) (kc : ∀ g, c.ownBlock = some g → s ≤ g) (hsm : s ≤ m) (hm : m ≤ w.heap.size) (h0 : w0.heap.size ≤ s) (hE : Es.length + 1 ≤ 5864062014805) (hW : W.length + 50 ≤ 140737488355328) :
    Calls Try.prog 34 #[.pointer (some ⟨kp, 0, none⟩), a, b, c] w fun e w' => e = .returned (.tuple #[]) ∧ ∃ ow' kv' x, Sx w0 w' ow' P V kp kv' bs C (Es ++ [x]) ∧ x.W = W ∧ (∀ g, Foot P V kp kv' (Es ++ [x]) g → g < m ∧ (Foot P V kp kv Es g ∨ a.ownBlock = some g) ∨ m ≤ g) ∧ Turn (fun g => Foot P V kp kv Es g ∨ m ≤ g) w w' := by
  obtain ⟨vg, vw, vn, vm⟩ := kv
  refine (note34 w kp vg vw vn vm Es h.kb a b c W ha (fun g hg => by have := (ka g hg).2; omega) hb hc (fun g hg => ⟨fun q => ?_, fun q => ?_⟩) (fun g hg q => ?_) (fun g hg q => ?_) (fun x hx g hg q => ?_) hE hW).mono ?_
  · have := hs g (.inr (.inl q)); have := (ka g hg).1; omega
  · have := kb g q; have := (ka g hg).2; omega
  · have := hs g (.inr (.inl q)); have := kb g hg; omega
  · have := hs g (.inr (.inl q)); have := kc g hg; omega
  · have := hs g (.inr (.inr ⟨x, hx, hg⟩)); have := kb g q; omega
  rintro e w' ⟨rfl, k', v1, v2, K, t, n1, n2, n3⟩
  have hsz := t.size
  have fr : ∀ j, j < 4 → ∀ g, wfoot (P j) (V j) g → ¬ (kfoot kp ⟨vg, vw, vn, vm⟩ g ∨ b.ownBlock = some g) := fun j hj g hg q => by
    rcases q with q | q
    · have := (h.of j hj g hg).1; have := (h.ok g q).1; omega
    · have := hs g (.inl ⟨j, hj, hg⟩); have := kb g q; omega
  have e5 : ∀ g, eblk ⟨a, v1, v2, W, markOf Es.length⟩ g → a.ownBlock = some g ∨ m ≤ g := fun g hg => by
    rcases hg with q | q | q
    · exact .inl q
    · exact .inr (by have := n2 g q; omega)
    · rcases n3 g q with r | r
      · exact .inr (kb g r)
      · exact .inr (by omega)
  refine ⟨rfl, fun g => if s ≤ g then 4 else ow g, k', ⟨a, v1, v2, W, markOf Es.length⟩, ⟨fun j hj => (h.rd j hj).turn t (fr j (by omega)), fun j hj => (h.rq j hj).turn t (fr (2 + j) (by omega)), K, fun j hj g hg => ?_, fun g hg => ?_, fun x hx g hg => ?_, h.t.trans t (fun i hi q => ?_)⟩, rfl, fun g hg => ?_, t.mono (fun g _ q => ?_)⟩
  · have := hs g (.inl ⟨j, hj, hg⟩)
    rw [if_neg (by omega)]
    exact h.of j hj g hg
  · rcases n1 g hg with q | q
    · have := hs g (.inr (.inl q))
      rw [if_neg (by omega)]
      exact h.ok g q
    · rw [if_pos (by omega)]
      exact ⟨rfl, by omega⟩
  · rcases List.mem_append.1 hx with hx | hx
    · have := hs g (.inr (.inr ⟨x, hx, hg⟩))
      rw [if_neg (by omega)]
      exact h.oe x hx g hg
    · rw [List.mem_singleton] at hx
      subst hx
      rcases e5 g hg with q | q
      · have := (ka g q).1
        rw [if_pos (by omega)]
        exact ⟨rfl, by omega⟩
      · rw [if_pos (by omega)]
        exact ⟨rfl, by omega⟩
  · rcases q with q | q
    · have := (h.ok i q).2; omega
    · have := kb i q; omega
  · rcases hg with ⟨j, hj, hg⟩ | hg | ⟨x, hx, hg⟩
    · exact .inl ⟨by have := hs g (.inl ⟨j, hj, hg⟩); omega, .inl (.inl ⟨j, hj, hg⟩)⟩
    · rcases n1 g hg with q | q
      · exact .inl ⟨by have := hs g (.inr (.inl q)); omega, .inl (.inr (.inl q))⟩
      · exact .inr (by omega)
    · rcases List.mem_append.1 hx with hx | hx
      · exact .inl ⟨by have := hs g (.inr (.inr ⟨x, hx, hg⟩)); omega, .inl (.inr (.inr ⟨x, hx, hg⟩))⟩
      · rw [List.mem_singleton] at hx
        subst hx
        rcases e5 g hg with q | q
        · exact .inl ⟨(ka g q).2, .inr q⟩
        · exact .inr q
  · rcases q with q | q
    · exact .inl (.inr (.inl q))
    · exact .inr (kb g q)
end
end Go.Proofs.Ytfjdojodbhmmaaa
