/- One side: a registry of the program beside the document's, and their signers; two sides. -/
import Derived.Test.YtnlcngcilojnkabDoorA5
import Derived.Test.YtnlcngcilojnkabDoorA4
import Derived.Test.YtnlcngcilojnkabDoorA3
import Derived.Test.YtnlcngcilojnkabDoorU2
import Derived.Test.YtnlcngcilojnkabDoorA0
namespace Go.Proofs.YtnlcngcilojnkabDoor
open Go.RowKit Go.Maps Go.MuLone
set_option linter.unusedVariables false

structure Pd where
  p : Nat
  br : Nat
  bt : Nat
  V : UInt64 → Value
  q : Nat
  ve : Value
  vr : Value
  vs : Value
  vt : Value
  ss : List Nat
  ts : List Nat
  E : List UInt64
  R : List Rec
/-- The blocks of a side. -/
def PFp (d : Pd) (g : Nat) : Prop := Fp d.p d.br d.bt d.V g ∨ RFp d.q d.ve d.vr g ∨ d.vs.ownBlock = some g ∨ d.vt.ownBlock = some g ∨ g ∈ d.ss ∨ g ∈ d.ts
structure Pz (w : World) (d : Pd) : Prop where
  bk : Bk w d.p d.br d.bt d.V d.E d.R
  rf : Rf w d.q d.ve d.vr d.E d.R
  os : Own w 62 d.vs (d.ss.map ptr)
  ot : Own w 64 d.vt (d.ts.map ptr)
  len : d.ss.length = d.E.length
  lent : d.ts.length = d.E.length
  sg : ∀ (j s : Nat) (a : UInt64), d.ss[j]? = some s → d.E[j]? = some a → Sg w s d.p a
  rs : ∀ (j s : Nat) (a : UInt64), d.ts[j]? = some s → d.E[j]? = some a → Rsg w s d.q a
  small : ∀ r ∈ d.R, r.2.length ≤ 1048576
section
variable {w w' : World} {d : Pd}
theorem Pz.sg_of (h : Pz w d) {s : Nat} (hs : s ∈ d.ss) : ∃ a, Sg w s d.p a := by
  obtain ⟨j, hj⟩ := List.getElem?_of_mem hs
  have hl : j < d.E.length := by rw [← h.len]; exact (List.getElem?_eq_some_iff.1 hj).1
  exact ⟨_, h.sg j s _ hj (List.getElem?_eq_getElem hl)⟩
theorem Pz.rs_of (h : Pz w d) {s : Nat} (hs : s ∈ d.ts) : ∃ a, Rsg w s d.q a := by
  obtain ⟨j, hj⟩ := List.getElem?_of_mem hs
  have hl : j < d.E.length := by rw [← h.lent]; exact (List.getElem?_eq_some_iff.1 hj).1
  exact ⟨_, h.rs j s _ hj (List.getElem?_eq_getElem hl)⟩
/-- A block of another kind is none of a side's. -/
theorem Pz.away (h : Pz w d) {g : Nat} {c : Array Value} {e : TypeId} {f : Nat × Nat} (ho : w.heap[g]? = some (.cells c e f)) (hn : e ≠ 75 ∧ e ≠ 9 ∧ e ≠ 80 ∧ e ≠ 28 ∧ e ≠ 100 ∧ e ≠ 62 ∧ e ≠ 64 ∧ e ≠ 102 ∧ e ≠ 104) : ¬ PFp d g := by
  obtain ⟨h1, h2, h3, h4, h5, h6, h7, h8, h9⟩ := hn
  rintro (q | (q | q | q) | q | q | q | q)
  · exact h.bk.away ho h1 h2 q
  · subst q; exact h3 (tag_ne ho h.rf.row)
  · obtain ⟨c', ho'⟩ := h.rf.oe.obj q; exact h4 (tag_ne ho ho')
  · obtain ⟨c', ho'⟩ := h.rf.orr.obj q; exact h5 (tag_ne ho ho')
  · obtain ⟨c', ho'⟩ := h.os.obj q; exact h6 (tag_ne ho ho')
  · obtain ⟨c', ho'⟩ := h.ot.obj q; exact h7 (tag_ne ho ho')
  · obtain ⟨a, hs⟩ := h.sg_of q; exact h8 (tag_ne ho hs)
  · obtain ⟨a, hs⟩ := h.rs_of q; exact h9 (tag_ne ho hs)
theorem Pz.lt (h : Pz w d) {g : Nat} (hg : PFp d g) : g < w.heap.size := by
  rcases hg with q | (q | q | q) | q | q | q | q
  · exact h.bk.lt q
  · subst q; exact Row.lt h.rf.row
  · exact h.rf.oe.lt q
  · exact h.rf.orr.lt q
  · exact h.os.lt q
  · exact h.ot.lt q
  · obtain ⟨a, hs⟩ := h.sg_of q; exact Row.lt hs
  · obtain ⟨a, hs⟩ := h.rs_of q; exact Row.lt hs
theorem Pz.turn {S : Nat → Prop} (h : Pz w d) (t : Turn S w w') (hS : ∀ g, PFp d g → ¬ S g) : Pz w' d :=
  ⟨h.bk.turn t (fun k hk => hS k (.inl hk)), h.rf.turn t (fun k hk => hS k (.inr (.inl hk))), h.os.turn t (fun g hg => hS g (.inr (.inr (.inl hg)))), h.ot.turn t (fun g hg => hS g (.inr (.inr (.inr (.inl hg))))), h.len, h.lent,
    fun j s a h1 h2 => Row.turn (h.sg j s a h1 h2) t (hS s (.inr (.inr (.inr (.inr (.inl (List.mem_of_getElem? h1))))))),
    fun j s a h1 h2 => Row.turn (h.rs j s a h1 h2) t (hS s (.inr (.inr (.inr (.inr (.inr (List.mem_of_getElem? h1))))))), h.small⟩
theorem Pz.turn_no (h : Pz w d) (t : Turn no w w') : Pz w' d := h.turn t (fun _ _ q => q)
end
/-- The two sides' cells. -/
def twC (d : Nat → Pd) (vq : Value) : Array Value := #[ptr (d 0).p, ptr (d 1).p, ptr (d 0).q, ptr (d 1).q, (d 0).vs, (d 1).vs, (d 0).vt, (d 1).vt, vq]
structure Tw (base : Nat) (w : World) (tw : Nat) (d : Nat → Pd) (vq : Value) (Q : List (List UInt8)) : Prop where
  row : Row w tw (twC d vq) 44
  side : ∀ k, k < 2 → Pz w (d k)
  apart : ∀ g, PFp (d 0) g → ¬ PFp (d 1) g
  book : OwnN w 31 16 vq Q.length (Q.flatMap (·.map bv))
  each : ∀ x ∈ Q, x.length = 16
  new : ∀ k, k < 2 → ∀ g, PFp (d k) g → base ≤ g
  newq : ∀ g, vq.ownBlock = some g → base ≤ g
  newt : base ≤ tw
  size : base ≤ w.heap.size
section
variable {base : Nat} {w w' : World} {tw : Nat} {d : Nat → Pd} {vq : Value} {Q : List (List UInt8)}
theorem Tw.at {k i : Nat} (h : Tw base w tw d vq Q) (hk : k < 2) : w.cell? ⟨tw, k, none⟩ = some (ptr (d k).p) ∧ w.cell? ⟨tw, 2 + k, none⟩ = some (ptr (d k).q) ∧ w.cell? ⟨tw, 4 + k, none⟩ = some (d k).vs ∧ w.cell? ⟨tw, 6 + k, none⟩ = some (d k).vt := by
  rcases k with _ | _ | k
  · exact ⟨h.row.cell 0 _ rfl, h.row.cell 2 _ rfl, h.row.cell 4 _ rfl, h.row.cell 6 _ rfl⟩
  · exact ⟨h.row.cell 1 _ rfl, h.row.cell 3 _ rfl, h.row.cell 5 _ rfl, h.row.cell 7 _ rfl⟩
  · omega
theorem Tw.c8 (h : Tw base w tw d vq Q) : w.cell? ⟨tw, 8, none⟩ = some vq := h.row.cell 8 _ rfl
theorem Tw.tw_off (h : Tw base w tw d vq Q) {k : Nat} (hk : k < 2) : ¬ PFp (d k) tw := (h.side k hk).away h.row (by decide)
theorem Tw.vq_off (h : Tw base w tw d vq Q) {k : Nat} (hk : k < 2) {g : Nat} (hg : vq.ownBlock = some g) : ¬ PFp (d k) g := by
  obtain ⟨c, ho⟩ := h.book.obj hg
  exact (h.side k hk).away ho (by decide)
theorem Tw.vq_tw (h : Tw base w tw d vq Q) : vq.ownBlock ≠ some tw := fun hg => by
  obtain ⟨c, ho⟩ := h.book.obj hg
  exact absurd (tag_ne ho h.row) (by decide)
theorem Tw.turn_no (h : Tw base w tw d vq Q) (t : Turn no w w') : Tw base w' tw d vq Q :=
  ⟨h.row.turn t (fun q => q), fun k hk => (h.side k hk).turn_no t, h.apart, h.book.turn_no t, h.each, h.new, h.newq, h.newt, Nat.le_trans h.size t.size⟩
def updP (d : Nat → Pd) (k : Nat) (x : Pd) : Nat → Pd := fun j => if j = k then x else d j
theorem twC_upd (d : Nat → Pd) (k : Nat) (x : Pd) (vq : Value) (hp : x.p = (d k).p) (hq : x.q = (d k).q) (hs : x.vs = (d k).vs) (ht : x.vt = (d k).vt) : twC (updP d k x) vq = twC d vq := by
  have h : ∀ j, (updP d k x j).p = (d j).p ∧ (updP d k x j).q = (d j).q ∧ (updP d k x j).vs = (d j).vs ∧ (updP d k x j).vt = (d j).vt := fun j => by
    unfold updP
    split
    · rename_i e; subst e; exact ⟨hp, hq, hs, ht⟩
    · exact ⟨rfl, rfl, rfl, rfl⟩
  unfold twC
  rw [(h 0).1, (h 1).1, (h 0).2.1, (h 1).2.1, (h 0).2.2.1, (h 1).2.2.1, (h 0).2.2.2, (h 1).2.2.2]
/-- A side is exchanged: what turned are its own blocks, the two's and the seals' alone. -/
theorem Tw.upd {S : Nat → Prop} (h : Tw base w tw d vq Q) {k : Nat} (hk : k < 2) (t : Turn S w w') (hS : ∀ g, S g → PFp (d k) g ∨ g = tw ∨ vq.ownBlock = some g) (x : Pd) {vq' : Value} {Q' : List (List UInt8)}
    (hrow : Row w' tw (twC (updP d k x) vq') 44) (hx : Pz w' x) (hf : ∀ g, PFp x g → PFp (d k) g ∨ w.heap.size ≤ g)
    (hb : OwnN w' 31 16 vq' Q'.length (Q'.flatMap (·.map bv))) (he : ∀ y ∈ Q', y.length = 16) (hq : ∀ g, vq'.ownBlock = some g → vq.ownBlock = some g ∨ w.heap.size ≤ g) : Tw base w' tw (updP d k x) vq' Q' := by
  have other : ∀ j, j < 2 → j ≠ k → ∀ g, PFp (d j) g → ¬ PFp (d k) g := fun j hj hne g hg hg' => by
    have : (j = 0 ∧ k = 1) ∨ (j = 1 ∧ k = 0) := by omega
    rcases this with ⟨rfl, rfl⟩ | ⟨rfl, rfl⟩
    · exact h.apart g hg hg'
    · exact h.apart g hg' hg
  have keep : ∀ j, j < 2 → j ≠ k → Pz w' (d j) := fun j hj hne => (h.side j hj).turn t (fun g hg hs => by
    rcases hS g hs with q | q | q
    · exact other j hj hne g hg q
    · subst q; exact h.tw_off hj hg
    · exact h.vq_off hj q hg)
  have un : ∀ j, j ≠ k → updP d k x j = d j := fun j hj => if_neg hj
  have uk : updP d k x k = x := if_pos rfl
  have apartx : ∀ j, j < 2 → j ≠ k → ∀ g, PFp x g → ¬ PFp (d j) g := fun j hj hne g hg hg' => by
    rcases hf g hg with q | q
    · exact other j hj hne g hg' q
    · exact absurd ((h.side j hj).lt hg') (Nat.not_lt.2 q)
  refine ⟨hrow, fun j hj => ?_, fun g h0 h1 => ?_, hb, he, fun j hj g hg => ?_, fun g hg => ?_, h.newt, Nat.le_trans h.size t.size⟩
  · by_cases hjk : j = k
    · subst hjk; rw [uk]; exact hx
    · rw [un j hjk]; exact keep j hj hjk
  · have : k = 0 ∨ k = 1 := by omega
    rcases this with rfl | rfl
    · rw [uk] at h0
      rw [un 1 (by omega)] at h1
      exact apartx 1 (by omega) (by omega) g h0 h1
    · rw [uk] at h1
      rw [un 0 (by omega)] at h0
      exact apartx 0 (by omega) (by omega) g h1 h0
  · by_cases hjk : j = k
    · subst hjk
      rw [uk] at hg
      rcases hf g hg with q | q
      · exact h.new j hj g q
      · exact Nat.le_trans h.size q
    · rw [un j hjk] at hg
      exact h.new j hj g hg
  · rcases hq g hg with q | q
    · exact h.newq g q
    · exact Nat.le_trans h.size q
end
end Go.Proofs.YtnlcngcilojnkabDoor
