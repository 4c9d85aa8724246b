/- A life and a trouble, as they are loaded. -/
import Derived.Test.YtbkbecjgphjpkabDoorG10
import Derived.Test.YtbkbecjgphjpkabDoorG9
namespace Go.Proofs.YtbkbecjgphjpkabDoor
open Go.RowKit Go.Maps
set_option linter.unusedVariables false

/-- A life's cells, its slices as they are. -/
structure LfAt (w : World) (g j : Nat) (f : Lif) (ra : Option Addr) (rn rc : Nat) (ya : Option Addr) (yn yc : Nat) (ta : Option Addr) (tn tc : Nat) : Prop where
  e0 : f.vr = .slice ra rn rc
  e1 : f.vy = .slice ya yn yc
  e2 : f.va = .slice ta tn tc
  c0 : w.cell? ⟨g, j, none⟩ = some (.slice ra rn rc)
  c1 : w.cell? ⟨g, j + 1, none⟩ = some (.slice ya yn yc)
  c2 : w.cell? ⟨g, j + 2, none⟩ = some (.slice ta tn tc)
  c3 : w.cell? ⟨g, j + 3, none⟩ = some (.int .i64 f.keep)
  c4 : w.cell? ⟨g, j + 4, none⟩ = some (.int .u8 f.junk.toNat)
theorem LfAt.turn {S : Nat → Prop} {w w' : World} {g j : Nat} {f : Lif} {ra : Option Addr} {rn rc : Nat} {ya : Option Addr} {yn yc : Nat} {ta : Option Addr} {tn tc : Nat} (h : LfAt w g j f ra rn rc ya yn yc ta tn tc) (t : Turn S w w') (hb : ¬ S g) : LfAt w' g j f ra rn rc ya yn yc ta tn tc :=
  ⟨h.e0, h.e1, h.e2, t.keep h.c0 hb, t.keep h.c1 hb, t.keep h.c2 hb, t.keep h.c3 hb, t.keep h.c4 hb⟩
theorem Lvs.at {w : World} {a : Option Addr} {n cap : Nat} {l : List Lif} (h : Lvs w (.slice a n cap) l) (j : Nat) (f : Lif) (hj : l[j]? = some f) :
    ∃ g o ra rc ya yc ta tc, a = some ⟨g, o, none⟩ ∧ g < w.heap.size ∧ LfAt w g (o + j * 5) f ra f.rs.length rc ya f.ys.length yc ta f.arms.length tc ∧ Bl w f.vr f.rs ∧ Vs w f.vy (f.ys.map iv) ∧ Trs w f.va f.arms := by
  obtain ⟨a', cap', e, h1, h2⟩ := h
  obtain ⟨g, o, ea, ⟨c0, c1, c2, c3, c4⟩, b1, b2, b3⟩ := h2 j f hj
  obtain ⟨ra, rc, e0⟩ := b1.form
  obtain ⟨ya, yc, e1⟩ := b2.slice
  rw [List.length_map] at e1
  obtain ⟨ta, tc, e2, _⟩ := id b3
  have : a = a' := by simp at e; exact e.1
  exact ⟨g, o, ra, rc, ya, yc, ta, tc, this.trans ea, World.block_lt_of_cell? w _ c0, ⟨e0, e1, e2, by rw [← e0]; exact c0, by rw [← e1]; exact c1, by rw [← e2]; exact c2, c3, c4⟩, b1, b2, b3⟩
/-- A trouble's cells. -/
structure TrAt (w : World) (g j : Nat) (t : Tr) : Prop where
  c0 : w.cell? ⟨g, j, none⟩ = some (.int .i64 t.when)
  c1 : w.cell? ⟨g, j + 1, none⟩ = some (.int .i64 t.kind)
  c2 : w.cell? ⟨g, j + 2, none⟩ = some (.bool t.done)
theorem TrAt.turn {S : Nat → Prop} {w w' : World} {g j : Nat} {t : Tr} (h : TrAt w g j t) (u : Turn S w w') (hb : ¬ S g) : TrAt w' g j t := ⟨u.keep h.c0 hb, u.keep h.c1 hb, u.keep h.c2 hb⟩
theorem Trs.at {w : World} {a : Option Addr} {n cap : Nat} {l : List Tr} (h : Trs w (.slice a n cap) l) (j : Nat) (t : Tr) (hj : l[j]? = some t) : ∃ g o, a = some ⟨g, o, none⟩ ∧ g < w.heap.size ∧ TrAt w g (o + j * 3) t := by
  obtain ⟨a', cap', e, h1, h2⟩ := h
  obtain ⟨g, o, ea, c0, c1, c2⟩ := h2 j t hj
  have : a = a' := by simp at e; exact e.1
  exact ⟨g, o, this.trans ea, World.block_lt_of_cell? w _ c0, c0, c1, c2⟩
/-- What lies in old memory. -/
theorem Bl.old {w : World} {v : Value} {ts : List It} (h : Bl w v ts) (hne : ts ≠ []) : ∀ g, v.ownBlock = some g → g < w.heap.size := by
  obtain ⟨aa, cp, rfl, _, _, hc⟩ := h
  cases ts with
  | nil => exact (hne rfl).elim
  | cons t r =>
    obtain ⟨g, o, rfl, c, _⟩ := hc 0 t rfl
    intro k hk
    cases hk
    exact World.block_lt_of_cell? w _ c
theorem Bs.old {w : World} {v : Value} {bs : List UInt8} (h : Bs w v bs) (hne : bs ≠ []) : ∀ g, v.ownBlock = some g → g < w.heap.size := by
  rcases h with ⟨_, rfl⟩ | ⟨a, cap, rfl, _, _, hc⟩
  · exact (hne rfl).elim
  · cases bs with
    | nil => exact (hne rfl).elim
    | cons b r =>
      intro g hg
      cases hg
      have := World.block_lt_of_cell? w _ (hc 0 b rfl)
      have e : (a.add 0).block = a.block := by unfold Addr.add; split <;> rfl
      rw [e] at this
      exact this
theorem Bl.olds {w : World} {v : Value} {ts : List It} (h : Bl w v ts) : ∀ t ∈ ts, t.2 ≠ [] → ∀ g, t.1.ownBlock = some g → g < w.heap.size := by
  obtain ⟨aa, cp, rfl, _, _, hc⟩ := h
  intro t ht hne
  obtain ⟨j, hj⟩ := List.getElem?_of_mem ht
  obtain ⟨g, o, _, _, b⟩ := hc j t hj
  exact b.old hne
theorem Vs.old {w : World} {v : Value} {xs : List Value} (h : Vs w v xs) (hne : xs ≠ []) : ∀ g, v.ownBlock = some g → g < w.heap.size := by
  rcases h with ⟨_, rfl⟩ | ⟨a, cap, rfl, _, _, hc⟩
  · exact (hne rfl).elim
  · cases xs with
    | nil => exact (hne rfl).elim
    | cons b r =>
      intro g hg
      cases hg
      have := World.block_lt_of_cell? w _ (hc 0 b rfl)
      have e : (a.add 0).block = a.block := by unfold Addr.add; split <;> rfl
      rw [e] at this
      exact this
theorem cat_each : ∀ (l : List (List UInt8)) (r : List UInt8), r ∈ l → r.length ≤ (cat l).length
  | x :: l, r, h => by
    rw [cat_cons, List.length_append, frameB_len]
    rcases List.mem_cons.1 h with rfl | h
    · omega
    · have := cat_each l r h; omega
theorem Lm.T {Wb w : World} {P : Nat → Prop} {q p : Nat} {vh vm : Value} {ts ms : List It} {here may : List (List UInt8)} {safe c y n m : Nat} {d : Bool} (h : Lm Wb P w q p vh vm ts ms here may safe c y d n m) : Turn (fun k => ¬ P k) Wb w := h.lw.T
theorem turn_old {w w' : World} (t : Turn (fun k => ¬ k < w.heap.size) w w') : Turn no w w' := t.mono (fun i hi z => z hi)
/-- A life: as live asks for it. -/
theorem live_life {W0 w : World} {q p : Nat} {vh0 : Value} {ts0 : List It} {safe0 c0 y0 n0 : Nat} (h : Lw W0 (fun k => k < W0.heap.size) w q p vh0 (.slice none 0 0) ts0 [] (ts0.map (·.2)) [] safe0 c0 y0 false n0) (hL : LaidT W0) (hpos : 0 < W0.heap.size)
    {g j : Nat} {f : Lif} {ra : Option Addr} {rn rc : Nat} {ya : Option Addr} {yn yc : Nat} {ta : Option Addr} {tn tc : Nat} (A : LfAt W0 g j f ra rn rc ya yn yc ta tn tc) (b1 : Bl W0 f.vr f.rs) (b2 : Vs W0 f.vy (f.ys.map iv)) (hB1 : f.rs.length ≤ 140737488355328) (hB2 : ∀ t ∈ f.rs, t.2.length ≤ 140737488355328) (hn0 : n0 ≤ 1099511627776) (hc0 : c0 ≤ 1099511627776) :
    Calls Tryd.prog 11 #[ptr q, ptr p, .agg #[.slice ra rn rc, .slice ya yn yc, .slice ta tn tc, .int .i64 f.keep, .int .u8 f.junk.toNat], vh0, .int .i64 safe0] w (Lout W0 (fun k => k < W0.heap.size) q p n0 c0 f.rs.length) := by
  have := live11 h (fun k z => z) hL hpos f.vr f.vy f.va f.keep f.junk.toNat f.rs f.ys b1 (fun hne g hg => b1.old hne g hg) b1.olds hB2 b2 (fun hne g hg => b2.old (by simpa using hne) g hg) ⟨ta, tn, tc, A.e2⟩ hB1 hn0 hc0
  rw [A.e0, A.e1, A.e2] at this
  exact this
end Go.Proofs.YtbkbecjgphjpkabDoor
