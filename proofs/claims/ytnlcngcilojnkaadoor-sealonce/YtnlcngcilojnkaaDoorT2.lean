/- The sight: two registries, their signers, and the book beside them. -/
import Derived.Test.YtnlcngcilojnkaaDoorT1
import Derived.Test.YtnlcngcilojnkaaDoorT0
namespace Go.Proofs.YtnlcngcilojnkaaDoor
open Go.RowKit Go.Maps Go.MuLone
set_option linter.unusedVariables false

/-- One side: a registry, its signers (in vs) and whose they are (in va). -/
structure Sd where
  p : Nat
  br : Nat
  bt : Nat
  V : UInt64 → Value
  vs : Value
  va : Value
  ss : List Nat
  E : List UInt64
def SFp (d : Sd) (g : Nat) : Prop := Fp d.p d.br d.bt d.V g ∨ d.vs.ownBlock = some g ∨ d.va.ownBlock = some g ∨ g ∈ d.ss
structure Side (w : World) (d : Sd) (R : List Rec) : Prop where
  bk : Bk w d.p d.br d.bt d.V d.E R
  os : Own w 24 d.vs (d.ss.map ptr)
  oa : Own w 29 d.va (d.E.map u64V)
  len : d.ss.length = d.E.length
  sg : ∀ (j q : Nat) (a : UInt64), d.ss[j]? = some q → d.E[j]? = some a → Sg w q d.p a
theorem Side.sg_of {w : World} {d : Sd} {R : List Rec} (h : Side w d R) {q : Nat} (hq : q ∈ d.ss) : ∃ a, Sg w q d.p a := by
  obtain ⟨j, hj⟩ := List.getElem?_of_mem hq
  have hl : j < d.E.length := by rw [← h.len]; exact (List.getElem?_eq_some_iff.1 hj).1
  exact ⟨_, h.sg j q _ hj (List.getElem?_eq_getElem hl)⟩
theorem Side.away {w : World} {d : Sd} {R : List Rec} (h : Side w d R) {g : Nat} {c : Array Value} {e : TypeId} {f : Nat × Nat} (ho : w.heap[g]? = some (.cells c e f)) (h1 : e ≠ 57) (h2 : e ≠ 9) (h3 : e ≠ 24) (h4 : e ≠ 29) (h5 : e ≠ 60) : ¬ SFp d g := by
  rintro (q | q | q | q)
  · exact h.bk.away ho h1 h2 q
  · obtain ⟨c', ho'⟩ := h.os.obj q
    exact h3 (tag_ne ho ho')
  · obtain ⟨c', ho'⟩ := h.oa.obj q
    exact h4 (tag_ne ho ho')
  · obtain ⟨a, hs⟩ := h.sg_of q
    exact h5 (tag_ne ho hs)
theorem Side.lt {w : World} {d : Sd} {R : List Rec} (h : Side w d R) {g : Nat} (hg : SFp d g) : g < w.heap.size := by
  rcases hg with q | q | q | q
  · exact h.bk.lt q
  · exact h.os.lt q
  · exact h.oa.lt q
  · obtain ⟨a, hs⟩ := h.sg_of q
    exact Row.lt hs
theorem Side.turn {S : Nat → Prop} {w w' : World} {d : Sd} {R : List Rec} (h : Side w d R) (t : Turn S w w') (hS : ∀ g, SFp d g → ¬ S g) : Side w' d R :=
  ⟨h.bk.turn t (fun k hk => hS k (.inl hk)), h.os.turn t (fun g hg => hS g (.inr (.inl hg))), h.oa.turn t (fun g hg => hS g (.inr (.inr (.inl hg)))), h.len, fun j q a h1 h2 => Row.turn (h.sg j q a h1 h2) t (hS q (.inr (.inr (.inr (List.mem_of_getElem? h1)))))⟩
theorem Side.turn_no {w w' : World} {d : Sd} {R : List Rec} (h : Side w d R) (t : Turn no w w') : Side w' d R := h.turn t (fun _ _ q => q)

abbrev Wr := Nat × UInt64 × List UInt8
def recs (B : List Wr) (k : Nat) : List Rec := (B.filter (fun x => x.1 == k)).map (·.2)
theorem mem_recs (B : List Wr) (k : Nat) (r : Rec) : r ∈ recs B k ↔ (k, r) ∈ B := by
  unfold recs
  rw [List.mem_map]
  constructor
  · rintro ⟨x, hx, rfl⟩
    have := List.mem_filter.1 hx
    have e : x.1 = k := by simpa using this.2
    subst e
    exact this.1
  · intro h
    exact ⟨_, List.mem_filter.2 ⟨h, by simp⟩, rfl⟩
theorem recs_append (B : List Wr) (k j : Nat) (r : Rec) : recs (B ++ [(k, r)]) j = recs B j ++ (if j = k then [r] else []) := by
  unfold recs
  rw [List.filter_append, List.map_append]
  congr 1
  by_cases hb : j = k
  · subst hb; simp
  · have : ¬ k = j := fun e => hb e.symm
    simp [this, hb]
theorem recs_len (B : List Wr) (k : Nat) : (recs B k).length ≤ B.length := by
  unfold recs
  rw [List.length_map]
  exact List.length_filter_le _ _
def wrC (x : Wr) : List Value := .int .i64 x.1 :: .int .u64 x.2.1.toNat :: .string ⟨x.2.2.toArray⟩ :: (sealB x.2.1 x.2.2).map bv
theorem wrC_len (x : Wr) : (wrC x).length = 19 := by simp [wrC, sealB_len]
theorem flat_get {α β : Type} (f : α → List β) (m : Nat) (hm : ∀ x, (f x).length = m) : ∀ (l : List α) (i j : Nat) (x : α), l[i]? = some x → j < m → (l.flatMap f)[i * m + j]? = (f x)[j]?
  | [], i, j, x, h, _ => by simp at h
  | y :: l, 0, j, x, h, hj => by
    simp at h
    subst h
    rw [List.flatMap_cons, List.getElem?_append_left (by rw [hm]; omega)]
    simp
  | y :: l, i + 1, j, x, h, hj => by
    simp at h
    have e : (i + 1) * m + j = (i * m + j) + m := by rw [Nat.add_mul]; omega
    rw [List.flatMap_cons, e, List.getElem?_append_right (by rw [hm]; omega), hm, Nat.add_sub_cancel]
    exact flat_get f m hm l i j x h hj

def sightC (d : Nat → Sd) (vb : Value) : Array Value := #[ptr (d 0).p, ptr (d 1).p, (d 0).vs, (d 1).vs, (d 0).va, (d 1).va, vb, .bool false]
structure Sight (base : Nat) (w : World) (sw : Nat) (d : Nat → Sd) (vb : Value) (B : List Wr) : Prop where
  row : Row w sw (sightC d vb) 74
  side : ∀ k, k < 2 → Side w (d k) (recs B k)
  disj : ∀ j k g, j < 2 → k < 2 → j ≠ k → SFp (d j) g → ¬ SFp (d k) g
  fresh : ∀ k g, k < 2 → SFp (d k) g → base ≤ g
  book : OwnN w 79 19 vb B.length (B.flatMap wrC)
  fb : ∀ g, vb.ownBlock = some g → base ≤ g
  fs : base ≤ sw
  hb : base ≤ w.heap.size
  who : ∀ x ∈ B, x.1 < 2 ∧ x.2.2.length ≤ 1048576

section
variable {base sw : Nat} {w w' : World} {d : Nat → Sd} {vb : Value} {B : List Wr}
theorem Sight.c0 (h : Sight base w sw d vb B) {k : Nat} (hk : k < 2) : w.cell? ⟨sw, k, none⟩ = some (.pointer (some ⟨(d k).p, 0, none⟩)) := by
  rcases (show k = 0 ∨ k = 1 by omega) with rfl | rfl
  · exact h.row.cell 0 _ rfl
  · exact h.row.cell 1 _ rfl
theorem Sight.c2 (h : Sight base w sw d vb B) {k : Nat} (hk : k < 2) : w.cell? ⟨sw, 2 + k, none⟩ = some (d k).vs := by
  rcases (show k = 0 ∨ k = 1 by omega) with rfl | rfl
  · exact h.row.cell 2 _ rfl
  · exact h.row.cell 3 _ rfl
theorem Sight.c4 (h : Sight base w sw d vb B) {k : Nat} (hk : k < 2) : w.cell? ⟨sw, 4 + k, none⟩ = some (d k).va := by
  rcases (show k = 0 ∨ k = 1 by omega) with rfl | rfl
  · exact h.row.cell 4 _ rfl
  · exact h.row.cell 5 _ rfl
theorem Sight.c6 (h : Sight base w sw d vb B) : w.cell? ⟨sw, 6, none⟩ = some vb := h.row.cell 6 _ rfl
theorem Sight.c7 (h : Sight base w sw d vb B) : w.cell? ⟨sw, 7, none⟩ = some (.bool false) := h.row.cell 7 _ rfl
theorem Sight.at (h : Sight base w sw d vb B) : BkAt w vb B := by
  obtain ⟨a, cap, rfl, hn, h1, h2, h3⟩ := h.book.form
  refine ⟨a, cap, rfl, by simpa [maxLen] using h1, fun j x hx => ?_⟩
  rcases h.book.2 with ⟨e, q⟩ | ⟨g, cap', cur, e, _⟩
  · have := (List.getElem?_eq_some_iff.1 hx).1
    omega
  · cases e
    have hc : ∀ i u, (B.flatMap wrC)[i]? = some u → w.cell? ⟨g, i, none⟩ = some u := fun i u hu => by
      have := World.ownsRow.cells h.book (g := g) rfl i u hu
      simpa [Addr.add_lit] using this
    have c0 := hc (j * 19 + 0) _ ((flat_get wrC 19 wrC_len B j 0 x hx (by omega)).trans rfl)
    have c1 := hc (j * 19 + 1) _ ((flat_get wrC 19 wrC_len B j 1 x hx (by omega)).trans rfl)
    have c2 := hc (j * 19 + 2) _ ((flat_get wrC 19 wrC_len B j 2 x hx (by omega)).trans rfl)
    exact ⟨g, rfl, by simpa using c0, c1, c2⟩
/-- The seal of a record, where it lies. -/
theorem Sight.seal (h : Sight base w sw d vb B) {j : Nat} {x : Wr} (hx : B[j]? = some x) : ∃ g cap, vb = .slice (some ⟨g, 0, none⟩) B.length cap ∧ w.rangeAt g (j * 19 + 3) ((sealB x.2.1 x.2.2).map bv) ∧ w.rangeAt g (j * 19) (wrC x) := by
  rcases h.book.2 with ⟨e, q⟩ | ⟨g, cap', cur, e, _⟩
  · have := (List.getElem?_eq_some_iff.1 hx).1
    omega
  · have hc : ∀ i u, (B.flatMap wrC)[i]? = some u → w.cell? ⟨g, i, none⟩ = some u := fun i u hu => by
      have := World.ownsRow.cells h.book (g := g) (by rw [e]; rfl) i u hu
      simpa [Addr.add_lit] using this
    have hr : w.rangeAt g (j * 19) (wrC x) := fun i u hu => by
      have hi : i < 19 := by have := (List.getElem?_eq_some_iff.1 hu).1; rwa [wrC_len] at this
      exact hc _ _ ((flat_get wrC 19 wrC_len B j i x hx hi).trans hu)
    refine ⟨g, cap', e, fun i u hu => ?_, hr⟩
    have := hr (i + 3) u (by simpa [wrC] using hu)
    rw [← this]
    congr 2
    omega
theorem Sight.sw_away (h : Sight base w sw d vb B) {k : Nat} (hk : k < 2) : ¬ SFp (d k) sw := (h.side k hk).away h.row (by decide) (by decide) (by decide) (by decide) (by decide)
theorem Sight.vb_away (h : Sight base w sw d vb B) {k : Nat} (hk : k < 2) {g : Nat} (hg : vb.ownBlock = some g) : ¬ SFp (d k) g := by
  obtain ⟨c, ho⟩ := h.book.obj hg
  exact (h.side k hk).away ho (by decide) (by decide) (by decide) (by decide) (by decide)
theorem Sight.vb_sw (h : Sight base w sw d vb B) : vb.ownBlock ≠ some sw := fun hg => by
  obtain ⟨c, ho⟩ := h.book.obj hg
  exact absurd (tag_ne ho h.row) (by decide)
theorem Sight.turn_no (h : Sight base w sw d vb B) (t : Turn no w w') : Sight base w' sw d vb B :=
  ⟨h.row.turn t (fun q => q), fun k hk => (h.side k hk).turn_no t, h.disj, h.fresh, h.book.turn_no t, h.fb, h.fs, Nat.le_trans h.hb t.size, h.who⟩
/-- What lies below is not turned. -/
theorem Sight.turn {S : Nat → Prop} (h : Sight base w sw d vb B) (t : Turn S w w') (hS : ∀ g, base ≤ g → ¬ S g) : Sight base w' sw d vb B :=
  ⟨h.row.turn t (hS _ h.fs), fun k hk => (h.side k hk).turn t (fun g hg => hS g (h.fresh k g hk hg)), h.disj, h.fresh, h.book.turn t (fun g hg => hS g (h.fb g hg)), h.fb, h.fs, Nat.le_trans h.hb t.size, h.who⟩

def updS (d : Nat → Sd) (k : Nat) (x : Sd) : Nat → Sd := fun j => if j = k then x else d j
theorem Sight.upd {S : Nat → Prop} (h : Sight base w sw d vb B) {k : Nat} (hk : k < 2) (t : Turn S w w') (hS : ∀ g, S g → SFp (d k) g ∨ g = sw ∨ vb.ownBlock = some g) (x : Sd) {vb' : Value} {B' : List Wr}
    (row : Row w' sw (sightC (updS d k x) vb') 74) (sd : Side w' x (recs B' k)) (hf : ∀ g, SFp x g → SFp (d k) g ∨ w.heap.size ≤ g) (book : OwnN w' 79 19 vb' B'.length (B'.flatMap wrC))
    (fb : ∀ g, vb'.ownBlock = some g → base ≤ g) (who : ∀ x ∈ B', x.1 < 2 ∧ x.2.2.length ≤ 1048576) (hB : ∀ j, j ≠ k → recs B' j = recs B j) : Sight base w' sw (updS d k x) vb' B' := by
  have other : ∀ j, j < 2 → j ≠ k → ∀ g, SFp (d j) g → ¬ S g := fun j hj hjk g hg q => by
    rcases hS g q with q | q | q
    · exact h.disj j k g hj hk hjk hg q
    · subst q
      exact h.sw_away hj hg
    · exact h.vb_away hj q hg
  have hlt : ∀ j, j < 2 → ∀ g, SFp (d j) g → g < w.heap.size := fun j hj g hg => (h.side j hj).lt hg
  refine ⟨row, fun j hj => ?_, fun i j g hi hj hij h1 h2 => ?_, fun j g hj hg => ?_, book, fb, h.fs, Nat.le_trans h.hb t.size, who⟩
  · by_cases hjk : j = k
    · subst hjk
      simpa [updS] using sd
    · simp only [updS, if_neg hjk]
      rw [hB j hjk]
      exact (h.side j hj).turn t (other j hj hjk)
  · by_cases hik : i = k
    · by_cases hjk : j = k
      · exact hij (hik.trans hjk.symm)
      · simp only [updS, if_pos hik, if_neg hjk] at h1 h2
        rcases hf g h1 with q | q
        · exact h.disj k j g hk hj (fun e => hjk e.symm) q h2
        · have := hlt j hj g h2
          omega
    · by_cases hjk : j = k
      · simp only [updS, if_neg hik, if_pos hjk] at h1 h2
        rcases hf g h2 with q | q
        · exact h.disj k i g hk hi (fun e => hik e.symm) q h1
        · have := hlt i hi g h1
          omega
      · simp only [updS, if_neg hik, if_neg hjk] at h1 h2
        exact h.disj i j g hi hj hij h1 h2
  · by_cases hjk : j = k
    · simp only [updS, if_pos hjk] at hg
      rcases hf g hg with q | q
      · exact h.fresh k g hk q
      · have := h.hb
        omega
    · simp only [updS, if_neg hjk] at hg
      exact h.fresh j g hj hg
end
end Go.Proofs.YtnlcngcilojnkaaDoor
