/- What CodecApart's walk stands on: the two lists as rows of cells. -/
import Derived.Test.YtfjdojodbhmmaaaP3
import Derived.Test.YtfjdojodbhmmaaaV5
import Derived.Test.YtfjdojodbhmmaaaBaseN
import Derived.Test.YtfjdojodbhmmaaaOneFormW
namespace Go.Proofs.Ytfjdojodbhmmaaa
open Go.RowKit
set_option linter.unusedVariables false

/-- A kind and two values, as they lie in memory. -/
def TwAt (w : World) (b o : Nat) (t : Int × Pt × Pt) : Prop := w.cell? ⟨b, o, none⟩ = some (.int .i64 t.1) ∧ PtAt w ⟨b, o + 1, none⟩ t.2.1 ∧ PtAt w ⟨b, o + 4, none⟩ t.2.2

/-- The values' cells. -/
def rowCells : List Pt → List Value
  | [] => []
  | x :: r => .int .i64 x.k :: .int .u64 x.n :: x.vb :: rowCells r

theorem rowCells_app (l r : List Pt) : rowCells (l ++ r) = rowCells l ++ rowCells r := by
  induction l with
  | nil => rfl
  | cons x t ih => simp [rowCells, ih]
theorem rowCells_len (l : List Pt) : (rowCells l).length = l.length * 3 := by
  induction l with
  | nil => rfl
  | cons x t ih => simp [rowCells, ih]; omega
theorem rowCells_at (l : List Pt) (j : Nat) (x : Pt) (h : l[j]? = some x) : (rowCells l)[j * 3]? = some (.int .i64 x.k) ∧ (rowCells l)[j * 3 + 1]? = some (.int .u64 x.n) ∧ (rowCells l)[j * 3 + 2]? = some x.vb := by
  induction l generalizing j with
  | nil => simp at h
  | cons y t ih =>
    cases j with
    | zero => simp at h; subst h; simp [rowCells]
    | succ j =>
      have := ih j (by simpa using h)
      rw [show (j + 1) * 3 = j * 3 + 1 + 1 + 1 by omega]
      simp only [rowCells]
      refine ⟨by simpa using this.1, ?_, ?_⟩
      · rw [show j * 3 + 1 + 1 + 1 + 1 = (j * 3 + 1) + 1 + 1 + 1 by omega]; simpa using this.2.1
      · rw [show j * 3 + 1 + 1 + 1 + 2 = (j * 3 + 2) + 1 + 1 + 1 by omega]; simpa using this.2.2

/-- An owned row of values is a list of them. -/
theorem own_ps {w : World} {v : Value} {l : List Pt} (h : OwnN w 27 3 v l.length (rowCells l)) (hb : ∀ x ∈ l, x.n < 18446744073709551616 ∧ Bs w x.vb x.B) : Ps w v l := by
  obtain ⟨a, cap, rfl, hnone, hm, hc, hcm⟩ := h.form
  cases a with
  | none =>
    obtain ⟨h0, rfl⟩ := hnone rfl
    have : l = [] := List.eq_nil_of_length_eq_zero h0
    subst this
    exact Or.inl ⟨rfl, rfl⟩
  | some a =>
    refine Or.inr ⟨a, cap, rfl, hc, hcm, fun j x hx => ?_⟩
    obtain ⟨g, hg⟩ : ∃ g, a = ⟨g, 0, none⟩ := by
      rcases h.2 with ⟨q, _⟩ | ⟨g, cap', cur, q, _⟩
      · cases q
      · simp only [Value.slice.injEq, Option.some.injEq] at q
        exact ⟨g, q.1⟩
    subst hg
    have hcell := fun i u hu => World.ownsRow.cells h (g := g) rfl i u hu
    obtain ⟨r0, r1, r2⟩ := rowCells_at l j x hx
    have hm := hb x (List.mem_of_getElem? hx)
    refine ⟨hcell _ _ r0, ?_, ?_, hm.1, hm.2⟩
    · rw [Addr.add_lit, Addr.add_lit]
      have := hcell _ _ r1
      rw [Addr.add_lit] at this
      simpa [Nat.add_assoc] using this
    · rw [Addr.add_lit, Addr.add_lit]
      have := hcell _ _ r2
      rw [Addr.add_lit] at this
      simpa [Nat.add_assoc] using this

theorem Try.info27 : (Try.prog.info? 27).map (fun i => (i.zero, i.size, i.bytes)) = some (some (.agg #[.int .i64 0, .int .u64 0, .slice none 0 0]), 3, 40) := by kernel_rfl

theorem src_put {tx e' e : TypeId} (hk : Try.prog.underlying tx = some (.slice e')) (w : World) (x : Pt) (h1 : x.vb.oneCell' = true) : Src Try.prog 3 tx (.slice (some ⟨w.heap.size, 0, none⟩) 1 1) 1 (rowCells [x]) (w.alloc (.cells #[.int .i64 x.k, .int .u64 x.n, x.vb] e)) := by
  refine Src.ofSlice _ hk _ _ _ _ (by simp [rowCells]) (fun j u hu => ?_) (fun u hu => ?_)
  · rw [Addr.add_lit]
    rw [cell_of_row _ w.heap.size (0 + j) _ e (0, 0) (heap_alloc_new w _)]
    simp only [Nat.zero_add]
    match j, hu with
    | 0, hu => simpa [rowCells] using hu
    | 1, hu => simpa [rowCells] using hu
    | 2, hu => simpa [rowCells] using hu
  · simp [rowCells] at hu
    rcases hu with rfl | rfl | rfl
    · rfl
    · rfl
    · exact h1

theorem valV_form (x : Pt) (a : Option Addr) (n c : Nat) (h : x.vb = .slice a n c) : ∃ a' n' c', valV x = .slice a' n' c' := by
  unfold valV
  split
  · exact ⟨a, n, c, h⟩
  · exact ⟨none, 0, 0, rfl⟩

theorem val_bs {w : World} {x : Pt} (h : Bs w x.vb x.B) : Bs w (valV x) (val x.k x.n x.B).2 := by
  unfold valV val
  by_cases hk : x.k % 9 = 5 ∨ x.k % 9 = 6 ∨ x.k % 9 = 7
  · rw [if_pos hk, if_neg (by omega), if_neg (by omega), if_neg (by omega), if_pos hk]
    exact h
  · rw [if_neg hk]
    have : (if x.k % 9 = 0 then (x.n % 256, ([] : List UInt8)) else if x.k % 9 = 1 then (x.n % 2, []) else if x.k % 9 = 2 then (x.n % 4294967296, []) else if x.k % 9 = 5 ∨ x.k % 9 = 6 ∨ x.k % 9 = 7 then (0, x.B) else (x.n, [])).2 = [] := by
      split
      · rfl
      · split
        · rfl
        · split
          · rfl
          · rfl
    rw [this]
    exact nil_bs w

theorem alike_snoc (l : List (Pt × Pt)) (x y : Pt) : alike (l ++ [(x, y)]) = (alike l && ((val x.k x.n x.B).1 == (val y.k y.n y.B).1 && (val x.k x.n x.B).2 == (val y.k y.n y.B).2)) := by
  simp [alike]

theorem row_cell' {w : World} {g : Nat} {cs : Array Value} {e : TypeId} (h : w.heap[g]? = some (.cells cs e (0, 0))) (j : Nat) (u : Value) (hu : cs[j]? = some u) : w.cell? ⟨g, j, none⟩ = some u := by
  rw [cell_of_row w g j cs e (0, 0) h]; exact hu


/-- Two owned rows, each grown once: they stay apart. -/
theorem two_grew {w wr wp w11 w12 : World} {va vb v1 v2 : Value} {n n' m m' : Nat} {xa xb ya yb : List Value} {o : Obj} (T : Turn no w wr) (TW : Turn no wr wp) (Oa : OwnN wr 27 3 va n xa) (Ob : OwnN wr 27 3 vb n' xb)
    (fa : ∀ g, va.ownBlock = some g → w.heap.size ≤ g ∧ vb.ownBlock ≠ some g) (fb : ∀ g, vb.ownBlock = some g → w.heap.size ≤ g)
    (O1 : OwnN w11 27 3 v1 m ya) (G1 : Grew wp w11 va v1) (O2 : OwnN w12 27 3 v2 m' yb) (G2 : Grew (w11.alloc o) w12 vb v2) :
    OwnN w12 27 3 v1 m ya ∧ (∀ g, v1.ownBlock = some g → w.heap.size ≤ g ∧ v2.ownBlock ≠ some g) ∧ (∀ g, v2.ownBlock = some g → w.heap.size ≤ g) ∧ Turn no w w12 := by
  have T0 := T.then_no TW
  have T1 := T0.fresh G1 (fun g q => (fa g q).1)
  have T2 := (T1.alloc o).fresh G2 fb
  have hs1 : w11.heap.size ≤ (w11.alloc o).heap.size := by simp
  have hvb : ∀ g, vb.ownBlock = some g → g < wp.heap.size := fun g q => Nat.lt_of_lt_of_le (Ob.lt q) TW.size
  have hne : ∀ g, v1.ownBlock = some g → vb.ownBlock ≠ some g := by
    intro g q q2
    rcases G1.blk with e | ⟨g', e, h1, h2⟩
    · exact (fa g (e ▸ q)).2 q2
    · rw [e] at q; cases q
      have := hvb _ q2
      omega
  have hv1 : ∀ g, v1.ownBlock = some g → w.heap.size ≤ g := G1.fresh (fun g q => (fa g q).1) T0.size
  refine ⟨(O1.turn_no ((Turn.refl no w11).alloc o)).turn G2.turn (fun g q1 q2 => hne g q1 q2), fun g q => ⟨hv1 g q, fun q2 => ?_⟩, G2.fresh fb (Nat.le_trans T1.size hs1), T2⟩
  rcases G2.blk with e | ⟨g', e, h1, h2⟩
  · exact hne g q (e ▸ q2)
  · rw [e] at q2; cases q2
    have := O1.lt q
    omega

theorem src_put' {tx e' e : TypeId} (hk : Try.prog.underlying tx = some (.slice e')) (w : World) (g : Nat) (x : Pt) (h1 : x.vb.oneCell' = true) (hg : w.heap[g]? = some (.cells #[.int .i64 x.k, .int .u64 x.n, x.vb] e (0, 0))) : Src Try.prog 3 tx (.slice (some ⟨g, 0, none⟩) 1 1) 1 (rowCells [x]) w := by
  refine Src.ofSlice _ hk _ _ _ _ (by simp [rowCells]) (fun j u hu => ?_) (fun u hu => ?_)
  · rw [Addr.add_lit]
    rw [cell_of_row _ g (0 + j) _ e (0, 0) hg]
    simp only [Nat.zero_add]
    match j, hu with
    | 0, hu => simpa [rowCells] using hu
    | 1, hu => simpa [rowCells] using hu
    | 2, hu => simpa [rowCells] using hu
  · simp [rowCells] at hu
    rcases hu with rfl | rfl | rfl
    · rfl
    · rfl
    · exact h1

theorem bs_cut {w : World} {a : Option Addr} {n c : Nat} {bs : List UInt8} (h : Bs w (.slice a n c) bs) (m : Nat) (hm : m ≤ bs.length) : Bs w (.slice a m c) (bs.take m) := by
  rcases h with ⟨h, rfl⟩ | ⟨a', c', h, h1, h2, h3⟩
  · cases h
    simp at hm
    subst hm
    exact Or.inl ⟨rfl, rfl⟩
  · cases h
    refine Or.inr ⟨a', c, by simp; omega, by simp; omega, h2, fun j u hu => h3 j u ?_⟩
    rw [List.getElem?_take] at hu
    split at hu
    · exact hu
    · cases hu

theorem bs_cap {w : World} {a : Option Addr} {n c : Nat} {bs : List UInt8} (h : Bs w (.slice a n c) bs) : bs.length ≤ c := by
  rcases h with ⟨h, rfl⟩ | ⟨a', c', h, h1, h2, h3⟩
  · exact Nat.zero_le _
  · cases h; exact h1
end Go.Proofs.Ytfjdojodbhmmaaa
