/- What CouncilFresh holds while it gathers its lists. -/
import Derived.Test.YtcmoocoklhjkfabF1
import Derived.Test.YtcmoocoklhjkfabTwice
namespace Go.Proofs.Ytcmoocoklhjkfab
open Go.RowKit
set_option linter.unusedVariables false

/-- A list in memory of its own, or none. -/
structure Nw (a b : Nat) (w : World) (v : Value) (l : List Mb) : Prop where
  own : OwnN w 55 3 v l.length (flat l)
  ok : ∀ m ∈ l, m.ok
  lo : ∀ g, v.ownBlock = some g → a ≤ g ∧ g < b
theorem Made.nw {old : Nat} {w : World} {v : Value} {l : List Mb} (h : Made old w v l) : Nw old w.heap.size w v l := by
  obtain ⟨g, cap, rfl, R, ho⟩ := h
  exact ⟨R.own, R.ok, fun g' q => by cases q; exact ⟨ho, R.lt⟩⟩
theorem Nw.turn_no {a b : Nat} {w w' : World} {v : Value} {l : List Mb} (h : Nw a b w v l) (t : Turn no w w') : Nw a b w' v l := ⟨h.own.turn_no t, h.ok, h.lo⟩
theorem Nw.ms {a b : Nat} {w : World} {v : Value} {l : List Mb} (h : Nw a b w v l) : Ms w v l := h.own.ms rfl h.ok
theorem Nw.nil (a b : Nat) (w : World) : Nw a b w (.slice none 0 0) [] := ⟨OwnN.nil _ _ _, fun m hm => (by cases hm), fun g q => (by cases q)⟩
theorem renew11_nw (w : World) (vc v : Value) (c l : List Mb) (hc : Ms w vc c) (h : Ms w v l) : Calls Try.prog 11 #[.agg #[vc], v] w fun e w' => ∃ u, e = .returned (.tuple #[.agg #[u], .int .i64 (renewE c l)]) ∧ Nw w.heap.size w'.heap.size w' u (renewR c l) ∧ Turn no w w' := by
  by_cases hE : soundE c = 0
  · have e1 : renewE c l = weighE l := by rw [renewE, if_neg (by omega)]
    by_cases hL : weighE l = 0
    · refine (renew11_yes w vc v c l hc h hE hL).mono ?_
      rintro _ w' ⟨u, rfl, M, T⟩
      have e2 : renewR c l = renewL c l := by rw [renewR, if_pos (by omega)]
      rw [e2]
      exact ⟨u, by rw [e1, hL], M.nw, T⟩
    · refine (renew11_list w vc v c l hc h hE hL).mono ?_
      rintro _ w' ⟨rfl, T⟩
      exact ⟨_, by rw [e1], by rw [renewR, if_neg (by omega)]; exact Nw.nil _ _ _, T⟩
  · have e1 : renewE c l = soundE c := by rw [renewE, if_pos hE]
    refine (renew11_bad w vc v c l hc h hE).mono ?_
    rintro _ w' ⟨rfl, T⟩
    exact ⟨_, by rw [e1], by rw [renewR, if_neg (by omega)]; exact Nw.nil _ _ _, T⟩
theorem rrenew21_nw (w : World) (vc v : Value) (c l : List Mb) (hc : Ms w vc c) (h : Ms w v l) (hb : l.length * 24 ≤ 140737488351232) : Calls Try.prog 21 #[.agg #[vc], v] w fun e w' => ∃ u, e = .returned (.tuple #[.agg #[u], .int .i64 (renewE c l)]) ∧ Nw w.heap.size w'.heap.size w' u (renewR c l) ∧ Turn no w w' := by
  by_cases hE : soundE c = 0
  · have e1 : renewE c l = weighE l := by rw [renewE, if_neg (by omega)]
    by_cases hL : weighE l = 0
    · refine (rrenew21_yes w vc v c l hc h hE hL).mono ?_
      rintro _ w' ⟨u, rfl, M, T⟩
      have e2 : renewR c l = renewL c l := by rw [renewR, if_pos (by omega)]
      rw [e2]
      exact ⟨u, by rw [e1, hL], M.nw, T⟩
    · refine (rrenew21_list w vc v c l hc h hb hE hL).mono ?_
      rintro _ w' ⟨rfl, T⟩
      exact ⟨_, by rw [e1], by rw [renewR, if_neg (by omega)]; exact Nw.nil _ _ _, T⟩
  · have e1 : renewE c l = soundE c := by rw [renewE, if_pos hE]
    refine (rrenew21_bad w vc v c l hc h hE).mono ?_
    rintro _ w' ⟨rfl, T⟩
    exact ⟨_, by rw [e1], by rw [renewR, if_neg (by omega)]; exact Nw.nil _ _ _, T⟩

theorem Lot.push {w : World} {vs : List Value} {L : Nat → List Mb} (h : Lot w vs L) {a b : Nat} {u : Value} (k : Nat) (hk : vs.length = k) (hu : Nw a b w u (L k)) (hn : ∀ g, u.ownBlock = some g → ¬ Lb vs g) : Lot w (vs ++ [u]) L := by
  subst hk
  have two : ∀ (i : Nat) (v : Value), (vs ++ [u])[i]? = some v → vs[i]? = some v ∨ (i = vs.length ∧ v = u) := fun i v hv => by
    by_cases q : i < vs.length
    · rw [List.getElem?_append_left q] at hv; exact Or.inl hv
    · rw [List.getElem?_append_right (by omega)] at hv
      have hi : i = vs.length := by
        have := (List.getElem?_eq_some_iff.1 hv).1
        simp at this; omega
      subst hi
      simp at hv
      exact Or.inr ⟨rfl, hv.symm⟩
  refine ⟨fun i v hv => ?_, fun i v hv => ?_, fun i j v x g hv hx gv gx => ?_⟩
  · rcases two i v hv with q | ⟨rfl, rfl⟩
    · exact h.own i v q
    · exact hu.own
  · rcases two i v hv with q | ⟨rfl, rfl⟩
    · exact h.ok i v q
    · exact hu.ok
  · rcases two i v hv with q | ⟨rfl, rfl⟩ <;> rcases two j x hx with r | ⟨rfl, rfl⟩
    · exact h.apart i j v x g q r gv gx
    · exact absurd ⟨i, v, q, gv⟩ (hn g gx)
    · exact absurd ⟨j, x, r, gx⟩ (hn g gv)
    · rfl
theorem lb_push {vs : List Value} {u : Value} {g : Nat} (h : Lb (vs ++ [u]) g) : Lb vs g ∨ u.ownBlock = some g := by
  obtain ⟨i, v, hv, q⟩ := h
  by_cases r : i < vs.length
  · rw [List.getElem?_append_left r] at hv; exact Or.inl ⟨i, v, hv, q⟩
  · rw [List.getElem?_append_right (by omega)] at hv
    have := List.mem_of_getElem? hv
    simp at this
    subst this
    exact Or.inr q

/-- What is held: the committee c in its box, the lists that were handed in, the lists made so far (vs), what they should be (ws). -/
structure Fr (B : Nat) (w : World) (bx : Nat) (cu vl vn : Value) (z l nx : List Mb) (vs ws : List Value) (L : Nat → List Mb) : Prop where
  box : Bx w bx cu
  bxl : bx < B
  cm : Ms w cu z
  cl : ∀ g, cu.ownBlock = some g → g < B
  ct : ∀ g, cu.ownBlock = some g → ∃ cur, w.heap[g]? = some (.cells cur 55 (0, 0))
  ml : Ms w vl l
  ll : l ≠ [] → ∀ g, vl.ownBlock = some g → g < B
  mn : Ms w vn nx
  nl : nx ≠ [] → ∀ g, vn.ownBlock = some g → g < B
  lot : Lot w vs L
  lo : ∀ g, Lb vs g → B ≤ g
  wm : ∀ (k : Nat) (v : Value), ws[k]? = some v → Ms w v (L k)
  wx : ∀ (k : Nat) (v : Value) (g : Nat), ws[k]? = some v → v.ownBlock = some g → ¬ Lb vs g ∧ g < w.heap.size
  wt : ∀ (k : Nat) (v : Value) (g : Nat), ws[k]? = some v → v.ownBlock = some g → ∃ cur, w.heap[g]? = some (.cells cur 55 (0, 0))
theorem Fr.turn_no {B : Nat} {w w' : World} {bx : Nat} {cu vl vn : Value} {z l nx : List Mb} {vs ws : List Value} {L : Nat → List Mb} (h : Fr B w bx cu vl vn z l nx vs ws L) (t : Turn no w w') : Fr B w' bx cu vl vn z l nx vs ws L :=
  ⟨h.box.turn_no t, h.bxl, h.cm.turn_no t, h.cl, fun g q => (h.ct g q).imp fun cur ho => t.obj ho (fun q => q), h.ml.turn_no t, h.ll, h.mn.turn_no t, h.nl, h.lot.turn_no t, h.lo, fun k v hv => (h.wm k v hv).turn_no t, fun k v g hv q => ⟨(h.wx k v g hv q).1, Nat.lt_of_lt_of_le (h.wx k v g hv q).2 t.size⟩, fun k v g hv q => (h.wt k v g hv q).imp fun cur ho => t.obj ho (fun q => q)⟩

/-- One more list made. -/
theorem Fr.got {B : Nat} {w : World} {bx : Nat} {cu vl vn : Value} {z l nx : List Mb} {vs ws : List Value} {L : Nat → List Mb} (h : Fr B w bx cu vl vn z l nx vs ws L) {a b : Nat} {u : Value} (k : Nat) (hk : vs.length = k) (hu : Nw a b w u (L k)) (hB : B ≤ a)
    (hv : ∀ g, Lb vs g → g < a) (hw : ∀ (k : Nat) (v : Value) (g : Nat), ws[k]? = some v → v.ownBlock = some g → g < a) : Fr B w bx cu vl vn z l nx (vs ++ [u]) ws L :=
  ⟨h.box, h.bxl, h.cm, h.cl, h.ct, h.ml, h.ll, h.mn, h.nl, h.lot.push k hk hu (fun g q r => by have := (hu.lo g q).1; have := hv g r; omega), fun g q => (lb_push q).elim (h.lo g) (fun r => by have := (hu.lo g r).1; omega), h.wm,
   fun k v g hv q => ⟨fun r => (lb_push r).elim (h.wx k v g hv q).1 (fun r => by have := (hu.lo g r).1; have := hw k v g hv q; omega), (h.wx k v g hv q).2⟩, h.wt⟩
/-- One more that should be. -/
theorem Fr.want {B : Nat} {w : World} {bx : Nat} {cu vl vn : Value} {z l nx : List Mb} {vs ws : List Value} {L : Nat → List Mb} (h : Fr B w bx cu vl vn z l nx vs ws L) {u : Value} (k : Nat) (hk : ws.length = k) (hu : Ms w u (L k)) (hx : ∀ g, u.ownBlock = some g → ¬ Lb vs g ∧ g < w.heap.size) (ht : ∀ g, u.ownBlock = some g → ∃ cur, w.heap[g]? = some (.cells cur 55 (0, 0))) : Fr B w bx cu vl vn z l nx vs (ws ++ [u]) L := by
  subst hk
  have two : ∀ (i : Nat) (v : Value), (ws ++ [u])[i]? = some v → ws[i]? = some v ∨ (i = ws.length ∧ v = u) := fun i v hv => by
    by_cases q : i < ws.length
    · rw [List.getElem?_append_left q] at hv; exact Or.inl hv
    · rw [List.getElem?_append_right (by omega)] at hv
      have hi : i = ws.length := by
        have := (List.getElem?_eq_some_iff.1 hv).1
        simp at this; omega
      subst hi
      simp at hv
      exact Or.inr ⟨rfl, hv.symm⟩
  exact ⟨h.box, h.bxl, h.cm, h.cl, h.ct, h.ml, h.ll, h.mn, h.nl, h.lot, h.lo, fun k v hv => (two k v hv).elim (h.wm k v) (fun ⟨e, e2⟩ => by rw [e, e2]; exact hu),
    fun k v g hv q => (two k v hv).elim (fun r => h.wx k v g r q) (fun ⟨e, e2⟩ => hx g (by rw [← e2]; exact q)),
    fun k v g hv q => (two k v hv).elim (fun r => h.wt k v g r q) (fun ⟨e, e2⟩ => ht g (by rw [← e2]; exact q))⟩
theorem Ms.later {S : Nat → Prop} {w w' : World} {v : Value} {l : List Mb} (h : Ms w v l) (t : Turn S w w') (hn : l ≠ [] → ∀ g, v.ownBlock = some g → ¬ S g) : Ms w' v l := h.late t hn
theorem Nw.tag {a b : Nat} {w : World} {v : Value} {l : List Mb} (h : Nw a b w v l) : ∀ g, v.ownBlock = some g → ∃ cur, w.heap[g]? = some (.cells cur 55 (0, 0)) := fun g q => by
  rcases h.own.2 with ⟨e, _⟩ | ⟨g', cap, cur, e, _, ho, _⟩
  · rw [e] at q; cases q
  · rw [e] at q; cases q; exact ⟨cur, ho⟩
theorem own_not {w : World} {u : Value} {xs : List Value} (O : Own w 22 u xs) {g : Nat} (ht : ∃ cur, w.heap[g]? = some (.cells cur 55 (0, 0))) : u.ownBlock ≠ some g := fun q => by
  obtain ⟨cur, ho⟩ := ht
  rcases O.shape with ⟨e, _⟩ | ⟨g', cap', cur', e, ho2, _⟩
  · rw [e] at q; cases q
  · rw [e] at q; cases q; rw [ho] at ho2; cases ho2
/-- A row of lists turns. -/
theorem Fr.row {B : Nat} {w w' : World} {bx : Nat} {cu vl vn : Value} {z l nx : List Mb} {vs ws : List Value} {L : Nat → List Mb} (h : Fr B w bx cu vl vn z l nx vs ws L) {u : Value} {xs : List Value} (O : Own w 22 u xs) (hf : ∀ g, u.ownBlock = some g → B ≤ g)
    (t : Turn (fun g => u.ownBlock = some g) w w') : Fr B w' bx cu vl vn z l nx vs ws L :=
  ⟨h.box.turn t (fun q => by have := hf _ q; have := h.bxl; omega), h.bxl, h.cm.turn t (fun g q r => by have := h.cl g q; have := hf g r; omega), h.cl, fun g q => (h.ct g q).imp fun cur ho => t.obj ho (own_not O (h.ct g q)),
   h.ml.late t (fun hne g q r => by have := h.ll hne g q; have := hf g r; omega), h.ll, h.mn.late t (fun hne g q r => by have := h.nl hne g q; have := hf g r; omega), h.nl,
   h.lot.turn t (fun g q r => h.lot.away O g r q), h.lo, fun k v hv => (h.wm k v hv).turn t (fun g q r => own_not O (h.wt k v g hv q) r),
   fun k v g hv q => ⟨(h.wx k v g hv q).1, Nat.lt_of_lt_of_le (h.wx k v g hv q).2 t.size⟩, fun k v g hv q => (h.wt k v g hv q).imp fun cur ho => t.obj ho (own_not O (h.wt k v g hv q))⟩
theorem Nw.row {a b : Nat} {w w' : World} {v : Value} {l : List Mb} (h : Nw a b w v l) {u : Value} {xs : List Value} (O : Own w 22 u xs) (t : Turn (fun g => u.ownBlock = some g) w w') : Nw a b w' v l :=
  ⟨h.own.turn t (fun g q r => own_not O (h.tag g q) r), h.ok, h.lo⟩
theorem src_four {P : Program} {tx e' e : TypeId} (hk : P.underlying tx = some (.slice e')) (w : World) (u : Array Value) (n : Nat) (hn : u.size = n) (hu : ∀ x ∈ u.toList, x.oneCell' = true) : Src P 1 tx (.slice (some ⟨w.heap.size, 0, none⟩) n n) n u.toList (w.alloc (.cells u e)) :=
  Src.ofSlice _ hk _ _ _ _ (by simp [hn]) (fun j x hx => by
    rw [Addr.add_lit, cell_of_row _ w.heap.size (0 + j) _ e (0, 0) (heap_alloc_new w _), Nat.zero_add]
    simpa using hx) hu
theorem lb_lt {w : World} {vs : List Value} {L : Nat → List Mb} (h : Lot w vs L) {g : Nat} (q : Lb vs g) : g < w.heap.size := by
  obtain ⟨k, v, hv, q⟩ := q
  exact (h.own k v hv).lt q
/-- What the lists should be. -/
def lf (z y r : List Mb) (k : Nat) : List Mb := if k % 4 = 1 then y else if k % 4 = 3 then r else z
theorem lf0 (z y r : List Mb) (i : Nat) : lf z y r (4 * i) = z := by unfold lf; rw [if_neg (by omega), if_neg (by omega)]
theorem lf1 (z y r : List Mb) (i : Nat) : lf z y r (4 * i + 1) = y := by unfold lf; rw [if_pos (by omega)]
theorem lf2 (z y r : List Mb) (i : Nat) : lf z y r (4 * i + 2) = z := by unfold lf; rw [if_neg (by omega), if_neg (by omega)]
theorem lf3 (z y r : List Mb) (i : Nat) : lf z y r (4 * i + 3) = r := by unfold lf; rw [if_neg (by omega), if_pos (by omega)]
end Go.Proofs.Ytcmoocoklhjkfab
