/- plain and New of the document. -/
import Derived.Test.YtgjhhmdpepdepaaDoorC8
import Derived.Deep.RegionHeld3
namespace Go.Proofs.YtgjhhmdpepdepaaDoor
open Go.RowKit
set_option linter.unusedVariables false

theorem wp_append_run {P : Program} {o : Oper} {a : Act} {w : World} {K : Act → World → Prop} {Q : Exit → Act → World → Prop} (s x : Operand) {t tx : TypeId}
    (ho : o.op = .call { callee := .builtin .append, args := #[s, x], argTypes := #[t, tx] }) (v xv : Value) (hs : a.eval s = v) (hx : a.eval x = xv) {v' : Value} {w' : World}
    (hr : (Builtin.append_ #[t, tx] o.type #[v, xv]).run P w = .ok v' w') (h : K (a.put o.dst v') w') : Oper.wp P o a w K Q := by
  unfold Oper.wp execOp
  simp only [ho, resolve, invoke, builtin, Sem.run_bind, Sem.run_pure, Result.andThen_ok, List.map_toArray, List.map_cons, List.map_nil, hs, hx, hr]
  exact h

theorem src_mb (w W : World) (m : Mb) (T : Turn no (w.alloc (.cells #[.int .u64 m.ad, .int .u64 m.pw, .int .i64 m.pr] 37)) W) : Src Tryd.prog 3 22 (.slice (some ⟨w.heap.size, 0, none⟩) 1 1) 1 (flat [m]) W := by
  refine Src.ofSlice _ Tryd.underlying22 _ _ _ _ (flat_len [m]) (fun j u hu => ?_) (flat_one [m])
  refine T.keep ?_ (fun q => q)
  rw [Addr.add_lit, cell_of_row _ w.heap.size (0 + j) _ 37 (0, 0) (heap_alloc_new w _)]
  rw [Nat.zero_add]
  simpa [flat, mbC] using hu
theorem zeroed_take_succ (l : List Mb) (k : Nat) (m : Mb) (h : l[k]? = some m) : zeroed (l.take (k + 1)) = zeroed (l.take k) ++ [{ m with pr := 0 }] := by
  rw [List.take_add_one, h]
  simp [zeroed]

theorem OwnN.ms {w : World} {v : Value} {l : List Mb} {n : Nat} (h : OwnN w 37 3 v n (flat l)) (hn : n = l.length) (hok : ∀ m ∈ l, m.ok) : Ms w v l := by
  by_cases h0 : 0 < n
  · obtain ⟨g, cap, e, R⟩ := h.rw hn h0 hok
    exact ⟨_, cap, by rw [e, hn], R.at⟩
  · have hl : l = [] := List.eq_nil_of_length_eq_zero (by omega)
    obtain ⟨a, cap, e, _, h1, h2, h3⟩ := h.form
    subst hl
    exact ⟨a, cap, by rw [e, hn], by simp, h3, hok, fun j m hm => by simp at hm⟩
theorem zeroed_ok {l : List Mb} (h : ∀ m ∈ l, m.ok) : ∀ m ∈ zeroed l, m.ok := fun m hm => by
  obtain ⟨x, hx, rfl⟩ := List.mem_map.1 hm
  have := h x hx
  exact ⟨this.1, this.2.1, by simp, by simp⟩
theorem Ms.ok {w : World} {v : Value} {l : List Mb} (h : Ms w v l) : ∀ m ∈ l, m.ok := by
  obtain ⟨_, _, _, h⟩ := h
  exact h.ok
/-- What is known of a block of one cell that the call has made. -/
structure Bx (w : World) (g : Nat) (u : Value) : Prop where
  c : w.cell? ⟨g, 0, none⟩ = some u
  f : w.frozen? ⟨g, 0, none⟩ = false
theorem Bx.new (w : World) (v : Value) (t : TypeId) : Bx (w.alloc (.cells #[v] t)) w.heap.size v := ⟨cell_new1 w v t, frozen_of_row _ _ _ _ _ (heap_alloc_new w _)⟩
theorem Bx.lt {w : World} {g : Nat} {u : Value} (h : Bx w g u) : g < w.heap.size := World.block_lt_of_cell? w _ h.c
theorem Bx.turn {S : Nat → Prop} {w w' : World} {g : Nat} {u : Value} (h : Bx w g u) (t : Turn S w w') (hn : ¬ S g) : Bx w' g u := ⟨t.keep h.c hn, (t.frozen h.lt hn).trans h.f⟩
theorem Bx.turn_no {w w' : World} {g : Nat} {u : Value} (h : Bx w g u) (t : Turn no w w') : Bx w' g u := h.turn t (fun q => q)
theorem Bx.set {w : World} {g : Nat} {u : Value} (h : Bx w g u) (x : Value) : (w.setCell ⟨g, 0, none⟩ x).cell? ⟨g, 0, none⟩ = some x := World.cell?_setCell_same w _ x h.c
theorem Turn.set0 {S : Nat → Prop} {a w : World} (h : Turn S a w) {g : Nat} (hg : a.heap.size ≤ g) (u : Value) : Turn S a (w.setCell ⟨g, 0, none⟩ u) := h.setCell (p := ⟨g, 0, none⟩) (fun q => absurd q (Nat.not_lt.2 hg)) u
theorem Made.turn {S : Nat → Prop} {old : Nat} {w w' : World} {v : Value} {l : List Mb} (h : Made old w v l) (t : Turn S w w') (hn : ∀ g, v.ownBlock = some g → ¬ S g) : Made old w' v l := by
  obtain ⟨g, cap, e, R, ho⟩ := h
  exact ⟨g, cap, e, R.turn t (hn g (by rw [e]; rfl)), ho⟩

end Go.Proofs.YtgjhhmdpepdepaaDoor

