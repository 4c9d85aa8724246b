/- DigestPieces: one more Hasher. -/
import Derived.Test.YtnibmkenbidnfaaDoorG1
namespace Go.Proofs.YtnibmkenbidnfaaDoor
open Go.RowKit
set_option linter.unusedVariables false

theorem info23 : (Tryd.prog.info? 23).map (fun i => (i.zero, i.size, i.bytes)) = some (some (.pointer none), 1, 8) := by kernel_rfl
theorem info22 : (Tryd.prog.info? 22).map (fun i => (i.zero, i.size, i.bytes)) = some (some (.slice none 0 0), 1, 24) := by kernel_rfl
theorem src_one {P : Program} {tx e' e : TypeId} (hk : P.underlying tx = some (.slice e')) (w : World) (u : Value) (hu : u.oneCell' = true) : Src P 1 tx (.slice (some ⟨w.heap.size, 0, none⟩) 1 1) 1 [u] (w.alloc (.cells #[u] e)) :=
  Src.ofSlice _ hk _ _ _ _ (by simp) (fun j x hx => by
    have := (Row.new w #[u] e).cell j x (by simpa using hx)
    simpa [Addr.add_lit] using this) (by intro x hx; simp at hx; subst hx; exact hu)

theorem Beside.grow {base : Nat} {wr w5 w5' w6 w6' w7 : World} {vh vt vh2 vt2 nt : Value} {pn : Nat} {tx : List UInt8} {ps : List Nat} {ts : List (Value × List UInt8)} (Be : Beside base wr vh vt ps ts) (hb : base ≤ wr.heap.size) (hpn : wr.heap.size ≤ pn)
    (t5 : Turn no wr w5) (Hn : Hs w5 pn tx) (t5' : Turn no w5 w5') (O6 : Own w6 23 vh2 (ps.map ptr ++ [ptr pn])) (G6 : Grew w5' w6 vh vh2) (t6' : Turn no w6 w6') (On : Own w6' 5 nt (tx.map bv)) (fn : ∀ g, nt.ownBlock = some g → base ≤ g)
    (O7 : Own w7 22 vt2 (ts.map (·.1) ++ [nt])) (G7 : Grew w6' w7 vt vt2) : Beside base w7 vh2 vt2 (ps ++ [pn]) (ts ++ [(nt, tx)]) ∧ Turn (fun k => vh.ownBlock = some k ∨ vt.ownBlock = some k) wr w7 := by
  have s5 := t5.size
  have s5' := t5'.size
  have a5 : Turn no wr w5' := t5.then_no t5'
  have a6 : Turn (fun k => vh.ownBlock = some k) wr w6 := a5.of_no.trans G6.turn (fun _ _ q => q)
  have a6' := a6.then_no t6'
  have hot : Own w6' 22 vt (ts.map (·.1)) := Be.ot.turn a6' (fun g hg e => Be.oh.apart Be.ot (by decide) g e hg)
  have a7 : Turn (fun k => vh.ownBlock = some k ∨ vt.ownBlock = some k) wr w7 := (a6'.mono (fun _ _ q => Or.inl q)).trans G7.turn (fun _ _ q => Or.inr q)
  have vhl : ∀ g, vh.ownBlock = some g → g < wr.heap.size := fun g hg => Be.oh.lt hg
  have vtl : ∀ g, vt.ownBlock = some g → g < wr.heap.size := fun g hg => Be.ot.lt hg
  have hs6 : Hs w6' pn tx := ((Hn.turn t5' (fun q => q)).turn G6.turn (fun e => by have := vhl _ e; omega)).turn t6' (fun q => q)
  have hs7 : Hs w7 pn tx := hs6.turn G7.turn (fun e => by have := vtl _ e; omega)
  have o6 : Own w6' 23 vh2 (ps.map ptr ++ [ptr pn]) := O6.turn_no t6'
  refine ⟨Be.push a7 hpn hb (o6.turn G7.turn (fun g hg e => o6.apart hot (by decide) g hg e)) O7 hs7 (On.turn G7.turn (fun g hg e => On.apart hot (by decide) g hg e)) ?_ ?_ fn, a7⟩
  · exact G6.fresh Be.fh (by omega)
  · exact G7.fresh Be.ft (by have := a6'.size; omega)
theorem wp_append_run {P : Program} {o : Oper} {a : Act} {w : World} {K : Act → World → Prop} {Q : Exit → Act → World → Prop} (s x : Operand) {t tx : TypeId}
    (ho : o.op = .call { callee := .builtin .append, args := #[s, x], argTypes := #[t, tx] }) (v xv : Value) (hs : a.eval s = v) (hx : a.eval x = xv) {v' : Value} {w' : World}
    (hr : (Builtin.append_ #[t, tx] o.type #[v, xv]).run P w = .ok v' w') (h : K (a.put o.dst v') w') : Oper.wp P o a w K Q := by
  unfold Oper.wp execOp
  simp only [ho, resolve, invoke, builtin, Sem.run_bind, Sem.run_pure, Result.andThen_ok, List.map_toArray, List.map_cons, List.map_nil, hs, hx, hr]
  exact h
theorem Bs.late {S : Nat → Prop} {w w' : World} {v : Value} {bs : List UInt8} (h : Bs w v bs) (t : Turn S w w') (hn : bs ≠ [] → ∀ g, v.ownBlock = some g → ¬ S g) : Bs w' v bs := by
  by_cases hB : bs = []
  · subst hB
    rcases h with ⟨e, _⟩ | ⟨A, C, e, h1, h2, h3⟩
    · exact Or.inl ⟨e, rfl⟩
    · exact Or.inr ⟨A, C, e, h1, h2, fun j u hu => by simp at hu⟩
  · exact h.turn t (hn hB)
theorem Own.setAt {w : World} {e : TypeId} {g n cap : Nat} {xs : List Value} (h : Own w e (.slice (some ⟨g, 0, none⟩) n cap) xs) (k : Nat) (u : Value) : Own (w.setCell ⟨g, k, none⟩ u) e (.slice (some ⟨g, 0, none⟩) n cap) (xs.set k u) := by
  rcases h.shape with ⟨e1, _⟩ | ⟨g', cap', cur, e1, hg, h1, h2, h3, h4⟩
  · cases e1
  · cases e1
    have := Own.of (w := w.setCell ⟨g, k, none⟩ u) (e := e) (xs := xs.set k u) (g := g) (cap := cap) (cur := cur.setIfInBounds k u) (heap_setCell_same w g k cur e u hg) (by simpa using h1) h2 (by simpa using h3) (by
      rw [Array.toList_setIfInBounds, List.length_set, List.take_set, h4])
    simpa using this
end Go.Proofs.YtnibmkenbidnfaaDoor
