/- Texts in one. -/
import Derived.Test.YtgbcdjjnpadddaaGreatDoorTa
/- Signed of a registry; lists of messages. -/
namespace Go.Proofs.YtgbcdjjnpadddaaGreatDoor
open Go.RowKit Go.Maps Go.MuLone
set_option linter.unusedVariables false

theorem Own.shp {w : World} {e : TypeId} {v : Value} {xs : List Value} (h : Own w e v xs) : ∃ a n cap, v = .slice a n cap := by
  rcases h.shape with ⟨rfl, _⟩ | ⟨g, cap, cur, rfl, _⟩
  · exact ⟨_, _, _, rfl⟩
  · exact ⟨_, _, _, rfl⟩
theorem Own.away {w : World} {e e' : TypeId} {v : Value} {xs : List Value} {g : Nat} {c : Array Value} {f : Nat × Nat} (h : Own w e v xs) (ho : w.heap[g]? = some (.cells c e' f)) (hne : e ≠ e') : v.ownBlock ≠ some g := fun hg => by
  obtain ⟨c', ho'⟩ := h.obj hg
  exact hne (tag_ne ho' ho)

theorem info31 : (Tryz.prog.info? 124).map (fun i => (i.zero, i.size, i.bytes)) = some (some (.slice none 0 0), 1, 24) := by kernel_rfl
def ByteRow (w : World) (m : Value) : Prop := ∀ g, m.ownBlock = some g → ∃ c f, w.heap[g]? = some (.cells c 5 f)
/-- A list of messages, all of it made since the world had 'old' blocks. -/
structure Ml (old : Nat) (w : World) (v : Value) (ts : List (Value × List UInt8)) : Prop where
  own : Own w 124 v (ts.map (·.1))
  each : ∀ t ∈ ts, Bs w t.1 t.2 ∧ ByteRow w t.1
  fv : ∀ g, v.ownBlock = some g → old ≤ g
  fe : ∀ t ∈ ts, ∀ g, t.1.ownBlock = some g → old ≤ g
theorem Ml.nil (old : Nat) (w : World) : Ml old w (.slice none 0 0) [] := ⟨Own.nil _ _, fun t h => (by cases h), fun g h => (by cases h), fun t h => (by cases h)⟩
theorem ByteRow.turn {S : Nat → Prop} {w w' : World} {m : Value} (h : ByteRow w m) (t : Turn S w w') (hS : ∀ g, m.ownBlock = some g → ¬ S g) : ByteRow w' m := fun g hg => by
  obtain ⟨c, f, ho⟩ := h g hg
  exact ⟨c, f, t.obj ho (hS g hg)⟩
theorem Ml.turn {S : Nat → Prop} {old : Nat} {w w' : World} {v : Value} {ts : List (Value × List UInt8)} (h : Ml old w v ts) (t : Turn S w w') (hS : ∀ g, old ≤ g → ¬ S g) : Ml old w' v ts :=
  ⟨h.own.turn t (fun g hg => hS g (h.fv g hg)), fun x hx => ⟨(h.each x hx).1.turn t (fun g hg => hS g (h.fe x hx g hg)), (h.each x hx).2.turn t (fun g hg => hS g (h.fe x hx g hg))⟩, h.fv, h.fe⟩
theorem Ml.turn_no {old : Nat} {w w' : World} {v : Value} {ts : List (Value × List UInt8)} (h : Ml old w v ts) (t : Turn no w w') : Ml old w' v ts := h.turn t (fun _ _ q => q)
theorem Ml.push {old : Nat} {w w1 w2 w3 : World} {v v' m : Value} {s : List UInt8} {ts : List (Value × List UInt8)} (h : Ml old w v ts) (t1 : Turn no w w1) (b : Bs w1 m s) (br : ByteRow w1 m) (fm : ∀ g, m.ownBlock = some g → w.heap.size ≤ g) (t2 : Turn no w1 w2) (o : Own w3 124 v' (ts.map (·.1) ++ [m])) (gr : Grew w2 w3 v v') (ho : old ≤ w.heap.size) : Ml old w3 v' (ts ++ [(m, s)]) := by
  have hvl : ∀ g, v.ownBlock = some g → g < w.heap.size := fun g hg => h.own.lt hg
  have s1 := t1.size
  have s2 := t2.size
  have ov := (h.own.turn_no t1).turn_no t2
  refine ⟨by simpa using o, fun x hx => ?_, fun g hg => ?_, fun x hx g hg => ?_⟩
  · rcases List.mem_append.1 hx with hx | hx
    · have he := h.each x hx
      have b2 := (he.2.turn t1 (fun _ _ q => q)).turn t2 (fun _ _ q => q)
      have hne : ∀ g, x.1.ownBlock = some g → ¬ v.ownBlock = some g := fun g hg q => by
        obtain ⟨c, f, ho⟩ := b2 g hg
        exact ov.away ho (by decide) q
      exact ⟨((he.1.turn_no t1).turn_no t2).turn gr.turn hne, b2.turn gr.turn hne⟩
    · simp at hx
      subst hx
      have hne : ∀ g, m.ownBlock = some g → ¬ v.ownBlock = some g := fun g hg q => by have := hvl g q; have := fm g hg; omega
      exact ⟨(b.turn_no t2).turn gr.turn hne, (br.turn t2 (fun _ _ q => q)).turn gr.turn hne⟩
  · exact gr.fresh h.fv (by omega) g hg
  · rcases List.mem_append.1 hx with hx | hx
    · exact h.fe x hx g hg
    · simp at hx
      subst hx
      have := fm g hg
      omega
theorem conv_row (w : World) (s : List UInt8) (hs : s.length ≤ 1048576) : ∃ cap w', (convert 9 124 (.string ⟨s.toArray⟩)).run Tryz.prog w = .ok (.slice (some ⟨w.heap.size, 0, none⟩) s.length cap) w' ∧ Turn no w w' ∧ w.heap.size < w'.heap.size ∧ Bs w' (.slice (some ⟨w.heap.size, 0, none⟩) s.length cap) s ∧ ByteRow w' (.slice (some ⟨w.heap.size, 0, none⟩) s.length cap) := by
  obtain ⟨h, T, hz, k, l, m, _⟩ := conv_bs w s (by omega)
  exact ⟨_, _, h, T, by omega, .inr ⟨_, _, rfl, l, m, fun j u hu => by rw [Addr.add_lit]; simpa using k j u hu⟩, fun g hg => by
    cases hg
    exact ⟨_, _, Lib.bytesWorld_at_new w 5 ⟨s.toArray⟩⟩⟩
theorem wpList_conv_run {P : Program} {ops : Array Oper} {rest : List Oper} {o : Oper} {a : Act} {w : World} {Q : Exit → Act → World → Prop} (hgd : o.guard = none) (x : Operand) {t1 t2 : TypeId} (ho : o.op = .convert t1 t2 x) (v : Value) (hx : a.eval x = v) {v' : Value} {w' : World}
    (hr : (convert t1 t2 v).run P w = .ok v' w') (h : wpList P ops Q rest (a.put o.dst v') w') : wpList P ops Q (o :: rest) a w :=
  wpList_plain hgd fun K hK => by
    unfold Oper.wp execOp
    simp only [ho, Sem.run_bind, Result.andThen_ok, hx, hr, Sem.run_pure]
    exact hK _ _ h
theorem src_oneT {P : Program} {tx e' e : TypeId} (hk : P.underlying tx = some (.slice e')) (w : World) (u : Value) (hu : u.oneCell' = true) : Src P 1 tx (.slice (some ⟨w.heap.size, 0, none⟩) 1 1) 1 [u] (w.alloc (.cells #[u] e)) :=
  Src.ofSlice _ hk _ _ _ _ (by simp) (fun j x hx => by
    have := (Row.new w #[u] e).cell j x (by simpa using hx)
    simpa [Addr.add_lit] using this) (by intro x hx; simp at hx; subst hx; exact hu)

section
variable {w : World} {p br bt : Nat} {V : UInt64 → Value} {E : List UInt64} {R : List Rec}
end
end Go.Proofs.YtgbcdjjnpadddaaGreatDoor



/- same: two lists of messages. -/
namespace Go.Proofs.YtgbcdjjnpadddaaGreatDoor
open Go.RowKit Go.Maps Go.MuLone
set_option linter.unusedVariables false

/-- A slice of messages, wherever it lies. -/
def Msl (w : World) (v : Value) (ts : List (Value × List UInt8)) : Prop :=
  ∃ aa cp, v = .slice aa ts.length cp ∧ ts.length ≤ 9223372036854775807 ∧ ∀ j t, ts[j]? = some t → ∃ g, aa = some ⟨g, 0, none⟩ ∧ w.cell? ⟨g, j, none⟩ = some t.1 ∧ Bs w t.1 t.2 ∧ j < cp
theorem Msl.turn_no {w w' : World} {v : Value} {ts : List (Value × List UInt8)} (h : Msl w v ts) (t : Turn no w w') : Msl w' v ts := by
  obtain ⟨aa, cp, e, hl, hc⟩ := h
  refine ⟨aa, cp, e, hl, fun j x hx => ?_⟩
  obtain ⟨g, e1, c, b, hj⟩ := hc j x hx
  exact ⟨g, e1, t.keep c (fun q => q), b.turn_no t, hj⟩
theorem Ml.msl {old : Nat} {w : World} {v : Value} {ts : List (Value × List UInt8)} (h : Ml old w v ts) : Msl w v ts := by
  rcases h.own.shape with ⟨rfl, q⟩ | ⟨g, cap, cur, rfl, _, h1, h2, _⟩
  · have : ts = [] := List.map_eq_nil_iff.1 q
    subst this
    exact ⟨none, 0, rfl, by simp, fun j t ht => by simp at ht⟩
  · rw [List.length_map] at h1
    refine ⟨_, cap, by simp, by simp only [maxLen] at h2; omega, fun j t ht => ⟨g, rfl, h.own.cell j t.1 (by simp [ht]), (h.each t (List.mem_of_getElem? ht)).1, ?_⟩⟩
    have := (List.getElem?_eq_some_iff.1 ht).1
    omega
theorem Msl.take {w : World} {aa : Option Addr} {n cp : Nat} {ts : List (Value × List UInt8)} (h : Msl w (.slice aa n cp) ts) (m : Nat) (hm : m ≤ ts.length) : Msl w (.slice aa m cp) (ts.take m) := by
  obtain ⟨aa', cp', e, hl, hc⟩ := h
  cases e
  refine ⟨aa, cp, by rw [List.length_take, Nat.min_eq_left hm], by rw [List.length_take]; omega, fun j t ht => hc j t ?_⟩
  rw [List.getElem?_take] at ht
  split at ht
  · exact ht
  · cases ht

end Go.Proofs.YtgbcdjjnpadddaaGreatDoor


