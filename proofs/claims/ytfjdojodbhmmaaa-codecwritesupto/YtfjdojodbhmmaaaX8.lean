/- Two writers, the document's two, the book: side by side. -/
import Derived.Test.YtfjdojodbhmmaaaX7
import Derived.Test.YtfjdojodbhmmaaaV4
namespace Go.Proofs.Ytfjdojodbhmmaaa
open Go.RowKit
set_option linter.unusedVariables false

theorem Wr.foot_lt {w : World} {p : Nat} {v : Value} {bs : List UInt8} {e : Int} (h : Wr w p v bs e) {g : Nat} (hg : wfoot p v g) : g < w.heap.size := by
  rcases hg with q | q
  · subst q; exact h.lt
  · exact h.own.lt q
theorem Rx.foot_lt {w : World} {p : Nat} {v : Value} {bs : List UInt8} {e : Int} (h : Rx w p v bs e) {g : Nat} (hg : wfoot p v g) : g < w.heap.size := by
  rcases hg with q | q
  · subst q; exact h.lt
  · exact h.own.lt q
theorem near_foot {w : World} {p : Nat} {v v' : Value} (h : Near w v v') {g : Nat} (hg : wfoot p v' g) : wfoot p v g ∨ w.heap.size ≤ g := by
  rcases hg with q | q
  · exact .inl (.inl q)
  · rcases h with r | ⟨g', r, hg'⟩
    · exact .inl (.inr (by rw [← r]; exact q))
    · rw [r] at q; cases q; exact .inr hg'
structure Fv (base : Nat) (w : World) (P : Nat → Nat) (kp : Nat) (V : Nat → Value) (k : Kv) (C : Nat → List UInt8 × Int) (Es : List En) : Prop where
  wr : ∀ i, i < 2 → Wr w (P i) (V i) (C i).1 (C i).2
  rx : ∀ i, i < 2 → Rx w (P (2 + i)) (V (2 + i)) (C (2 + i)).1 (C (2 + i)).2
  kb : Kb w kp k Es
  disj : ∀ i j g, i < 4 → j < 4 → i ≠ j → wfoot (P i) (V i) g → ¬ wfoot (P j) (V j) g
  kdisj : ∀ i g, i < 4 → wfoot (P i) (V i) g → ¬ kfoot kp k g
  new : ∀ i g, i < 4 → wfoot (P i) (V i) g → base ≤ g
  knew : ∀ g, kfoot kp k g → base ≤ g
  ents : ∀ x ∈ Es, ∀ g, eblk x g → ∀ i, i < 4 → ¬ wfoot (P i) (V i) g
  size : base ≤ w.heap.size
def up {α : Type} (f : Nat → α) (i : Nat) (x : α) : Nat → α := fun j => if j = i then x else f j
theorem up_same {α : Type} (f : Nat → α) (i : Nat) (x : α) : up f i x i = x := by simp [up]
theorem up_other {α : Type} (f : Nat → α) (i : Nat) (x : α) {j : Nat} (h : j ≠ i) : up f i x j = f j := by simp [up, h]
section
variable {base : Nat} {w w' : World} {P : Nat → Nat} {kp : Nat} {V : Nat → Value} {k : Kv} {C : Nat → List UInt8 × Int} {Es : List En}
theorem Fv.lt (h : Fv base w P kp V k C Es) {i g : Nat} (hi : i < 4) (hg : wfoot (P i) (V i) g) : g < w.heap.size := by
  by_cases h2 : i < 2
  · exact (h.wr i h2).foot_lt hg
  · obtain ⟨j, rfl⟩ : ∃ j, i = 2 + j := ⟨i - 2, by omega⟩
    exact (h.rx j (by omega)).foot_lt hg
theorem Fv.turn_no (h : Fv base w P kp V k C Es) (t : Turn no w w') : Fv base w' P kp V k C Es :=
  ⟨fun i hi => (h.wr i hi).turn_no t, fun i hi => (h.rx i hi).turn_no t, h.kb.turn_no t, h.disj, h.kdisj, h.new, h.knew, h.ents, Nat.le_trans h.size t.size⟩
/-- One of the four is exchanged. -/
theorem Fv.put (h : Fv base w P kp V k C Es) {i : Nat} (hi : i < 4) {v' : Value} {c : List UInt8 × Int} (t : Turn (wfoot (P i) (V i)) w w') (hn : Near w (V i) v')
    (hw : i < 2 → Wr w' (P i) v' c.1 c.2) (hr : 2 ≤ i → Rx w' (P i) v' c.1 c.2) : Fv base w' P kp (up V i v') k (up C i c) Es ∧ Turn (fun g => base ≤ g) w w' := by
  have nf : ∀ g, wfoot (P i) v' g → wfoot (P i) (V i) g ∨ w.heap.size ≤ g := fun g hg => near_foot hn hg
  refine ⟨⟨fun j hj => ?_, fun j hj => ?_, ?_, ?_, ?_, ?_, h.knew, ?_, Nat.le_trans h.size t.size⟩, t.mono (fun g _ q => h.new i g hi q)⟩
  · by_cases e : j = i
    · subst e; rw [up_same, up_same]; exact hw hj
    · rw [up_other _ _ _ e, up_other _ _ _ e]; exact (h.wr j hj).turn t (fun g hg q => h.disj j i g (by omega) hi e hg q)
  · by_cases e : 2 + j = i
    · subst e; rw [up_same, up_same]; exact hr (by omega)
    · rw [up_other _ _ _ e, up_other _ _ _ e]; exact (h.rx j hj).turn t (fun g hg q => h.disj (2 + j) i g (by omega) hi e hg q)
  · exact h.kb.turn t (fun g hg q => h.kdisj i g hi q hg) (fun x hx g hg q => h.ents x hx g hg i hi q)
  · intro a b g ha hb hab hg hg'
    by_cases ea : a = i
    · subst ea
      rw [up_same] at hg
      rw [up_other _ _ _ (Ne.symm hab)] at hg'
      rcases nf g hg with q | q
      · exact h.disj a b g ha hb hab q hg'
      · have := h.lt hb hg'; omega
    · rw [up_other _ _ _ ea] at hg
      by_cases eb : b = i
      · subst eb
        rw [up_same] at hg'
        rcases nf g hg' with q | q
        · exact h.disj a b g ha hb hab hg q
        · have := h.lt ha hg; omega
      · rw [up_other _ _ _ eb] at hg'
        exact h.disj a b g ha hb hab hg hg'
  · intro a g ha hg q
    by_cases ea : a = i
    · subst ea
      rw [up_same] at hg
      rcases nf g hg with r | r
      · exact h.kdisj a g ha r q
      · have := h.kb.foot_lt q; omega
    · rw [up_other _ _ _ ea] at hg
      exact h.kdisj a g ha hg q
  · intro a g ha hg
    by_cases ea : a = i
    · subst ea
      rw [up_same] at hg
      rcases nf g hg with r | r
      · exact h.new a g ha r
      · have := h.size; omega
    · rw [up_other _ _ _ ea] at hg
      exact h.new a g ha hg
  · intro x hx g hg a ha q
    by_cases ea : a = i
    · subst ea
      rw [up_same] at q
      rcases nf g q with r | r
      · exact h.ents x hx g hg a ha r
      · have := h.kb.lt x hx g hg; omega
    · rw [up_other _ _ _ ea] at q
      exact h.ents x hx g hg a ha q
theorem Fv.asked (h : Fv base w P kp V k C Es) {N : Nat} (ha : Asked w kp k Es N w') : ∃ k' x, Fv base w' P kp V k' C (Es ++ [x]) ∧ x.W.length ≤ N ∧ Turn (fun g => base ≤ g) w w' := by
  obtain ⟨k', x, h1, h2, t, h3, h4⟩ := ha
  refine ⟨k', x, ⟨fun i hi => (h.wr i hi).turn t (fun g hg q => h.kdisj i g (by omega) hg q), fun i hi => (h.rx i hi).turn t (fun g hg q => h.kdisj (2 + i) g (by omega) hg q), h1, h.disj, ?_, h.new, ?_, ?_, Nat.le_trans h.size t.size⟩, h2, t.mono (fun g _ q => h.knew g q)⟩
  · intro i g hi hg q
    rcases h3 g q with r | r
    · exact h.kdisj i g hi hg r
    · have := h.lt hi hg; omega
  · intro g hg
    rcases h3 g hg with r | r
    · exact h.knew g r
    · have := h.size; omega
  · intro y hy g hg i hi q
    rcases List.mem_append.1 hy with hy | hy
    · exact h.ents y hy g hg i hi q
    · simp at hy
      subst hy
      have := h4 g hg
      have := h.lt hi q
      omega
end
theorem wput_len (bs : List UInt8) (e k : Int) (n : Nat) (B : List UInt8) : (wput bs e k n B).1.length ≤ bs.length + B.length + 10 := by
  unfold wput
  have := enc_le k n B
  split
  · simp; omega
  · simp only; omega
theorem ne_bool {e : Int} (h : ¬ e = 0) : (e != 0) = true ∧ (e == 0) = false := by simp [h]
/-- A value laid down, with an error or without: the program's Writer, the document's. -/
theorem lay_any (w : World) (p : Nat) (v : Value) (bs : List UInt8) (e k : Int) (n : Nat) (hn : n < 18446744073709551616) (vb : Value) (B : List UInt8) (h : Wr w p v bs e) (hb : Bs w vb B) (hnb : B ≠ [] → ∀ g, vb.ownBlock = some g → ¬ wfoot p v g) (hle : bs.length + B.length + 20 ≤ 140737488355328) :
    Calls Try.prog 22 #[.pointer (some ⟨p, 0, none⟩), .agg #[.int .i64 k, .int .u64 n, vb]] w fun r w' => r = .returned (.bool true) ∧ Laid w p v (wput bs e k n B).1 (wput bs e k n B).2 w' := by
  by_cases h0 : e = 0
  · subst h0
    have := lay_made w p v bs k n hn vb B h hb hnb hle
    simpa [wput] using this
  · refine (lay_err w _ k n e vb B h.fault (ne_bool h0).1 hb (by omega)).mono fun r w' ⟨hr, t⟩ => ⟨hr, ?_⟩
    have e1 : wput bs e k n B = (bs, e) := by simp [wput, h0]
    rw [e1]
    exact ⟨v, h.turn_no t, t.of_no, .inl rfl⟩
theorem paper_any (w : World) (p : Nat) (v : Value) (bs : List UInt8) (e k : Int) (n : Nat) (hn : n < 18446744073709551616) (vb : Value) (B : List UInt8) (h : Rx w p v bs e) (hb : Bs w vb B) (hle : bs.length + B.length + 30 ≤ 140737488355328) :
    Calls Try.prog 23 #[.pointer (some ⟨p, 0, none⟩), .agg #[.int .i64 k, .int .u64 n, vb]] w fun r w' => r = .returned (.tuple #[]) ∧ RLaid w p v (wput bs e k n B).1 (wput bs e k n B).2 w' := by
  by_cases h0 : e = 0
  · subst h0
    have := paper_made w p v bs k n hn vb B h hb hle
    simpa [wput] using this
  · refine (paper_err w p v bs e (ne_bool h0).2 (ne_bool h0).1 k n hn vb B h hb hle).mono fun r w' ⟨hr, t⟩ => ⟨hr, ?_⟩
    have e1 : wput bs e k n B = (bs, e) := by simp [wput, h0]
    rw [e1]
    exact ⟨v, h.turn_no t, t.of_no, .inl rfl⟩
theorem outs24 (w : World) (pw qr kp : Nat) (va vc : Value) (bs : List UInt8) (e0 : Int) (h1 : Wr w pw va bs e0) (h2 : Rx w qr vc bs e0) (k : Kv) (Es : List En) (hK : Kb w kp k Es) (hle : bs.length + 50 ≤ 140737488355328) (hE : Es.length ≤ 1000) :
    Calls Try.prog 24 #[.pointer (some ⟨pw, 0, none⟩), .pointer (some ⟨qr, 0, none⟩), .pointer (some ⟨kp, 0, none⟩)] w fun e w' => e = .returned (.bool true) ∧ Asked w kp k Es bs.length w' := by
  obtain ⟨vg, vw, vn, vm⟩ := k
  by_cases h0 : e0 = 0
  · subst h0
    exact outs24_ok w pw qr kp va vc bs h1 h2 vg vw vn vm Es hK hle hE
  · exact outs24_err w pw qr kp va vc bs e0 (ne_bool h0).1 h1 h2 vg vw vn vm Es hK hE
end Go.Proofs.Ytfjdojodbhmmaaa
