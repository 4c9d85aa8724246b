/- outs: Out, asked for twice. -/
import Derived.Test.YtfjdojodbhmmaaaX5
namespace Go.Proofs.Ytfjdojodbhmmaaa
open Go.RowKit
set_option linter.unusedVariables false

theorem Kb.foot_lt {w : World} {p : Nat} {k : Kv} {Es : List En} (h : Kb w p k Es) {g : Nat} (hg : kfoot p k g) : g < w.heap.size := by
  rcases hg with q | q | q | q | q
  · subst q; exact lt_of_obj h.blk
  · exact h.og.lt q
  · exact h.ow.lt q
  · exact h.on.lt q
  · exact h.om.lt q
theorem Kb.turn {S : Nat → Prop} {w w' : World} {p : Nat} {k : Kv} {Es : List En} (h : Kb w p k Es) (t : Turn S w w') (hf : ∀ g, kfoot p k g → ¬ S g) (he : ∀ x ∈ Es, ∀ g, eblk x g → ¬ S g) : Kb w' p k Es :=
  ⟨t.obj h.blk (hf p (.inl rfl)), h.og.turn t (fun g hg => hf g (.inr (.inl hg))), h.ow.turn t (fun g hg => hf g (.inr (.inr (.inl hg)))), h.on.turn t (fun g hg => hf g (.inr (.inr (.inr (.inl hg))))), h.om.turn t (fun g hg => hf g (.inr (.inr (.inr (.inr hg))))), h.gw, h.gn, h.wn,
    fun x hx => ⟨(h.each x hx).1.turn t (fun g hg => he x hx g (.inl hg)), (h.each x hx).2.1.turn t (fun g hg => he x hx g (.inr (.inl hg))), (h.each x hx).2.2.turn t (fun g hg => he x hx g (.inr (.inr hg)))⟩, h.out, fun x hx g hg => Nat.lt_of_lt_of_le (h.lt x hx g hg) t.size⟩
theorem Kb.turn_no {w w' : World} {p : Nat} {k : Kv} {Es : List En} (h : Kb w p k Es) (t : Turn no w w') : Kb w' p k Es := h.turn t (fun _ _ q => q) (fun _ _ _ _ q => q)
/-- What an asking leaves. -/
def Asked (w : World) (p : Nat) (k : Kv) (Es : List En) (N : Nat) (w' : World) : Prop := ∃ k' x, Kb w' p k' (Es ++ [x]) ∧ x.W.length ≤ N ∧ Turn (kfoot p k) w w' ∧ (∀ g, kfoot p k' g → kfoot p k g ∨ w.heap.size ≤ g) ∧ (∀ g, eblk x g → w.heap.size ≤ g)
theorem asked_of {w w3 w4 : World} {p : Nat} {k : Kv} {Es : List En} {a b : Value} {W : List UInt8} {N : Nat} (hK : Kb w p k Es) (t : Turn no w w3) (hN : W.length ≤ N) (ha : ∀ g, a.ownBlock = some g → w.heap.size ≤ g) (hb : ∀ g, b.ownBlock = some g → w.heap.size ≤ g) {m : UInt8}
    (h : ∃ k' v1 v2, Kb w4 p k' (Es ++ [⟨a, v1, v2, W, m⟩]) ∧ Turn (fun g => kfoot p k g ∨ b.ownBlock = some g) w3 w4 ∧ (∀ g, kfoot p k' g → kfoot p k g ∨ w3.heap.size ≤ g) ∧ (∀ g, v1.ownBlock = some g → w3.heap.size ≤ g) ∧ (∀ g, v2.ownBlock = some g → b.ownBlock = some g ∨ w3.heap.size ≤ g)) : Asked w p k Es N w4 := by
  obtain ⟨k', v1, v2, h1, h2, h3, h4, h5⟩ := h
  have s := t.size
  refine ⟨k', _, h1, hN, t.of_no.trans h2 (fun i hi q => q.elim (fun q => q) (fun q => by have := hb i q; omega)), fun g hg => (h3 g hg).elim .inl (fun q => .inr (by omega)), fun g hg => ?_⟩
  rcases hg with q | q | q
  · exact ha g q
  · have := h4 g q; omega
  · rcases h5 g q with r | r
    · exact hb g r
    · omega
theorem bs_nil (w : World) : Bs w (.slice none 0 0) [] := Or.inl ⟨rfl, rfl⟩
set_option maxRecDepth 100000 in
set_option maxHeartbeats 4000000 in
theorem outs24_ok (w : World) (pw qr kp : Nat) (va vc : Value) (bs : List UInt8) (h1 : Wr w pw va bs 0) (h2 : Rx w qr vc bs 0) (vg vw vn vm : Value) (Es : List En) (hK : Kb w kp ⟨vg, vw, vn, vm⟩ Es) (hle : bs.length + 50 ≤ 140737488355328) (hE : Es.length ≤ 1000) :
    Calls Try.prog 24 #[.pointer (some ⟨pw, 0, none⟩), .pointer (some ⟨qr, 0, none⟩), .pointer (some ⟨kp, 0, none⟩)] w fun e w' => e = .returned (.bool true) ∧ Asked w kp ⟨vg, vw, vn, vm⟩ Es bs.length w' := by
  have o1 := out_made w pw va bs h1 (by omega)
  have HH := shutX (And.intro h1 (And.intro h2 hK))
  clear h1 h2 hK
  go_enter Try.func24, Try.ntmps24
  go_wp2_with fail
  refine o1.mono ?_
  rintro e w1 ⟨v1, rfl, p1, f1, t1⟩
  clear o1
  have o2 := out_made w1 pw va bs (HH.out.1.turn_no t1) (by omega)
  obtain ⟨a1, n1, c1, hv1⟩ := p1.form
  subst hv1
  go_wp2_with fail
  refine o2.mono ?_
  rintro e w2 ⟨v2, rfl, p2, f2, t2⟩
  clear o2
  have o3 := rout65 w2 qr vc bs (HH.out.2.1.turn_no (t1.then_no t2)) (by omega)
  obtain ⟨a2, n2, c2, hv2⟩ := p2.form
  subst hv2
  go_wp2_with fail
  refine o3.mono ?_
  rintro e w3 ⟨v3, rfl, F3⟩
  clear o3
  obtain ⟨a3, n3, c3, hv3⟩ := F3.form
  subst hv3
  have B1 : Bs w3 (.slice a1 n1 c1) bs := ((p1.turn_no t2).turn_no F3.turn).bs
  have O2 : Own w3 5 (.slice a2 n2 c2) (bs.map bv) := p2.turn_no F3.turn
  have B3 := F3.own.bs
  have T3 : Turn no w w3 := (t1.then_no t2).then_no F3.turn
  have s1 : ∀ W, Turn no w3 W → Calls Try.prog 12 #[.slice a1 n1 c1, .slice a3 n3 c3] W fun e w' => e = .returned (.bool true) ∧ Turn no W w' := fun W t => (same_any W _ _ bs bs (B1.turn_no t) (B3.turn_no t)).mono (fun _ _ ⟨q1, m, q2⟩ => ⟨by rw [q1]; simp, by rw [q2]; exact (Turn.refl no W).drewN m⟩)
  have s2 : ∀ W, Turn no w3 W → Calls Try.prog 12 #[.slice a2 n2 c2, .slice a3 n3 c3] W fun e w' => e = .returned (.bool true) ∧ Turn no W w' := fun W t => (same_any W _ _ bs bs (O2.bs.turn_no t) (B3.turn_no t)).mono (fun _ _ ⟨q1, m, q2⟩ => ⟨by rw [q1]; simp, by rw [q2]; exact (Turn.refl no W).drewN m⟩)
  have l1 : ∀ g, (Value.slice a1 n1 c1).ownBlock = some g → g < w1.heap.size := fun g hg => p1.lt hg
  have nt := fun W (t : Turn no w3 W) => note34 W kp vg vw vn vm Es ((HH.out.2.2.turn_no T3).turn_no t) (.slice a1 n1 c1) (.slice a2 n2 c2) (.slice a3 n3 c3) bs (B1.turn_no t) (fun g hg => by have := l1 g hg; have := t2.size; have := F3.turn.size; have := t.size; omega) (O2.turn_no t) (B3.turn_no t)
    (fun g hg => ⟨fun q => by have := HH.out.2.2.foot_lt q; have := f1 g hg; omega, fun q => by have := f2 g q; have := l1 g hg; omega⟩) (fun g hg q => by have := HH.out.2.2.foot_lt q; have := f2 g hg; have := t1.size; omega) (fun g hg q => by have := HH.out.2.2.foot_lt q; have := F3.new g hg; have := t1.size; have := t2.size; omega)
    (fun x hx g hg q => by have := HH.out.2.2.lt x hx g hg; have := f2 g q; have := t1.size; omega) (by omega) (by omega)
  have HS := shutX (And.intro s1 (And.intro s2 nt))
  have HT := shutX (And.intro T3 (And.intro f1 (And.intro f2 t1)))
  clear s1 s2 nt B1 O2 B3 T3 l1 p1 p2 f1 f2 t1 t2 F3 hle hE
  go_wp2_with (first | (go_at_call 15; refine (num_any _ _).mono ?_; rintro e w' ⟨rfl, rfl⟩))
  refine (HS.out.1 w3 (Turn.refl _ _)).mono ?_
  rintro e w4 ⟨rfl, t4⟩
  go_wp2_with fail
  refine (HS.out.2.1 w4 t4).mono ?_
  rintro e w5 ⟨rfl, t5⟩
  go_wp2_with fail
  refine (HS.out.2.2 w5 (t4.then_no t5)).mono ?_
  rintro e w6 ⟨rfl, R⟩
  go_wp2_with fail
  go_ret
  exact ⟨rfl, asked_of HH.out.2.2 (HT.out.1.then_no (t4.then_no t5)) (Nat.le_refl _) HT.out.2.1 (fun g hg => by have := HT.out.2.2.1 g hg; have := HT.out.2.2.2.size; omega) R⟩
set_option maxRecDepth 100000 in
set_option maxHeartbeats 4000000 in
theorem outs24_err (w : World) (pw qr kp : Nat) (va vc : Value) (bs : List UInt8) (e0 : Int) (h0 : (e0 != 0) = true) (h1 : Wr w pw va bs e0) (h2 : Rx w qr vc bs e0) (vg vw vn vm : Value) (Es : List En) (hK : Kb w kp ⟨vg, vw, vn, vm⟩ Es) (hE : Es.length ≤ 1000) :
    Calls Try.prog 24 #[.pointer (some ⟨pw, 0, none⟩), .pointer (some ⟨qr, 0, none⟩), .pointer (some ⟨kp, 0, none⟩)] w fun e w' => e = .returned (.bool true) ∧ Asked w kp ⟨vg, vw, vn, vm⟩ Es bs.length w' := by
  have o1 := out_fault w (.pointer (some ⟨pw, 0, none⟩)) e0 h1.fault h0
  have o3 := rout65_err w qr vc bs e0 h0 h2
  have s1 : ∀ W, Calls Try.prog 12 #[.slice none 0 0, .slice none 0 0] W fun e w' => e = .returned (.bool true) ∧ Turn no W w' := fun W => (same_any W _ _ [] [] (bs_nil W) (bs_nil W)).mono (fun _ _ ⟨q1, m, q2⟩ => ⟨by rw [q1]; simp, by rw [q2]; exact (Turn.refl no W).drewN m⟩)
  have nt := fun W (t : Turn no w W) => note34 W kp vg vw vn vm Es (hK.turn_no t) (.slice none 0 0) (.slice none 0 0) (.slice none 0 0) [] (bs_nil W) (fun g hg => by cases hg) (Own.nil _ _) (bs_nil W) (fun g hg => by cases hg) (fun g hg => by cases hg) (fun g hg => by cases hg) (fun x hx g hg q => by cases q) (by omega) (by simp)
  have HS := shutX (And.intro s1 nt)
  have HH := shutX hK
  clear h1 h2 hK s1 nt
  have hne : (e0 != e0) = false := by simp
  go_enter Try.func24, Try.ntmps24
  go_wp2_with fail
  refine o1.mono ?_
  rintro e w1 ⟨rfl, e1⟩
  subst e1
  go_wp2_with fail
  refine o1.mono ?_
  rintro e w1 ⟨rfl, e1⟩
  subst e1
  go_wp2_with fail
  refine o3.mono ?_
  rintro e w3 ⟨rfl, t3⟩
  clear o1 o3
  go_wp2_with (first | (go_at_call 15; refine (num_any _ _).mono ?_; rintro e w' ⟨rfl, rfl⟩) | (go_at_call 34; refine (HS.out.2 _ (t3.then_no (t4.then_no t5))).mono ?_; rintro e w6 ⟨rfl, R⟩) | (go_at_call 12; refine (HS.out.1 w3).mono ?_; rintro e w4 ⟨rfl, t4⟩) | (go_at_call 12; refine (HS.out.1 w4).mono ?_; rintro e w5 ⟨rfl, t5⟩))
  go_ret
  exact ⟨rfl, asked_of HH.out (t3.then_no (t4.then_no t5)) (by simp) (fun g hg => by cases hg) (fun g hg => by cases hg) R⟩
end Go.Proofs.Ytfjdojodbhmmaaa
