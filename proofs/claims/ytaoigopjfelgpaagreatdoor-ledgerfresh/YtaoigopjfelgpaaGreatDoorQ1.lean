/- What Prove has laid together: accounts and proofs, in new memory. -/
import Derived.Test.YtaoigopjfelgpaaGreatDoorP15
import Derived.Test.YtaoigopjfelgpaaGreatDoorPc
namespace Go.Proofs.YtaoigopjfelgpaaGreatDoor
open Go.RowKit
set_option linter.unusedVariables false

theorem own_neN {w : World} {e e' : TypeId} {s s' n n' : Nat} {v v' : Value} {xs xs' : List Value} (h : OwnN w e s v n xs) (h' : OwnN w e' s' v' n' xs') (he : e ≠ e') : ∀ g, v.ownBlock = some g → ¬ (v'.ownBlock = some g) := by
  intro g hg hg'
  rcases h.2 with ⟨rfl, _⟩ | ⟨g1, c1, u1, rfl, _, o1, _⟩
  · cases hg
  rcases h'.2 with ⟨rfl, _⟩ | ⟨g2, c2, u2, rfl, _, o2, _⟩
  · cases hg'
  have q1 : g1 = g := by simpa [Value.ownBlock] using hg
  have q2 : g2 = g := by simpa [Value.ownBlock] using hg'
  subst q1
  subst q2
  rw [o1] at o2
  cases o2
  exact he rfl
theorem own_neR {w : World} {e e' : TypeId} {s n g' : Nat} {v : Value} {xs : List Value} {X : Array Value} (h : OwnN w e s v n xs) (h' : Row w g' X e') (he : e ≠ e') : ∀ g, v.ownBlock = some g → g ≠ g' := by
  intro g hg hq
  subst hq
  rcases h.2 with ⟨rfl, _⟩ | ⟨g1, c1, u1, rfl, _, o1, _⟩
  · cases hg
  have q1 : g1 = g := by simpa [Value.ownBlock] using hg
  subst q1
  rw [show w.heap[g1]? = some (.cells X e' (0, 0)) from h'] at o1
  cases o1
  exact he rfl
/-- Accounts, in new memory. -/
structure An (B : Nat) (W : World) (l : List Ac) (ps : List Nat) (v : Value) : Prop where
  own : OwnN W 50 5 v ps.length (acC (ps.map fun k => l.getD k ac0))
  new : ∀ g, v.ownBlock = some g → B ≤ g
/-- A digest list of a proof, in new memory. -/
structure Hn (B : Nat) (W : World) (A : List (List UInt8)) (a : Option Addr) (c : Nat) : Prop where
  own : OwnN W 40 32 (.slice a A.length c) A.length (hsF A)
  new : ∀ g, (Value.slice a A.length c).ownBlock = some g → B ≤ g
/-- Proofs, in new memory. -/
structure Qn (B : Nat) (W : World) (l : List Ac) (ps : List Nat) (v : Value) (xs : List Value) : Prop where
  own : OwnN W 53 3 v ps.length xs
  new : ∀ g, v.ownBlock = some g → B ≤ g
  each : ∀ (j k : Nat), ps[j]? = some k → ∃ a c, (∀ i u, (pfC (pfOf l k) a c)[i]? = some u → xs[j * 3 + i]? = some u) ∧ Hn B W (pfOf l k).A a c
section
variable {B : Nat} {W W' : World} {l : List Ac} {ps : List Nat} {v : Value} {xs : List Value} {S : Nat → Prop}
theorem An.nil (B : Nat) (W : World) (l : List Ac) : An B W l [] (.slice none 0 0) := ⟨OwnN.nil W 50 5, fun g q => by cases q⟩
theorem Qn.nil (B : Nat) (W : World) (l : List Ac) : Qn B W l [] (.slice none 0 0) [] := ⟨OwnN.nil W 53 3, (fun g q => by cases q), fun j k q => by simp at q⟩
theorem An.turn (h : An B W l ps v) (t : Turn S W W') (hn : ∀ g, B ≤ g → ¬ S g) : An B W' l ps v := ⟨h.own.turn t (fun g hg => hn g (h.new g hg)), h.new⟩
theorem Hn.turn {A : List (List UInt8)} {a : Option Addr} {c : Nat} (h : Hn B W A a c) (t : Turn S W W') (hn : ∀ g, B ≤ g → ¬ S g) : Hn B W' A a c := ⟨h.own.turn t (fun g hg => hn g (h.new g hg)), h.new⟩
theorem Qn.turn (h : Qn B W l ps v xs) (t : Turn S W W') (hn : ∀ g, B ≤ g → ¬ S g) : Qn B W' l ps v xs :=
  ⟨h.own.turn t (fun g hg => hn g (h.new g hg)), h.new, fun j k q => by
    obtain ⟨a, c, h1, h2⟩ := h.each j k q
    exact ⟨a, c, h1, h2.turn t hn⟩⟩
/-- What the accounts' row leaves alone. -/
theorem Hn.aside {A : List (List UInt8)} {a : Option Addr} {c e s n : Nat} {v : Value} {xs : List Value} (h : Hn B W A a c) (O : OwnN W e s v n xs) (he : e ≠ 40) (t : Turn (fun q => v.ownBlock = some q) W W') : Hn B W' A a c :=
  ⟨h.own.turn t (fun g hg q => own_neN O h.own he g q hg), h.new⟩
theorem Qn.aside {e s n : Nat} {v' : Value} {ys : List Value} (h : Qn B W l ps v xs) (O : OwnN W e s v' n ys) (he : e ≠ 40) (h9 : e ≠ 53) (t : Turn (fun q => v'.ownBlock = some q) W W') : Qn B W' l ps v xs :=
  ⟨h.own.turn t (fun g hg q => own_neN O h.own h9 g q hg), h.new, fun j k q => by
    obtain ⟨a, c, h1, h2⟩ := h.each j k q
    exact ⟨a, c, h1, h2.aside O he t⟩⟩
theorem An.aside {e s n : Nat} {v' : Value} {ys : List Value} (h : An B W l ps v) (O : OwnN W e s v' n ys) (he : e ≠ 50) (t : Turn (fun q => v'.ownBlock = some q) W W') : An B W' l ps v :=
  ⟨h.own.turn t (fun g hg q => own_neN O h.own he g q hg), h.new⟩
theorem acC_snoc (l : List Ac) (m : Ac) : acC (l ++ [m]) = acC l ++ acs m := by
  unfold acC acs
  rw [List.flatMap_append]
  simp
/-- One more account. -/
theorem An.push (h : An B W l ps v) (hB : B ≤ W.heap.size) (hn : ps.length ≤ 4) (k : Nat) :
    ∃ v2 w2, (Builtin.append_ #[22, 22] 22 #[v, .slice (some ⟨W.heap.size, 0, none⟩) 1 1]).run Tryz.prog (W.alloc (.cells (acs (l.getD k ac0)).toArray 50)) = .ok v2 w2 ∧ An B w2 l (ps ++ [k]) v2 ∧ Turn (fun q => v.ownBlock = some q) W w2 ∧ ∃ a c, v2 = .slice a (ps.length + 1) c := by
  have TX : Turn no W (W.alloc (.cells (acs (l.getD k ac0)).toArray 50)) := (Turn.refl no W).alloc _
  obtain ⟨v2, w2, hr, O2, G2⟩ := run_append_srcN (P := Tryz.prog) Tryz.underlying22 info43a rfl (by decide) 22 _ v ps.length _ (h.own.turn_no TX) (.slice (some ⟨W.heap.size, 0, none⟩) 1 1) 1 (acs (l.getD k ac0)) ((Row.new W (acs (l.getD k ac0)).toArray 50).src1 Tryz.underlying22 rfl (by simp [acs, Value.oneCell'])) (by omega) (by simp only [maxLen]; omega)
  obtain ⟨a, c, e, _⟩ := O2.form
  refine ⟨v2, w2, hr, ⟨?_, G2.fresh h.new (by have := TX.size; omega)⟩, (TX.of_no).trans G2.turn (fun i _ q => q), a, c, e⟩
  rw [List.length_append, List.map_append, List.map_cons, List.map_nil, acC_snoc]
  exact O2
/-- One more proof. -/
theorem Qn.push (h : Qn B W l ps v xs) (hB : B ≤ W.heap.size) (hn : ps.length ≤ 4) (k : Nat) {a : Option Addr} {c : Nat} (H : Hn B W (pfOf l k).A a c) :
    ∃ v2 w2, (Builtin.append_ #[41, 41] 41 #[v, .slice (some ⟨W.heap.size, 0, none⟩) 1 1]).run Tryz.prog (W.alloc (.cells (pfC (pfOf l k) a c).toArray 53)) = .ok v2 w2 ∧ Qn B w2 l (ps ++ [k]) v2 (xs ++ pfC (pfOf l k) a c) ∧ Turn (fun q => v.ownBlock = some q) W w2 ∧ ∃ a2 c2, v2 = .slice a2 (ps.length + 1) c2 := by
  have TX : Turn no W (W.alloc (.cells (pfC (pfOf l k) a c).toArray 53)) := (Turn.refl no W).alloc _
  have OX := h.own.turn_no TX
  obtain ⟨v2, w2, hr, O2, G2⟩ := run_append_srcN (P := Tryz.prog) Tryz.underlying41 info69p rfl (by decide) 41 _ v ps.length _ OX (.slice (some ⟨W.heap.size, 0, none⟩) 1 1) 1 (pfC (pfOf l k) a c) ((Row.new W (pfC (pfOf l k) a c).toArray 53).src1 Tryz.underlying41 rfl (by simp [pfC, Value.oneCell'])) (by omega) (by simp only [maxLen]; omega)
  obtain ⟨a2, c2, e, _⟩ := O2.form
  have hx : xs.length = ps.length * 3 := h.own.1
  have HT : ∀ {A : List (List UInt8)} {a' : Option Addr} {c' : Nat}, Hn B W A a' c' → Hn B w2 A a' c' := fun q => (q.turn TX (fun _ _ q => q)).aside OX (by decide) G2.turn
  refine ⟨v2, w2, hr, ⟨?_, G2.fresh h.new (by have := TX.size; omega), fun j k' q => ?_⟩, (TX.of_no).trans G2.turn (fun i _ q => q), a2, c2, e⟩
  · rw [List.length_append]
    exact O2
  · rcases at_last q with ⟨hj, q⟩ | ⟨rfl, rfl⟩
    · obtain ⟨a', c', h1, h2⟩ := h.each j k' q
      refine ⟨a', c', fun i u hu => ?_, HT h2⟩
      have := h1 i u hu
      rw [List.getElem?_append_left (List.getElem?_eq_some_iff.1 this).1]
      exact this
    · refine ⟨a, c, fun i u hu => ?_, HT H⟩
      rw [List.getElem?_append_right (by omega), show ps.length * 3 + i - xs.length = i by omega]
      exact hu
theorem Hn.hs {A : List (List UInt8)} {a : Option Addr} {c : Nat} (h : Hn B W A a c) (hok : ∀ m ∈ A, m.length = 32) : HsAt W a c A := by
  obtain ⟨a', c', e, q⟩ := h.own.hsAt rfl hok
  cases e
  exact q
theorem An.as (h : An B W l ps v) (hok : ∀ m ∈ l, m.ok) (hps : ∀ k ∈ ps, k < l.length) : As W v (ps.map fun k => l.getD k ac0) := by
  refine OwnN.as (by rw [List.length_map]; exact h.own) (fun m hm => ?_)
  obtain ⟨k, hk, rfl⟩ := List.mem_map.1 hm
  have := hps k hk
  rw [List.getD_eq_getElem?_getD, List.getElem?_eq_getElem this]
  exact hok _ (List.getElem_mem this)
theorem Qn.qs (h : Qn B W l ps v xs) (hok : ∀ k ∈ ps, ∀ m ∈ (pfOf l k).A, m.length = 32) : Qs W v (ps.map (pfOf l)) := by
  obtain ⟨a, c, rfl, h0, h1, h2, h3⟩ := h.own.form
  refine ⟨a, c, by rw [List.length_map], by rw [List.length_map]; exact h2, h3, fun j q hj => ?_⟩
  rw [List.getElem?_map] at hj
  obtain ⟨k, hk, rfl⟩ := Option.map_eq_some_iff.1 hj
  obtain ⟨a', c', f1, f2⟩ := h.each j k hk
  rcases h.own.2 with ⟨_, q⟩ | ⟨g, cap', cur, e, _⟩
  · have := (List.getElem?_eq_some_iff.1 hk).1
    omega
  · cases e
    refine ⟨g, 0, a', c', rfl, f2.hs (hok k (List.mem_of_getElem? hk)), fun i u hu => ?_⟩
    have := World.ownsRow.cells h.own (g := g) rfl (j * 3 + i) u (f1 i u hu)
    simpa [Addr.add_lit] using this
end
end Go.Proofs.YtaoigopjfelgpaaGreatDoor

