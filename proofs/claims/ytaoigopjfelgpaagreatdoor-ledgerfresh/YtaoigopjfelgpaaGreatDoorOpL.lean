/- A ledger, read. -/
import Derived.Test.YtaoigopjfelgpaaGreatDoorGb
import Derived.Test.YtaoigopjfelgpaaGreatDoorProg
import Derived.ProofKit
import Derived.OpenShut
import Derived.ChangeOld
import Derived.SizedLaws
import Derived.Lib.SmallJoins
import Derived.Deep.Slices
namespace Go.Proofs.YtaoigopjfelgpaaGreatDoor
open Go.ChangeShapes Go.WideShapes Go.ChangeAt Go.RowKit Go.Joins Go.Deep
set_option linter.unusedVariables false

theorem own : ownKnob Tryz.prog.godebug = none := by kernel_rfl
theorem laidOut : laidOutB Tryz.prog = true := by kernel_rfl
theorem cells39 : Tryz.prog.cellsOf 50 = 5 := by kernel_rfl
theorem cells25 : Tryz.prog.cellsOf 25 = 12 := by kernel_rfl
theorem bytes39 : Tryz.prog.bytesOf 50 = 40 := by kernel_rfl
theorem cells4 : Tryz.prog.cellsOf 4 = 1 := by kernel_rfl
theorem cells22 : Tryz.prog.cellsOf 22 = 1 := by kernel_rfl
theorem cells23 : Tryz.prog.cellsOf 23 = 1 := by kernel_rfl
theorem cells35 : Tryz.prog.cellsOf 26 = 1 := by kernel_rfl
theorem add5 (a : Addr) (l j : Nat) : (a.add l).add j = a.add (l + j) := by
  obtain ⟨b, o, s⟩ := a
  unfold Addr.add
  by_cases hl : l = 0
  · subst hl; simp
  · by_cases hj : j = 0
    · subst hj; simp [hl]
    · simp [hl, hj, Nat.add_assoc]
theorem choose_ltT {α : Type} (x0 : α) {n : Nat} {p : Nat → α → Prop} (h : ∀ i, i < n → ∃ x, p i x) : ∃ f : Nat → α, ∀ i, i < n → p i (f i) :=
  ⟨fun i => if hi : i < n then (h i hi).choose else x0, fun i hi => by simp only [hi, dite_true]; exact (h i hi).choose_spec⟩
theorem cut1 {L : List Value} {o : Nat} {v : Value} (h : (L.drop o).take 1 = [v]) : L[o]? = some v := by
  have := congrArg (·[0]?) h
  simpa [List.getElem?_take, List.getElem?_drop] using this
theorem u64_of {n : Int} (h : (Lit.int .u64 n).wf = true) : ∃ a : Nat, n = (a : Int) ∧ a < 18446744073709551616 := by
  simp only [Lit.wf, Bool.and_eq_true, decide_eq_true_eq] at h
  rw [show IntKind.u64.min = 0 by decide, show IntKind.u64.max = 18446744073709551615 by decide] at h
  exact ⟨n.toNat, by omega, by omega⟩
theorem cells58 : Tryz.prog.cellsOf 67 = 4 := by kernel_rfl
theorem cells27 : Tryz.prog.cellsOf 28 = 1 := by kernel_rfl
theorem cells29 : Tryz.prog.cellsOf 30 = 4 := by kernel_rfl
theorem bytes58 : Tryz.prog.bytesOf 67 = 32 := by kernel_rfl
theorem four_of {α : Type} {L : List α} (h : L.length = 4) : ∃ a b c d, L = [a, b, c, d] := by
  rcases L with _ | ⟨a, _ | ⟨b, _ | ⟨c, _ | ⟨d, _ | ⟨e, L⟩⟩⟩⟩⟩ <;> first | exact ⟨_, _, _, _, rfl⟩ | (simp at h)
def rlV (m : Rl) : List Value := [.int .u64 m.ht, .int .u64 m.ad, .int .u64 m.born, .int .u64 m.amt]
theorem twelve {L : List Value} (h : L.length = 12) : ∃ q0 q1 q2 q3 q4 q5 q6 q7 q8 q9 q10 q11, L = [q0, q1, q2, q3, q4, q5, q6, q7, q8, q9, q10, q11] := by
  rcases L with _ | ⟨q0, _ | ⟨q1, _ | ⟨q2, _ | ⟨q3, _ | ⟨q4, _ | ⟨q5, _ | ⟨q6, _ | ⟨q7, _ | ⟨q8, _ | ⟨q9, _ | ⟨q10, _ | ⟨q11, _ | ⟨q12, L⟩⟩⟩⟩⟩⟩⟩⟩⟩⟩⟩⟩⟩ <;> first | exact ⟨_, _, _, _, _, _, _, _, _, _, _, _, rfl⟩ | (simp at h)
def acV (m : Ac) : List Value := [.int .u64 m.ad, .int .u64 m.bal, .int .u64 m.bond, .int .u64 m.nonce, .bool m.jail]

section
variable {H : Type} {enc : TypeId × Value → H} {w : World} {base : Nat} {spare : Nat → Bool} {held : Bool}
theorem open_ac {n : Nat} {L : List Value} {y : DataW H × List MemPlace} (h : DataW.trod enc Tryz.prog w base spare held n 50 L = some y) : ∃ m : Ac, L = acV m ∧ m.ok := by
  obtain ⟨xs, m, _, _, hlen, hn, hel⟩ := DataW.trod_struct Tryz.underlying50 h
  rw [cells39] at hlen
  have hx : ∀ i, i < 5 → ∃ x, xs[i]? = some x := fun i hi => ⟨xs[i]'(by rw [hn]; exact hi), List.getElem?_eq_getElem _⟩
  obtain ⟨x0, e0⟩ := hx 0 (by omega)
  have h0 : DataW.trod enc Tryz.prog w base spare held m 26 ((L.drop 0).take (Tryz.prog.cellsOf 26)) = some x0 := (hel 0 _ rfl).trans e0
  rw [cells35] at h0
  obtain ⟨x1, e1⟩ := hx 1 (by omega)
  have h1 : DataW.trod enc Tryz.prog w base spare held m 23 ((L.drop 1).take (Tryz.prog.cellsOf 23)) = some x1 := (hel 1 _ rfl).trans e1
  rw [cells23] at h1
  obtain ⟨x2, e2⟩ := hx 2 (by omega)
  have h2 : DataW.trod enc Tryz.prog w base spare held m 23 ((L.drop 2).take (Tryz.prog.cellsOf 23)) = some x2 := (hel 2 _ rfl).trans e2
  rw [cells23] at h2
  obtain ⟨x3, e3⟩ := hx 3 (by omega)
  have h3 : DataW.trod enc Tryz.prog w base spare held m 23 ((L.drop 3).take (Tryz.prog.cellsOf 23)) = some x3 := (hel 3 _ rfl).trans e3
  rw [cells23] at h3
  obtain ⟨x4, e4⟩ := hx 4 (by omega)
  have h4 : DataW.trod enc Tryz.prog w base spare held m 4 ((L.drop 4).take (Tryz.prog.cellsOf 4)) = some x4 := (hel 4 _ rfl).trans e4
  rw [cells4] at h4
  obtain ⟨k0, c0, _, w0⟩ := DataW.trod_int Tryz.underlying26 h0
  obtain ⟨k1, c1, _, w1⟩ := DataW.trod_int Tryz.underlying23 h1
  obtain ⟨k2, c2, _, w2⟩ := DataW.trod_int Tryz.underlying23 h2
  obtain ⟨k3, c3, _, w3⟩ := DataW.trod_int Tryz.underlying23 h3
  obtain ⟨k4, c4, _⟩ := DataW.trod_bool Tryz.underlying4 h4
  obtain ⟨a0, rfl, ha0⟩ := u64_of w0
  obtain ⟨a1, rfl, ha1⟩ := u64_of w1
  obtain ⟨a2, rfl, ha2⟩ := u64_of w2
  obtain ⟨a3, rfl, ha3⟩ := u64_of w3
  refine ⟨⟨a0, a1, a2, a3, k4⟩, ?_, ha0, ha1, ha2, ha3⟩
  have d0 := cut1 c0
  have d1 := cut1 c1
  have d2 := cut1 c2
  have d3 := cut1 c3
  have d4 := cut1 c4
  apply List.ext_getElem?
  intro j
  match j with
  | 0 => simpa [acV] using d0
  | 1 => simpa [acV] using d1
  | 2 => simpa [acV] using d2
  | 3 => simpa [acV] using d3
  | 4 => simpa [acV] using d4
  | j + 5 => rw [List.getElem?_eq_none (by omega), List.getElem?_eq_none (by simp [acV])]
/-- The params: what is asked of them. -/
theorem open_par {n : Nat} {L : List Value} {y : DataW H × List MemPlace} (h : DataW.trod enc Tryz.prog w base spare held n 25 L = some y) : ∃ (mb : Nat) (st : Int), L[0]? = some (.int .u64 mb) ∧ L[1]? = some (.int .i64 st) ∧ L.length = 12 := by
  obtain ⟨xs, m, _, _, hlen, hn, hel⟩ := DataW.trod_struct Tryz.underlying25 h
  rw [cells25] at hlen
  have hx : ∀ i, i < 12 → ∃ x, xs[i]? = some x := fun i hi => ⟨xs[i]'(by rw [hn]; exact hi), List.getElem?_eq_getElem _⟩
  obtain ⟨x0, e0⟩ := hx 0 (by omega)
  obtain ⟨x1, e1⟩ := hx 1 (by omega)
  have h0 : DataW.trod enc Tryz.prog w base spare held m 23 ((L.drop 0).take (Tryz.prog.cellsOf 23)) = some x0 := (hel 0 _ rfl).trans e0
  have h1 : DataW.trod enc Tryz.prog w base spare held m 3 ((L.drop 1).take (Tryz.prog.cellsOf 3)) = some x1 := (hel 1 _ rfl).trans e1
  rw [show Tryz.prog.cellsOf 23 = 1 by kernel_rfl] at h0
  rw [show Tryz.prog.cellsOf 3 = 1 by kernel_rfl] at h1
  obtain ⟨k0, c0, _, w0⟩ := DataW.trod_int Tryz.underlying23 h0
  obtain ⟨k1, c1, _, w1⟩ := DataW.trod_int Tryz.underlying3 h1
  obtain ⟨a, rfl, ha⟩ := u64_of w0
  exact ⟨a, k1, cut1 c0, cut1 c1, hlen⟩

set_option maxRecDepth 100000 in
theorem open_as {n : Nat} {v : Value} {y : DataW H × List MemPlace} (h : DataW.trod enc Tryz.prog w base spare held n 22 [v] = some y) : ∃ l, As w v l ∧ (l = [] ∨ ∃ es sp, y.1 = .slice es sp ∧ l.length ≤ es.length) := by
  rcases open_slice Tryz.underlying22 h with ⟨hcs, _⟩ | ⟨a, len, cap, m, n', D, Pl, hcs, _, hl, hm, hmm, hx, hel⟩
  · simp at hcs
    exact ⟨[], ⟨none, 0, hcs, (by simp), (by simp [maxLen]), (fun m hm => (by cases hm)), fun j m hm => (by simp at hm)⟩, .inl rfl⟩
  · simp at hcs
    have hlm : len ≤ m := by rw [hmm]; split <;> omega
    have hspot : 0 < len → ∃ b off, a = ⟨b, off, none⟩ := fun h0 => by
      obtain ⟨cs', h1, h2⟩ := hel 0 (by omega)
      rw [cells39] at h1
      obtain ⟨_, hl', hc⟩ := World.cells?_some h1
      obtain ⟨b, off, spot⟩ := a
      have hc0 := World.cell?_spot ((hc 0 (by omega)).trans (List.getElem?_eq_getElem (by omega)))
      have hs : spot = none := by simpa [Addr.add] using hc0
      subst hs
      exact ⟨b, off, rfl⟩
    have hex : ∀ i, i < len → ∃ x : Ac, x.ok ∧ ∃ b off, a = ⟨b, off, none⟩ ∧ w.cell? ⟨b, off + i * 5, none⟩ = some (.int .u64 x.ad) ∧ w.cell? ⟨b, off + i * 5 + 1, none⟩ = some (.int .u64 x.bal) ∧ w.cell? ⟨b, off + i * 5 + 2, none⟩ = some (.int .u64 x.bond) ∧ w.cell? ⟨b, off + i * 5 + 3, none⟩ = some (.int .u64 x.nonce) ∧ w.cell? ⟨b, off + i * 5 + 4, none⟩ = some (.bool x.jail) := by
      intro i hi
      obtain ⟨cs', h1, h2⟩ := hel i (by omega)
      rw [cells39] at h1
      obtain ⟨x, rfl, hok⟩ := open_ac h2
      obtain ⟨_, hl', hc⟩ := World.cells?_some h1
      obtain ⟨b, off, rfl⟩ := hspot (by omega)
      refine ⟨x, hok, b, off, rfl, ?_, ?_, ?_, ?_, ?_⟩
      · have := hc 0 (by omega)
        rw [add5, Addr.add_lit] at this
        simpa [acV, Nat.add_assoc] using this
      · have := hc 1 (by omega)
        rw [add5, Addr.add_lit] at this
        simpa [acV, Nat.add_assoc] using this
      · have := hc 2 (by omega)
        rw [add5, Addr.add_lit] at this
        simpa [acV, Nat.add_assoc] using this
      · have := hc 3 (by omega)
        rw [add5, Addr.add_lit] at this
        simpa [acV, Nat.add_assoc] using this
      · have := hc 4 (by omega)
        rw [add5, Addr.add_lit] at this
        simpa [acV, Nat.add_assoc] using this
    obtain ⟨f, hf⟩ := choose_ltT (⟨0, 0, 0, 0, false⟩ : Ac) hex
    refine ⟨(List.range len).map f, ⟨some a, cap, by rw [hcs]; simp, by simpa using hl, hm, fun x hx => ?_, fun j g hg => ?_⟩, .inr ⟨_, _, by rw [hx], by simp⟩⟩
    · obtain ⟨i, hi, rfl⟩ := List.mem_map.1 hx
      exact (hf i (by simpa using hi)).1
    · rw [List.getElem?_map] at hg
      by_cases hj : j < len
      · rw [List.getElem?_range hj] at hg
        simp at hg
        rw [← hg]
        obtain ⟨_, b, off, rfl, r⟩ := hf j hj
        exact ⟨b, off, rfl, r⟩
      · rw [List.getElem?_eq_none (by simpa using hj)] at hg
        cases hg
theorem open_rl {n : Nat} {L : List Value} {y : DataW H × List MemPlace} (h : DataW.trod enc Tryz.prog w base spare held n 67 L = some y) : ∃ m : Rl, L = rlV m ∧ m.ok := by
  obtain ⟨xs, m, _, _, hlen, hn, hel⟩ := DataW.trod_struct Tryz.underlying67 h
  rw [cells58] at hlen
  have hx : ∀ i, i < 4 → ∃ x, xs[i]? = some x := fun i hi => ⟨xs[i]'(by rw [hn]; exact hi), List.getElem?_eq_getElem _⟩
  obtain ⟨x0, e0⟩ := hx 0 (by omega)
  have h0 : DataW.trod enc Tryz.prog w base spare held m 23 ((L.drop 0).take (Tryz.prog.cellsOf 23)) = some x0 := (hel 0 _ rfl).trans e0
  rw [cells23] at h0
  obtain ⟨k0, c0, _, w0⟩ := DataW.trod_int Tryz.underlying23 h0
  obtain ⟨a0, rfl, ha0⟩ := u64_of w0
  have d0 := cut1 c0
  obtain ⟨x1, e1⟩ := hx 1 (by omega)
  have h1 : DataW.trod enc Tryz.prog w base spare held m 26 ((L.drop 1).take (Tryz.prog.cellsOf 26)) = some x1 := (hel 1 _ rfl).trans e1
  rw [cells35] at h1
  obtain ⟨k1, c1, _, w1⟩ := DataW.trod_int Tryz.underlying26 h1
  obtain ⟨a1, rfl, ha1⟩ := u64_of w1
  have d1 := cut1 c1
  obtain ⟨x2, e2⟩ := hx 2 (by omega)
  have h2 : DataW.trod enc Tryz.prog w base spare held m 23 ((L.drop 2).take (Tryz.prog.cellsOf 23)) = some x2 := (hel 2 _ rfl).trans e2
  rw [cells23] at h2
  obtain ⟨k2, c2, _, w2⟩ := DataW.trod_int Tryz.underlying23 h2
  obtain ⟨a2, rfl, ha2⟩ := u64_of w2
  have d2 := cut1 c2
  obtain ⟨x3, e3⟩ := hx 3 (by omega)
  have h3 : DataW.trod enc Tryz.prog w base spare held m 23 ((L.drop 3).take (Tryz.prog.cellsOf 23)) = some x3 := (hel 3 _ rfl).trans e3
  rw [cells23] at h3
  obtain ⟨k3, c3, _, w3⟩ := DataW.trod_int Tryz.underlying23 h3
  obtain ⟨a3, rfl, ha3⟩ := u64_of w3
  have d3 := cut1 c3
  refine ⟨⟨a0, a1, a2, a3⟩, ?_, ha0, ha1, ha2, ha3⟩
  apply List.ext_getElem?
  intro j
  match j with
  | 0 => simpa [rlV] using d0
  | 1 => simpa [rlV] using d1
  | 2 => simpa [rlV] using d2
  | 3 => simpa [rlV] using d3
  | j + 4 => rw [List.getElem?_eq_none (by omega), List.getElem?_eq_none (by simp [rlV])]
set_option maxRecDepth 100000 in
theorem open_rs {n : Nat} {v : Value} {y : DataW H × List MemPlace} (h : DataW.trod enc Tryz.prog w base spare held n 28 [v] = some y) : ∃ l, Rs w v l ∧ (l = [] ∨ ∃ es sp, y.1 = .slice es sp ∧ l.length ≤ es.length) := by
  rcases open_slice Tryz.underlying28 h with ⟨hcs, _⟩ | ⟨a, len, cap, m, n', D, Pl, hcs, _, hl, hm, hmm, hx, hel⟩
  · simp at hcs
    exact ⟨[], ⟨none, 0, hcs, (by simp), (by simp [maxLen]), (fun m hm => (by cases hm)), fun j m hm => (by simp at hm)⟩, .inl rfl⟩
  · simp at hcs
    have hlm : len ≤ m := by rw [hmm]; split <;> omega
    have hspot : 0 < len → ∃ b off, a = ⟨b, off, none⟩ := fun h0 => by
      obtain ⟨cs', h1, h2⟩ := hel 0 (by omega)
      rw [cells58] at h1
      obtain ⟨_, hl', hc⟩ := World.cells?_some h1
      obtain ⟨b, off, spot⟩ := a
      have hc0 := World.cell?_spot ((hc 0 (by omega)).trans (List.getElem?_eq_getElem (by omega)))
      have hs : spot = none := by simpa [Addr.add] using hc0
      subst hs
      exact ⟨b, off, rfl⟩
    have hex : ∀ i, i < len → ∃ x : Rl, x.ok ∧ ∃ b off, a = ⟨b, off, none⟩ ∧ w.cell? ⟨b, off + i * 4, none⟩ = some (.int .u64 x.ht) ∧ w.cell? ⟨b, off + i * 4 + 1, none⟩ = some (.int .u64 x.ad) ∧ w.cell? ⟨b, off + i * 4 + 2, none⟩ = some (.int .u64 x.born) ∧ w.cell? ⟨b, off + i * 4 + 3, none⟩ = some (.int .u64 x.amt) := by
      intro i hi
      obtain ⟨cs', h1, h2⟩ := hel i (by omega)
      rw [cells58] at h1
      obtain ⟨x, rfl, hok⟩ := open_rl h2
      obtain ⟨_, hl', hc⟩ := World.cells?_some h1
      obtain ⟨b, off, rfl⟩ := hspot (by omega)
      refine ⟨x, hok, b, off, rfl, ?_, ?_, ?_, ?_⟩
      · have := hc 0 (by omega)
        rw [add5, Addr.add_lit] at this
        simpa [rlV, Nat.add_assoc] using this
      · have := hc 1 (by omega)
        rw [add5, Addr.add_lit] at this
        simpa [rlV, Nat.add_assoc] using this
      · have := hc 2 (by omega)
        rw [add5, Addr.add_lit] at this
        simpa [rlV, Nat.add_assoc] using this
      · have := hc 3 (by omega)
        rw [add5, Addr.add_lit] at this
        simpa [rlV, Nat.add_assoc] using this
    obtain ⟨f, hf⟩ := choose_ltT (⟨0, 0, 0, 0⟩ : Rl) hex
    refine ⟨(List.range len).map f, ⟨some a, cap, by rw [hcs]; simp, by simpa using hl, hm, fun x hx => ?_, fun j g hg => ?_⟩, .inr ⟨_, _, by rw [hx], by simp⟩⟩
    · obtain ⟨i, hi, rfl⟩ := List.mem_map.1 hx
      exact (hf i (by simpa using hi)).1
    · rw [List.getElem?_map] at hg
      by_cases hj : j < len
      · rw [List.getElem?_range hj] at hg
        simp at hg
        rw [← hg]
        obtain ⟨_, b, off, rfl, r⟩ := hf j hj
        exact ⟨b, off, rfl, r⟩
      · rw [List.getElem?_eq_none (by simpa using hj)] at hg
        cases hg
/-- A ledger. -/
theorem open_led {n : Nat} {L : List Value} {y : DataW H × List MemPlace} (h : DataW.trod enc Tryz.prog w base spare held n 30 L = some y) : ∃ (va vr : Value) (l : List Ac) (r : List Rl) (b s : Nat), L = [va, vr, .int .u64 b, .int .u64 s] ∧ As w va l ∧ Rs w vr r ∧ b < 18446744073709551616 ∧ s < 18446744073709551616 ∧ ∃ x0 x1 x2 x3, y.1 = .agg [x0, x1, x2, x3] ∧ (l = [] ∨ ∃ es sp, x0 = .slice es sp ∧ l.length ≤ es.length) ∧ (r = [] ∨ ∃ es sp, x1 = .slice es sp ∧ r.length ≤ es.length) := by
  obtain ⟨xs, m, hm, hy, hlen, hn, hel⟩ := DataW.trod_struct Tryz.underlying30 h
  rw [cells29] at hlen
  have hn4 : xs.length = 4 := hn
  obtain ⟨x0, x1, x2, x3, rfl⟩ := four_of hn4
  obtain ⟨v0, v1, v2, v3, rfl⟩ := four_of hlen
  have h0 : DataW.trod enc Tryz.prog w base spare held m 22 (([v0, v1, v2, v3].drop 0).take (Tryz.prog.cellsOf 22)) = some x0 := (hel 0 _ rfl).trans rfl
  have h1 : DataW.trod enc Tryz.prog w base spare held m 28 (([v0, v1, v2, v3].drop 1).take (Tryz.prog.cellsOf 28)) = some x1 := (hel 1 _ rfl).trans rfl
  have h2 : DataW.trod enc Tryz.prog w base spare held m 23 (([v0, v1, v2, v3].drop 2).take (Tryz.prog.cellsOf 23)) = some x2 := (hel 2 _ rfl).trans rfl
  have h3 : DataW.trod enc Tryz.prog w base spare held m 23 (([v0, v1, v2, v3].drop 3).take (Tryz.prog.cellsOf 23)) = some x3 := (hel 3 _ rfl).trans rfl
  rw [cells22] at h0
  rw [cells27] at h1
  rw [cells23] at h2 h3
  obtain ⟨l, A, q0⟩ := open_as (v := v0) h0
  obtain ⟨r, R, q1⟩ := open_rs (v := v1) h1
  obtain ⟨k2, c2, _, w2⟩ := DataW.trod_int Tryz.underlying23 h2
  obtain ⟨k3, c3, _, w3⟩ := DataW.trod_int Tryz.underlying23 h3
  obtain ⟨b, rfl, hb⟩ := u64_of w2
  obtain ⟨s, rfl, hs⟩ := u64_of w3
  have d2 := cut1 c2
  have d3 := cut1 c3
  have e2 : v2 = .int .u64 b := by simpa using d2
  have e3 : v3 = .int .u64 s := by simpa using d3
  subst e2
  subst e3
  exact ⟨v0, v1, l, r, b, s, rfl, A, R, hb, hs, x0.1, x1.1, x2.1, x3.1, by rw [hy]; simp, q0, q1⟩
end
theorem led_sized {H : Type} {ts : List TypeId} {ds : List (DataW H)} (hsz : (DataW.weightsEach Tryz.prog ts ds).all (· ≤ reachBytes) = true) {j : Nat} {d x0 x1 x2 x3 : DataW H} (ht : ts[j]? = some 30) (hd : ds[j]? = some d) (he : d = .agg [x0, x1, x2, x3]) {l : List Ac} {r : List Rl}
    (hw : l = [] ∨ ∃ es sp, x0 = .slice es sp ∧ l.length ≤ es.length) (hv : r = [] ∨ ∃ es sp, x1 = .slice es sp ∧ r.length ≤ es.length) : l.length * 40 ≤ 140737488351232 ∧ r.length * 32 ≤ 140737488351232 := by
  subst he
  constructor
  · rcases hw with rfl | ⟨es, sp, rfl, hl⟩
    · simp
    · have := List.all_eq_true.1 hsz _ (DataW.weights_mem_each ht hd ((es.length + sp.length) * Tryz.prog.bytesOf 50) (by simp [DataW.weights, Tryz.underlying30, DataW.weightsEach, Tryz.underlying22]))
      rw [bytes39] at this
      have h2 : (es.length + sp.length) * 40 ≤ 140737488351232 := of_decide_eq_true this
      omega
  · rcases hv with rfl | ⟨es, sp, rfl, hl⟩
    · simp
    · have := List.all_eq_true.1 hsz _ (DataW.weights_mem_each ht hd ((es.length + sp.length) * Tryz.prog.bytesOf 67) (by simp [DataW.weights, Tryz.underlying30, DataW.weightsEach, Tryz.underlying28]))
      rw [bytes58] at this
      have h2 : (es.length + sp.length) * 32 ≤ 140737488351232 := of_decide_eq_true this
      omega


end Go.Proofs.YtaoigopjfelgpaaGreatDoor


