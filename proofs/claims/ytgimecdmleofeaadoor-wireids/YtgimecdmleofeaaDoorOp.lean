/- Transactions, headers and certificates, read. -/
import Derived.Test.YtgimecdmleofeaaDoorS1
import Derived.Test.YtgimecdmleofeaaDoorLaid
import Derived.ProofKit
import Derived.OpenShut
import Derived.ShutString
import Derived.ChangeOld
import Derived.SizedLaws
import Derived.Lib.SmallJoins
import Derived.Deep.Slices
import Derived.Carry
namespace Go.Proofs.YtgimecdmleofeaaDoor
open Go.ChangeShapes Go.WideShapes Go.ChangeAt Go.RowKit Go.Joins Go.Deep
set_option linter.unusedVariables false

theorem laidOut : laidOutB Tryd.prog = true := by kernel_rfl
theorem cells3 : Tryd.prog.cellsOf 3 = 1 := by kernel_rfl
theorem cells9 : Tryd.prog.cellsOf 9 = 1 := by kernel_rfl
theorem cells22 : Tryd.prog.cellsOf 22 = 1 := by kernel_rfl
theorem cells23 : Tryd.prog.cellsOf 23 = 1 := by kernel_rfl
theorem cells25 : Tryd.prog.cellsOf 25 = 16 := by kernel_rfl
theorem cells27 : Tryd.prog.cellsOf 27 = 22 := by kernel_rfl
theorem cells29 : Tryd.prog.cellsOf 29 = 32 := by kernel_rfl
theorem cells31 : Tryd.prog.cellsOf 31 = 228 := by kernel_rfl
theorem cells32 : Tryd.prog.cellsOf 32 = 1 := by kernel_rfl
theorem cells34 : Tryd.prog.cellsOf 34 = 35 := by kernel_rfl
theorem cells108 : Tryd.prog.cellsOf 108 = 18 := by kernel_rfl
theorem add3 (a : Addr) (l j : Nat) : (a.add l).add j = a.add (l + j) := by
  obtain ⟨b, o, s⟩ := a
  unfold Addr.add
  by_cases hl : l = 0
  · subst hl; simp
  · by_cases hj : j = 0
    · subst hj; simp [hl]
    · simp [hl, hj, Nat.add_assoc]
theorem choose_lt0 {α : Type} (x0 : α) {n : Nat} {p : Nat → α → Prop} (h : ∀ i, i < n → ∃ x, p i x) : ∃ f : Nat → α, ∀ i, i < n → p i (f i) :=
  ⟨fun i => if hi : i < n then (h i hi).choose else x0, fun i hi => by simp only [hi, dite_true]; exact (h i hi).choose_spec⟩
theorem one_of {α : Type} {L : List α} (h : L.length = 1) : ∃ v, L = [v] := List.length_eq_one_iff.1 h
theorem four_of {α : Type} {L : List α} (h : L.length = 4) : ∃ a b c d, L = [a, b, c, d] := by
  rcases L with _ | ⟨a, _ | ⟨b, _ | ⟨c, _ | ⟨d, _ | ⟨e, L⟩⟩⟩⟩⟩ <;> first | exact ⟨_, _, _, _, rfl⟩ | (simp at h)
theorem u64_of {n : Int} (h : (Lit.int .u64 n).wf = true) : ∃ a : Nat, n = (a : Int) ∧ a < 18446744073709551616 := by
  simp only [Lit.wf, Bool.and_eq_true, decide_eq_true_eq] at h
  rw [show IntKind.u64.min = 0 by decide, show IntKind.u64.max = 18446744073709551615 by decide] at h
  exact ⟨n.toNat, by omega, by omega⟩
theorem i64_of {n : Int} (h : (Lit.int .i64 n).wf = true) : -9223372036854775808 ≤ n ∧ n < 9223372036854775808 := by
  simp only [Lit.wf, Bool.and_eq_true, decide_eq_true_eq] at h
  rw [show IntKind.i64.min = -9223372036854775808 by decide, show IntKind.i64.max = 9223372036854775807 by decide] at h
  omega

section
variable {H : Type} {enc : TypeId × Value → H} {w : World} {base : Nat} {spare : Nat → Bool} {held : Bool}
def byteOfV : Value → UInt8
  | .int _ k => UInt8.ofNat k.toNat
  | _ => 0
theorem open_arr {n t m : Nat} {L : List Value} {y : DataW H × List MemPlace} (hu : Tryd.prog.underlying t = some (.array m 5)) (hc : Tryd.prog.cellsOf t = m) (h : DataW.trod enc Tryd.prog w base spare held n t L = some y) : ∃ X : List UInt8, X.length = m ∧ L = X.map bv := by
  obtain ⟨xs, m1, _, _, hlen, hn, hel⟩ := DataW.trod_array hu h
  rw [hc] at hlen
  refine ⟨L.map byteOfV, by simpa using hlen, ?_⟩
  apply List.ext_getElem?
  intro j
  by_cases hj : j < m
  · have h0 := hel j hj
    obtain ⟨x, hxj⟩ : ∃ x, xs[j]? = some x := ⟨xs[j]'(by omega), List.getElem?_eq_getElem (by omega)⟩
    rw [hxj, cells5, Nat.mul_one] at h0
    obtain ⟨k, e1, _, wk⟩ := DataW.trod_int Tryd.underlying5 h0
    have hc : L[j]? = some (.int .u8 k) := by
      have := congrArg (·[0]?) e1
      simpa [List.getElem?_take, List.getElem?_drop] using this
    have hb := bounds_u8 wk
    rw [hc]
    simp [hc, byteOfV, bv]
    omega
  · rw [List.getElem?_eq_none (by omega), List.getElem?_eq_none (by simp; omega)]
theorem cut1 {L : List Value} {o : Nat} {v : Value} (h : (L.drop o).take 1 = [v]) : L[o]? = some v := by
  have := congrArg (·[0]?) h
  simpa [List.getElem?_take, List.getElem?_drop] using this
theorem open_tx {n : Nat} {L : List Value} {y : DataW H × List MemPlace} (h : DataW.trod enc Tryd.prog w base spare held n 27 L = some y) : ∃ v : Tx, v.ok ∧ L = v.cs := by
  obtain ⟨xs, m, _, _, hlen, hn, hel⟩ := DataW.trod_struct Tryd.underlying27 h
  rw [cells27] at hlen
  have hx : ∀ i, i < 7 → ∃ x, xs[i]? = some x := fun i hi => ⟨xs[i]'(by rw [hn]; exact hi), List.getElem?_eq_getElem _⟩
  obtain ⟨x0, e0⟩ := hx 0 (by omega)
  obtain ⟨x1, e1⟩ := hx 1 (by omega)
  obtain ⟨x2, e2⟩ := hx 2 (by omega)
  obtain ⟨x3, e3⟩ := hx 3 (by omega)
  obtain ⟨x4, e4⟩ := hx 4 (by omega)
  obtain ⟨x5, e5⟩ := hx 5 (by omega)
  obtain ⟨x6, e6⟩ := hx 6 (by omega)
  have h0 : DataW.trod enc Tryd.prog w base spare held m 3 ((L.drop 0).take (Tryd.prog.cellsOf 3)) = some x0 := (hel 0 _ rfl).trans e0
  rw [cells3] at h0
  have h1 : DataW.trod enc Tryd.prog w base spare held m 23 ((L.drop 1).take (Tryd.prog.cellsOf 23)) = some x1 := (hel 1 _ rfl).trans e1
  rw [cells23] at h1
  have h2 : DataW.trod enc Tryd.prog w base spare held m 23 ((L.drop 2).take (Tryd.prog.cellsOf 23)) = some x2 := (hel 2 _ rfl).trans e2
  rw [cells23] at h2
  have h3 : DataW.trod enc Tryd.prog w base spare held m 22 ((L.drop 3).take (Tryd.prog.cellsOf 22)) = some x3 := (hel 3 _ rfl).trans e3
  rw [cells22] at h3
  have h4 : DataW.trod enc Tryd.prog w base spare held m 22 ((L.drop 4).take (Tryd.prog.cellsOf 22)) = some x4 := (hel 4 _ rfl).trans e4
  rw [cells22] at h4
  have h5 : DataW.trod enc Tryd.prog w base spare held m 22 ((L.drop 5).take (Tryd.prog.cellsOf 22)) = some x5 := (hel 5 _ rfl).trans e5
  rw [cells22] at h5
  have h6 : DataW.trod enc Tryd.prog w base spare held m 25 ((L.drop 6).take (Tryd.prog.cellsOf 25)) = some x6 := (hel 6 _ rfl).trans e6
  rw [cells25] at h6
  obtain ⟨k, c0, _, w0⟩ := DataW.trod_int Tryd.underlying3 h0
  obtain ⟨fr', c1, _, w1⟩ := DataW.trod_int Tryd.underlying23 h1
  have q1 := bounds_u64 w1
  obtain ⟨fr, rfl⟩ : ∃ k : Nat, fr' = (k : Int) := ⟨fr'.toNat, by omega⟩
  obtain ⟨tt', c2, _, w2⟩ := DataW.trod_int Tryd.underlying23 h2
  have q2 := bounds_u64 w2
  obtain ⟨tt, rfl⟩ : ∃ k : Nat, tt' = (k : Int) := ⟨tt'.toNat, by omega⟩
  obtain ⟨am', c3, _, w3⟩ := DataW.trod_int Tryd.underlying22 h3
  have q3 := bounds_u64 w3
  obtain ⟨am, rfl⟩ : ∃ k : Nat, am' = (k : Int) := ⟨am'.toNat, by omega⟩
  obtain ⟨fe', c4, _, w4⟩ := DataW.trod_int Tryd.underlying22 h4
  have q4 := bounds_u64 w4
  obtain ⟨fe, rfl⟩ : ∃ k : Nat, fe' = (k : Int) := ⟨fe'.toNat, by omega⟩
  obtain ⟨nn', c5, _, w5⟩ := DataW.trod_int Tryd.underlying22 h5
  have q5 := bounds_u64 w5
  obtain ⟨nn, rfl⟩ : ∃ k : Nat, nn' = (k : Int) := ⟨nn'.toNat, by omega⟩
  obtain ⟨Y, lY, c6⟩ := open_arr Tryd.underlying25 cells25 h6
  refine ⟨⟨k, fr, tt, am, fe, nn, Y⟩, ⟨lY, by show fr < _; omega, by show tt < _; omega, by show am < _; omega, by show fe < _; omega, by show nn < _; omega⟩, ?_⟩
  have d : ∀ o, L.drop o = (L.drop o).take 1 ++ L.drop (o + 1) := fun o => by
    rw [← List.drop_drop]
    exact (List.take_append_drop 1 (L.drop o)).symm
  have s6 : L.drop 6 = Y.map bv := by
    rw [← c6]
    exact (List.take_of_length_le (by simp; omega)).symm
  have s0 : L = (L.drop 0).take 1 ++ ((L.drop 1).take 1 ++ ((L.drop 2).take 1 ++ ((L.drop 3).take 1 ++ ((L.drop 4).take 1 ++ ((L.drop 5).take 1 ++ L.drop 6))))) := by
    rw [← d 5, ← d 4, ← d 3, ← d 2, ← d 1, ← d 0]
    rfl
  rw [s0, c0, c1, c2, c3, c4, c5, s6]
  simp [Tx.cs]
theorem open_mk {n : Nat} {L : List Value} {y : DataW H × List MemPlace} (h : DataW.trod enc Tryd.prog w base spare held n 108 L = some y) : ∃ m : Mk, L = mkL m ∧ m.ok := by
  obtain ⟨xs, m, _, _, hlen, hn, hel⟩ := DataW.trod_struct Tryd.underlying108 h
  rw [cells108] at hlen
  have hx : ∀ i, i < 3 → ∃ x, xs[i]? = some x := fun i hi => ⟨xs[i]'(by rw [hn]; exact hi), List.getElem?_eq_getElem _⟩
  obtain ⟨x0, e0⟩ := hx 0 (by omega)
  obtain ⟨x1, e1⟩ := hx 1 (by omega)
  obtain ⟨x2, e2⟩ := hx 2 (by omega)
  have h0 : DataW.trod enc Tryd.prog w base spare held m 3 ((L.drop 0).take (Tryd.prog.cellsOf 3)) = some x0 := (hel 0 _ rfl).trans e0
  have h1 : DataW.trod enc Tryd.prog w base spare held m 22 ((L.drop 1).take (Tryd.prog.cellsOf 22)) = some x1 := (hel 1 _ rfl).trans e1
  have h2 : DataW.trod enc Tryd.prog w base spare held m 25 ((L.drop 2).take (Tryd.prog.cellsOf 25)) = some x2 := (hel 2 _ rfl).trans e2
  rw [cells3] at h0
  rw [cells22] at h1
  rw [cells25] at h2
  obtain ⟨k0, c0, _, w0⟩ := DataW.trod_int Tryd.underlying3 h0
  obtain ⟨k1, c1, _, w1⟩ := DataW.trod_int Tryd.underlying22 h1
  obtain ⟨X, hX, eX⟩ := open_arr Tryd.underlying25 cells25 h2
  obtain ⟨a, rfl, ha⟩ := u64_of w1
  refine ⟨⟨k0, a, X⟩, ?_, i64_of w0, ha, hX⟩
  have d : ∀ o, L.drop o = (L.drop o).take 1 ++ L.drop (o + 1) := fun o => by
    rw [← List.drop_drop]
    exact (List.take_append_drop 1 (L.drop o)).symm
  have s2 : L.drop 2 = X.map bv := by
    rw [← eX]
    exact (List.take_of_length_le (by simp; omega)).symm
  have s0 : L = (L.drop 0).take 1 ++ ((L.drop 1).take 1 ++ L.drop 2) := by
    rw [← d 1, ← d 0]
    rfl
  rw [s0, c0, c1, s2]
  rfl
set_option maxRecDepth 100000 in
theorem open_ks {n : Nat} {v : Value} {y : DataW H × List MemPlace} (h : DataW.trod enc Tryd.prog w base spare held n 32 [v] = some y) : ∃ l, Ks w v l ∧ (l = [] ∨ ∃ es sp, y.1 = .slice es sp ∧ l.length ≤ es.length) := by
  rcases open_slice Tryd.underlying32 h with ⟨hcs, _⟩ | ⟨a, len, cap, m, n', D, Pl, hcs, _, hl, hm, hmm, hx, hel⟩
  · simp at hcs
    exact ⟨[], ⟨none, 0, hcs, (by simp), (by simp [maxLen]), (fun m hm => (by cases hm)), fun j m hm => (by simp at hm)⟩, .inl rfl⟩
  · simp at hcs
    have hlm : len ≤ m := by rw [hmm]; split <;> omega
    have hspot : 0 < len → ∃ b off, a = ⟨b, off, none⟩ := fun h0 => by
      obtain ⟨cs', h1, h2⟩ := hel 0 (by omega)
      rw [cells108] at h1
      obtain ⟨_, hl', hc⟩ := World.cells?_some h1
      obtain ⟨b, off, spot⟩ := a
      have hc0 := World.cell?_spot ((hc 0 (by omega)).trans (List.getElem?_eq_getElem (by omega)))
      have hs : spot = none := by simpa [Addr.add] using hc0
      subst hs
      exact ⟨b, off, rfl⟩
    have hex : ∀ i, i < len → ∃ x : Mk, x.ok ∧ ∃ b off, a = ⟨b, off, none⟩ ∧ ∀ k u, (mkL x)[k]? = some u → w.cell? ⟨b, off + i * 18 + k, none⟩ = some u := by
      intro i hi
      obtain ⟨cs', h1, h2⟩ := hel i (by omega)
      rw [cells108] at h1
      obtain ⟨x, rfl, hok⟩ := open_mk h2
      obtain ⟨_, hl', hc⟩ := World.cells?_some h1
      obtain ⟨b, off, rfl⟩ := hspot (by omega)
      refine ⟨x, hok, b, off, rfl, fun k u hu => ?_⟩
      have hk : k < 18 := by have := (List.getElem?_eq_some_iff.1 hu).1; rwa [mkL_len hok] at this
      have := hc k hk
      rw [add3, Addr.add_lit, hu] at this
      simpa [Nat.add_assoc] using this
    obtain ⟨f, hf⟩ := choose_lt0 mk0 hex
    refine ⟨(List.range len).map f, ⟨some a, cap, by rw [hcs]; simp, by simpa using hl, hm, fun x hx => ?_, fun j g hg => ?_⟩, .inr ⟨_, _, by rw [hx], by simp⟩⟩
    · obtain ⟨i, hi, rfl⟩ := List.mem_map.1 hx
      exact (hf i (by simpa using hi)).1
    · rw [List.getElem?_map] at hg
      by_cases hj : j < len
      · rw [List.getElem?_range hj] at hg
        simp at hg
        rw [← hg]
        obtain ⟨_, b, off, rfl, r⟩ := hf j hj
        exact ⟨b, off, rfl, r⟩
      · rw [List.getElem?_eq_none (by simpa using hj)] at hg
        cases hg
/-- A certificate. -/
theorem open_ct {n : Nat} {L : List Value} {y : DataW H × List MemPlace} (h : DataW.trod enc Tryd.prog w base spare held n 34 L = some y) : ∃ (hh : Nat) (r : Int) (id : List UInt8) (v : Value) (l : List Mk), id.length = 32 ∧ L = ctL hh r id v ∧ Ks w v l ∧ (l = [] ∨ ∃ x0 x1 x2 es sp, y.1 = .agg [x0, x1, x2, .slice es sp] ∧ l.length ≤ es.length) := by
  obtain ⟨xs, m, hm, hy, hlen, hn, hel⟩ := DataW.trod_struct Tryd.underlying34 h
  rw [cells34] at hlen
  have hn4 : xs.length = 4 := hn
  obtain ⟨x0, x1, x2, x3, rfl⟩ := four_of hn4
  have h0 : DataW.trod enc Tryd.prog w base spare held m 22 ((L.drop 0).take (Tryd.prog.cellsOf 22)) = some x0 := (hel 0 _ rfl).trans rfl
  have h1 : DataW.trod enc Tryd.prog w base spare held m 3 ((L.drop 1).take (Tryd.prog.cellsOf 3)) = some x1 := (hel 1 _ rfl).trans rfl
  have h2 : DataW.trod enc Tryd.prog w base spare held m 29 ((L.drop 2).take (Tryd.prog.cellsOf 29)) = some x2 := (hel 2 _ rfl).trans rfl
  have h3 : DataW.trod enc Tryd.prog w base spare held m 32 ((L.drop 34).take (Tryd.prog.cellsOf 32)) = some x3 := (hel 3 _ rfl).trans rfl
  rw [cells22] at h0
  rw [cells3] at h1
  rw [cells29] at h2
  rw [cells32] at h3
  obtain ⟨k0, c0, _, w0⟩ := DataW.trod_int Tryd.underlying22 h0
  obtain ⟨k1, c1, _, _⟩ := DataW.trod_int Tryd.underlying3 h1
  obtain ⟨X, hX, eX⟩ := open_arr Tryd.underlying29 cells29 h2
  obtain ⟨a, rfl, ha⟩ := u64_of w0
  obtain ⟨v, ev⟩ := one_of (show ((L.drop 34).take 1).length = 1 by simp; omega)
  rw [ev] at h3
  obtain ⟨l, K, q⟩ := open_ks (v := v) h3
  refine ⟨a, k1, X, v, l, hX, ?_, K, ?_⟩
  · have d : ∀ o, L.drop o = (L.drop o).take 1 ++ L.drop (o + 1) := fun o => by
      rw [← List.drop_drop]
      exact (List.take_append_drop 1 (L.drop o)).symm
    have s2 : L.drop 2 = X.map bv ++ L.drop 34 := by
      rw [← eX, show (34 : Nat) = 2 + 32 from rfl, ← List.drop_drop]
      exact (List.take_append_drop 32 (L.drop 2)).symm
    have s34 : L.drop 34 = [v] := by
      rw [← ev]
      exact (List.take_of_length_le (by simp; omega)).symm
    have s0 : L = (L.drop 0).take 1 ++ ((L.drop 1).take 1 ++ L.drop 2) := by
      rw [← d 1, ← d 0]
      rfl
    rw [s0, c0, c1, s2, s34]
    rfl
  · rcases q with q | ⟨es, sp, q, r⟩
    · exact .inl q
    · refine .inr ⟨x0.1, x1.1, x2.1, es, sp, ?_, r⟩
      rw [hy]
      simp [q]
theorem open_hd {n : Nat} {L : List Value} {y : DataW H × List MemPlace} (h : DataW.trod enc Tryd.prog w base spare held n 31 L = some y) : ∃ x : Hd, x.ok ∧ L = x.cs := by
  obtain ⟨xs, m, _, _, hlen, hn, hel⟩ := DataW.trod_struct Tryd.underlying31 h
  rw [cells31] at hlen
  have hx : ∀ i, i < 11 → ∃ x, xs[i]? = some x := fun i hi => ⟨xs[i]'(by rw [hn]; exact hi), List.getElem?_eq_getElem _⟩
  obtain ⟨x0, e0⟩ := hx 0 (by omega)
  obtain ⟨x1, e1⟩ := hx 1 (by omega)
  obtain ⟨x2, e2⟩ := hx 2 (by omega)
  obtain ⟨x3, e3⟩ := hx 3 (by omega)
  obtain ⟨x4, e4⟩ := hx 4 (by omega)
  obtain ⟨x5, e5⟩ := hx 5 (by omega)
  obtain ⟨x6, e6⟩ := hx 6 (by omega)
  obtain ⟨x7, e7⟩ := hx 7 (by omega)
  obtain ⟨x8, e8⟩ := hx 8 (by omega)
  obtain ⟨x9, e9⟩ := hx 9 (by omega)
  obtain ⟨x10, e10⟩ := hx 10 (by omega)
  have h0 : DataW.trod enc Tryd.prog w base spare held m 9 ((L.drop 0).take (Tryd.prog.cellsOf 9)) = some x0 := (hel 0 _ rfl).trans e0
  rw [cells9] at h0
  have h1 : DataW.trod enc Tryd.prog w base spare held m 22 ((L.drop 1).take (Tryd.prog.cellsOf 22)) = some x1 := (hel 1 _ rfl).trans e1
  rw [cells22] at h1
  have h2 : DataW.trod enc Tryd.prog w base spare held m 22 ((L.drop 2).take (Tryd.prog.cellsOf 22)) = some x2 := (hel 2 _ rfl).trans e2
  rw [cells22] at h2
  have h3 : DataW.trod enc Tryd.prog w base spare held m 29 ((L.drop 3).take (Tryd.prog.cellsOf 29)) = some x3 := (hel 3 _ rfl).trans e3
  rw [cells29] at h3
  have h4 : DataW.trod enc Tryd.prog w base spare held m 29 ((L.drop 35).take (Tryd.prog.cellsOf 29)) = some x4 := (hel 4 _ rfl).trans e4
  rw [cells29] at h4
  have h5 : DataW.trod enc Tryd.prog w base spare held m 29 ((L.drop 67).take (Tryd.prog.cellsOf 29)) = some x5 := (hel 5 _ rfl).trans e5
  rw [cells29] at h5
  have h6 : DataW.trod enc Tryd.prog w base spare held m 29 ((L.drop 99).take (Tryd.prog.cellsOf 29)) = some x6 := (hel 6 _ rfl).trans e6
  rw [cells29] at h6
  have h7 : DataW.trod enc Tryd.prog w base spare held m 29 ((L.drop 131).take (Tryd.prog.cellsOf 29)) = some x7 := (hel 7 _ rfl).trans e7
  rw [cells29] at h7
  have h8 : DataW.trod enc Tryd.prog w base spare held m 29 ((L.drop 163).take (Tryd.prog.cellsOf 29)) = some x8 := (hel 8 _ rfl).trans e8
  rw [cells29] at h8
  have h9 : DataW.trod enc Tryd.prog w base spare held m 29 ((L.drop 195).take (Tryd.prog.cellsOf 29)) = some x9 := (hel 9 _ rfl).trans e9
  rw [cells29] at h9
  have h10 : DataW.trod enc Tryd.prog w base spare held m 23 ((L.drop 227).take (Tryd.prog.cellsOf 23)) = some x10 := (hel 10 _ rfl).trans e10
  rw [cells23] at h10
  obtain ⟨ch, c0, _⟩ := DataW.trod_string Tryd.underlying9 h0
  obtain ⟨k1, c1, _, w1⟩ := DataW.trod_int Tryd.underlying22 h1
  obtain ⟨k2, c2, _, w2⟩ := DataW.trod_int Tryd.underlying22 h2
  obtain ⟨k10, c10, _, w10⟩ := DataW.trod_int Tryd.underlying23 h10
  obtain ⟨a, rfl, ha⟩ := u64_of w1
  obtain ⟨b, rfl, hb⟩ := u64_of w2
  obtain ⟨c, rfl, hc⟩ := u64_of w10
  obtain ⟨A0, l0, q0⟩ := open_arr Tryd.underlying29 cells29 h3
  obtain ⟨A1, l1, q1⟩ := open_arr Tryd.underlying29 cells29 h4
  obtain ⟨A2, l2, q2⟩ := open_arr Tryd.underlying29 cells29 h5
  obtain ⟨A3, l3, q3⟩ := open_arr Tryd.underlying29 cells29 h6
  obtain ⟨A4, l4, q4⟩ := open_arr Tryd.underlying29 cells29 h7
  obtain ⟨A5, l5, q5⟩ := open_arr Tryd.underlying29 cells29 h8
  obtain ⟨A6, l6, q6⟩ := open_arr Tryd.underlying29 cells29 h9
  refine ⟨⟨ch, a, b, A0, A1, A2, A3, A4, A5, A6, c⟩, ⟨ha, hb, hc, Nat.zero_le _, l0, l1, l2, l3, l4, l5, l6⟩, ?_⟩
  have d : ∀ o, L.drop o = (L.drop o).take 1 ++ L.drop (o + 1) := fun o => by
    rw [← List.drop_drop]
    exact (List.take_append_drop 1 (L.drop o)).symm
  have d32 : ∀ o, L.drop o = (L.drop o).take 32 ++ L.drop (o + 32) := fun o => by
    rw [← List.drop_drop]
    exact (List.take_append_drop 32 (L.drop o)).symm
  have s227 : L.drop 227 = [.int .u64 c] := by
    rw [← c10]
    exact (List.take_of_length_le (by simp; omega)).symm
  have s195 : L.drop 195 = A6.map bv ++ L.drop 227 := by rw [d32 195, q6]
  have s163 : L.drop 163 = A5.map bv ++ L.drop 195 := by rw [d32 163, q5]
  have s131 : L.drop 131 = A4.map bv ++ L.drop 163 := by rw [d32 131, q4]
  have s99 : L.drop 99 = A3.map bv ++ L.drop 131 := by rw [d32 99, q3]
  have s67 : L.drop 67 = A2.map bv ++ L.drop 99 := by rw [d32 67, q2]
  have s35 : L.drop 35 = A1.map bv ++ L.drop 67 := by rw [d32 35, q1]
  have s3 : L.drop 3 = A0.map bv ++ L.drop 35 := by rw [d32 3, q0]
  have s0 : L = (L.drop 0).take 1 ++ ((L.drop 1).take 1 ++ ((L.drop 2).take 1 ++ L.drop 3)) := by
    rw [← d 2, ← d 1, ← d 0]
    rfl
  rw [s0, c0, c1, c2, s3, s35, s67, s99, s131, s163, s195, s227]
  simp [Hd.cs]
end
end Go.Proofs.YtgimecdmleofeaaDoor
