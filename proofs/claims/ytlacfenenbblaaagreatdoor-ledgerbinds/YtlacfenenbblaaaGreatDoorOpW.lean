/- A witness, read. -/
import Derived.Test.YtlacfenenbblaaaGreatDoorY2
import Derived.Test.YtlacfenenbblaaaGreatDoorLaid
import Derived.ProofKit
import Derived.OpenShut
import Derived.ShutString
import Derived.ChangeOld
import Derived.SizedLaws
import Derived.Lib.SmallJoins
import Derived.Deep.Slices
import Derived.Carry
namespace Go.Proofs.YtlacfenenbblaaaGreatDoor.Wit
open Go.ChangeShapes Go.WideShapes Go.ChangeAt Go.RowKit Go.Joins Go.Deep
set_option linter.unusedVariables false

theorem laidOut : laidOutB Tryz.prog = true := by kernel_rfl
theorem cells3 : Tryz.prog.cellsOf 3 = 1 := by kernel_rfl
theorem cells4 : Tryz.prog.cellsOf 4 = 1 := by kernel_rfl
theorem cells5 : Tryz.prog.cellsOf 5 = 1 := by kernel_rfl
theorem cells23 : Tryz.prog.cellsOf 29 = 32 := by kernel_rfl
theorem cells24 : Tryz.prog.cellsOf 24 = 1 := by kernel_rfl
theorem cells25 : Tryz.prog.cellsOf 27 = 1 := by kernel_rfl
theorem cells26 : Tryz.prog.cellsOf 22 = 1 := by kernel_rfl
theorem cells27 : Tryz.prog.cellsOf 30 = 1 := by kernel_rfl
theorem cells29 : Tryz.prog.cellsOf 32 = 34 := by kernel_rfl
theorem cells32 : Tryz.prog.cellsOf 38 = 5 := by kernel_rfl
theorem cells55 : Tryz.prog.cellsOf 45 = 1 := by kernel_rfl
theorem cells57 : Tryz.prog.cellsOf 47 = 3 := by kernel_rfl
theorem add3 (a : Addr) (l j : Nat) : (a.add l).add j = a.add (l + j) := by
  obtain ⟨b, o, s⟩ := a
  unfold Addr.add
  by_cases hl : l = 0
  · subst hl; simp
  · by_cases hj : j = 0
    · subst hj; simp [hl]
    · simp [hl, hj, Nat.add_assoc]
theorem choose_lt0 {α : Type} (x0 : α) {n : Nat} {p : Nat → α → Prop} (h : ∀ i, i < n → ∃ x, p i x) : ∃ f : Nat → α, ∀ i, i < n → p i (f i) :=
  ⟨fun i => if hi : i < n then (h i hi).choose else x0, fun i hi => by simp only [hi, dite_true]; exact (h i hi).choose_spec⟩
theorem one_of {α : Type} {L : List α} (h : L.length = 1) : ∃ v, L = [v] := List.length_eq_one_iff.1 h
theorem u64_of {n : Int} (h : (Lit.int .u64 n).wf = true) : ∃ a : Nat, n = (a : Int) ∧ a < 18446744073709551616 := by
  simp only [Lit.wf, Bool.and_eq_true, decide_eq_true_eq] at h
  rw [show IntKind.u64.min = 0 by decide, show IntKind.u64.max = 18446744073709551615 by decide] at h
  exact ⟨n.toNat, by omega, by omega⟩
theorem three_of {α : Type} {L : List α} (h : L.length = 3) : ∃ a b c, L = [a, b, c] := by
  rcases L with _ | ⟨a, _ | ⟨b, _ | ⟨c, _ | ⟨d, L⟩⟩⟩⟩ <;> first | exact ⟨_, _, _, rfl⟩ | (simp at h)

section
variable {H : Type} {enc : TypeId × Value → H} {w : World} {base : Nat} {spare : Nat → Bool} {held : Bool}
def byteOfV : Value → UInt8
  | .int _ k => UInt8.ofNat k.toNat
  | _ => 0
theorem open_arr {n t m : Nat} {L : List Value} {y : DataW H × List MemPlace} (hu : Tryz.prog.underlying t = some (.array m 5)) (hc : Tryz.prog.cellsOf t = m) (h : DataW.trod enc Tryz.prog w base spare held n t L = some y) : ∃ X : List UInt8, X.length = m ∧ L = X.map bv := by
  obtain ⟨xs, m1, _, _, hlen, hn, hel⟩ := DataW.trod_array hu h
  rw [hc] at hlen
  refine ⟨L.map byteOfV, by simpa using hlen, ?_⟩
  apply List.ext_getElem?
  intro j
  by_cases hj : j < m
  · have h0 := hel j hj
    obtain ⟨x, hxj⟩ : ∃ x, xs[j]? = some x := ⟨xs[j]'(by omega), List.getElem?_eq_getElem (by omega)⟩
    rw [hxj, cells5, Nat.mul_one] at h0
    obtain ⟨k, e1, _, wk⟩ := DataW.trod_int Tryz.underlying5 h0
    have hc : L[j]? = some (.int .u8 k) := by
      have := congrArg (·[0]?) e1
      simpa [List.getElem?_take, List.getElem?_drop] using this
    have hb := bounds_u8 wk
    rw [hc]
    simp [hc, byteOfV, bv]
    omega
  · rw [List.getElem?_eq_none (by omega), List.getElem?_eq_none (by simp; omega)]
theorem cut1 {L : List Value} {o : Nat} {v : Value} (h : (L.drop o).take 1 = [v]) : L[o]? = some v := by
  have := congrArg (·[0]?) h
  simpa [List.getElem?_take, List.getElem?_drop] using this
theorem open_ac {n : Nat} {L : List Value} {y : DataW H × List MemPlace} (h : DataW.trod enc Tryz.prog w base spare held n 38 L = some y) : ∃ m : Ac, L = acs m ∧ m.ok := by
  obtain ⟨xs, m, _, _, hlen, hn, hel⟩ := DataW.trod_struct Tryz.underlying38 h
  rw [cells32] at hlen
  have hx : ∀ i, i < 5 → ∃ x, xs[i]? = some x := fun i hi => ⟨xs[i]'(by rw [hn]; exact hi), List.getElem?_eq_getElem _⟩
  obtain ⟨x0, e0⟩ := hx 0 (by omega)
  have h0 : DataW.trod enc Tryz.prog w base spare held m 27 ((L.drop 0).take (Tryz.prog.cellsOf 27)) = some x0 := (hel 0 _ rfl).trans e0
  rw [cells25] at h0
  obtain ⟨x1, e1⟩ := hx 1 (by omega)
  have h1 : DataW.trod enc Tryz.prog w base spare held m 24 ((L.drop 1).take (Tryz.prog.cellsOf 24)) = some x1 := (hel 1 _ rfl).trans e1
  rw [cells24] at h1
  obtain ⟨x2, e2⟩ := hx 2 (by omega)
  have h2 : DataW.trod enc Tryz.prog w base spare held m 24 ((L.drop 2).take (Tryz.prog.cellsOf 24)) = some x2 := (hel 2 _ rfl).trans e2
  rw [cells24] at h2
  obtain ⟨x3, e3⟩ := hx 3 (by omega)
  have h3 : DataW.trod enc Tryz.prog w base spare held m 24 ((L.drop 3).take (Tryz.prog.cellsOf 24)) = some x3 := (hel 3 _ rfl).trans e3
  rw [cells24] at h3
  obtain ⟨x4, e4⟩ := hx 4 (by omega)
  have h4 : DataW.trod enc Tryz.prog w base spare held m 4 ((L.drop 4).take (Tryz.prog.cellsOf 4)) = some x4 := (hel 4 _ rfl).trans e4
  rw [cells4] at h4
  obtain ⟨k0, c0, _, w0⟩ := DataW.trod_int Tryz.underlying27 h0
  obtain ⟨k1, c1, _, w1⟩ := DataW.trod_int Tryz.underlying24 h1
  obtain ⟨k2, c2, _, w2⟩ := DataW.trod_int Tryz.underlying24 h2
  obtain ⟨k3, c3, _, w3⟩ := DataW.trod_int Tryz.underlying24 h3
  obtain ⟨k4, c4, _⟩ := DataW.trod_bool Tryz.underlying4 h4
  obtain ⟨a0, rfl, ha0⟩ := u64_of w0
  obtain ⟨a1, rfl, ha1⟩ := u64_of w1
  obtain ⟨a2, rfl, ha2⟩ := u64_of w2
  obtain ⟨a3, rfl, ha3⟩ := u64_of w3
  refine ⟨⟨a0, a1, a2, a3, k4⟩, ?_, ha0, ha1, ha2, ha3⟩
  have d0 := cut1 c0
  have d1 := cut1 c1
  have d2 := cut1 c2
  have d3 := cut1 c3
  have d4 := cut1 c4
  apply List.ext_getElem?
  intro j
  match j with
  | 0 => simpa [acs] using d0
  | 1 => simpa [acs] using d1
  | 2 => simpa [acs] using d2
  | 3 => simpa [acs] using d3
  | 4 => simpa [acs] using d4
  | j + 5 => rw [List.getElem?_eq_none (by omega), List.getElem?_eq_none (by simp [acs])]
set_option maxRecDepth 100000 in
theorem open_as {n : Nat} {v : Value} {y : DataW H × List MemPlace} (h : DataW.trod enc Tryz.prog w base spare held n 22 [v] = some y) : ∃ l, As w v l := by
  rcases open_slice Tryz.underlying22 h with ⟨hcs, _⟩ | ⟨a, len, cap, m, n', D, Pl, hcs, _, hl, hm, hmm, hx, hel⟩
  · simp at hcs
    exact ⟨[], none, 0, hcs, ⟨(by simp), (by simp [maxLen]), (fun m hm => (by cases hm)), fun j m hm => (by simp at hm)⟩⟩
  · simp at hcs
    have hlm : len ≤ m := by rw [hmm]; split <;> omega
    have hspot : 0 < len → ∃ b off, a = ⟨b, off, none⟩ := fun h0 => by
      obtain ⟨cs', h1, h2⟩ := hel 0 (by omega)
      rw [cells32] at h1
      obtain ⟨_, hl', hc⟩ := World.cells?_some h1
      obtain ⟨b, off, spot⟩ := a
      have hc0 := World.cell?_spot ((hc 0 (by omega)).trans (List.getElem?_eq_getElem (by omega)))
      have hs : spot = none := by simpa [Addr.add] using hc0
      subst hs
      exact ⟨b, off, rfl⟩
    have hex : ∀ i, i < len → ∃ x : Ac, x.ok ∧ ∃ b off, a = ⟨b, off, none⟩ ∧ ∀ k u, (acs x)[k]? = some u → w.cell? ⟨b, off + i * 5 + k, none⟩ = some u := by
      intro i hi
      obtain ⟨cs', h1, h2⟩ := hel i (by omega)
      rw [cells32] at h1
      obtain ⟨x, rfl, hok⟩ := open_ac h2
      obtain ⟨_, hl', hc⟩ := World.cells?_some h1
      obtain ⟨b, off, rfl⟩ := hspot (by omega)
      refine ⟨x, hok, b, off, rfl, fun k u hu => ?_⟩
      have hk : k < 5 := (List.getElem?_eq_some_iff.1 hu).1
      have := hc k hk
      rw [add3, Addr.add_lit, hu] at this
      simpa [Nat.add_assoc] using this
    obtain ⟨f, hf⟩ := choose_lt0 (⟨0, 0, 0, 0, false⟩ : Ac) hex
    refine ⟨(List.range len).map f, some a, cap, by rw [hcs]; simp, ⟨by simpa using hl, hm, fun x hx => ?_, fun j g hg => ?_⟩⟩
    · obtain ⟨i, hi, rfl⟩ := List.mem_map.1 hx
      exact (hf i (by simpa using hi)).1
    · rw [List.getElem?_map] at hg
      by_cases hj : j < len
      · rw [List.getElem?_range hj] at hg
        simp at hg
        rw [← hg]
        obtain ⟨_, b, off, rfl, r⟩ := hf j hj
        exact ⟨b, off, rfl, r 0 _ rfl, r 1 _ rfl, r 2 _ rfl, r 3 _ rfl, r 4 _ rfl⟩
      · rw [List.getElem?_eq_none (by simpa using hj)] at hg
        cases hg
set_option maxRecDepth 100000 in
theorem open_hs {n : Nat} {v : Value} {y : DataW H × List MemPlace} (h : DataW.trod enc Tryz.prog w base spare held n 45 [v] = some y) : ∃ l a cap, v = .slice a l.length cap ∧ HsAt w a cap l ∧ (l = [] ∨ ∃ es sp, y.1 = .slice es sp ∧ l.length ≤ es.length) := by
  rcases open_slice Tryz.underlying45 h with ⟨hcs, _⟩ | ⟨a, len, cap, m, n', D, Pl, hcs, _, hl, hm, hmm, hx, hel⟩
  · simp at hcs
    exact ⟨[], none, 0, hcs, ⟨(by simp), (by simp [maxLen]), (fun m hm => (by cases hm)), fun j m hm => (by simp at hm)⟩, .inl rfl⟩
  · simp at hcs
    have hlm : len ≤ m := by rw [hmm]; split <;> omega
    have hspot : 0 < len → ∃ b off, a = ⟨b, off, none⟩ := fun h0 => by
      obtain ⟨cs', h1, h2⟩ := hel 0 (by omega)
      rw [cells23] at h1
      obtain ⟨_, hl', hc⟩ := World.cells?_some h1
      obtain ⟨b, off, spot⟩ := a
      have hc0 := World.cell?_spot ((hc 0 (by omega)).trans (List.getElem?_eq_getElem (by omega)))
      have hs : spot = none := by simpa [Addr.add] using hc0
      subst hs
      exact ⟨b, off, rfl⟩
    have hex : ∀ i, i < len → ∃ x : List UInt8, x.length = 32 ∧ ∃ b off, a = ⟨b, off, none⟩ ∧ w.rangeAt b (off + i * 32) (x.map bv) := by
      intro i hi
      obtain ⟨cs', h1, h2⟩ := hel i (by omega)
      rw [cells23] at h1
      obtain ⟨x, hok, rfl⟩ := open_arr Tryz.underlying29 cells23 h2
      obtain ⟨_, hl', hc⟩ := World.cells?_some h1
      obtain ⟨b, off, rfl⟩ := hspot (by omega)
      refine ⟨x, hok, b, off, rfl, fun k u hu => ?_⟩
      have hk : k < 32 := by have := (List.getElem?_eq_some_iff.1 hu).1; rwa [List.length_map, hok] at this
      have := hc k hk
      rw [add3, Addr.add_lit, hu] at this
      simpa [Nat.add_assoc] using this
    obtain ⟨f, hf⟩ : ∃ f : Nat → List UInt8, ∀ i, i < len → ((f i).length = 32 ∧ ∃ b off, a = ⟨b, off, none⟩ ∧ w.rangeAt b (off + i * 32) ((f i).map bv)) :=
      ⟨fun i => if hi : i < len then (hex i hi).choose else [], fun i hi => by simp only [hi, dite_true]; exact (hex i hi).choose_spec⟩
    refine ⟨(List.range len).map f, some a, cap, by rw [hcs]; simp, ⟨by simpa using hl, hm, fun x hx => ?_, fun j g hg => ?_⟩, .inr ⟨_, _, by rw [hx], by simp⟩⟩
    · obtain ⟨i, hi, rfl⟩ := List.mem_map.1 hx
      exact (hf i (by simpa using hi)).1
    · rw [List.getElem?_map] at hg
      by_cases hj : j < len
      · rw [List.getElem?_range hj] at hg
        simp at hg
        rw [← hg]
        obtain ⟨_, b, off, rfl, r⟩ := hf j hj
        exact ⟨b, off, rfl, r⟩
      · rw [List.getElem?_eq_none (by simpa using hj)] at hg
        cases hg
/-- A proof. -/
theorem open_pf {n : Nat} {L : List Value} {y : DataW H × List MemPlace} (h : DataW.trod enc Tryz.prog w base spare held n 47 L = some y) : ∃ (t i : Int) (l : List (List UInt8)) (a : Option Addr) (cap : Nat), L = [.int .i64 t, .int .i64 i, .slice a l.length cap] ∧ HsAt w a cap l ∧ (l = [] ∨ ∃ x0 x1 es sp, y.1 = .agg [x0, x1, .slice es sp] ∧ l.length ≤ es.length) := by
  obtain ⟨xs, m, hm, hy, hlen, hn, hel⟩ := DataW.trod_struct Tryz.underlying47 h
  rw [cells57] at hlen
  obtain ⟨u0, u1, u2, rfl⟩ := three_of hlen
  have hn3 : xs.length = 3 := hn
  obtain ⟨x0, x1, x2, rfl⟩ := three_of hn3
  have h0 : DataW.trod enc Tryz.prog w base spare held m 3 (([u0, u1, u2].drop 0).take (Tryz.prog.cellsOf 3)) = some x0 := (hel 0 _ rfl).trans rfl
  have h1 : DataW.trod enc Tryz.prog w base spare held m 3 (([u0, u1, u2].drop 1).take (Tryz.prog.cellsOf 3)) = some x1 := (hel 1 _ rfl).trans rfl
  have h2 : DataW.trod enc Tryz.prog w base spare held m 45 (([u0, u1, u2].drop 2).take (Tryz.prog.cellsOf 45)) = some x2 := (hel 2 _ rfl).trans rfl
  rw [cells3] at h0 h1
  rw [cells55] at h2
  obtain ⟨k0, c0, _, _⟩ := DataW.trod_int Tryz.underlying3 h0
  obtain ⟨k1, c1, _, _⟩ := DataW.trod_int Tryz.underlying3 h1
  obtain ⟨l, a, cap, e2, hA, q⟩ := open_hs (v := u2) h2
  simp at c0 c1
  subst c0 c1 e2
  refine ⟨k0, k1, l, a, cap, rfl, hA, ?_⟩
  rcases q with q | ⟨es, sp, q, r⟩
  · exact .inl q
  · refine .inr ⟨x0.1, x1.1, es, sp, ?_, r⟩
    rw [hy]
    simp [q]
set_option maxRecDepth 100000 in
theorem open_qs {n : Nat} {v : Value} {y : DataW H × List MemPlace} (h : DataW.trod enc Tryz.prog w base spare held n 30 [v] = some y) : ∃ l, Qs w v l := by
  rcases open_slice Tryz.underlying30 h with ⟨hcs, _⟩ | ⟨a, len, cap, m, n', D, Pl, hcs, _, hl, hm, hmm, hx, hel⟩
  · simp at hcs
    exact ⟨[], none, 0, hcs, ⟨(by simp), (by simp [maxLen]), fun j m hm => (by simp at hm)⟩⟩
  · simp at hcs
    have hlm : len ≤ m := by rw [hmm]; split <;> omega
    have hspot : 0 < len → ∃ b off, a = ⟨b, off, none⟩ := fun h0 => by
      obtain ⟨cs', h1, h2⟩ := hel 0 (by omega)
      rw [cells57] at h1
      obtain ⟨_, hl', hc⟩ := World.cells?_some h1
      obtain ⟨b, off, spot⟩ := a
      have hc0 := World.cell?_spot ((hc 0 (by omega)).trans (List.getElem?_eq_getElem (by omega)))
      have hs : spot = none := by simpa [Addr.add] using hc0
      subst hs
      exact ⟨b, off, rfl⟩
    have hex : ∀ i, i < len → ∃ x : Pf × Option Addr × Nat, HsAt w x.2.1 x.2.2 x.1.A ∧ ∃ b off, a = ⟨b, off, none⟩ ∧ ∀ k u, (pfC x.1 x.2.1 x.2.2)[k]? = some u → w.cell? ⟨b, off + i * 3 + k, none⟩ = some u := by
      intro i hi
      obtain ⟨cs', h1, h2⟩ := hel i (by omega)
      rw [cells57] at h1
      obtain ⟨t, j, l, a', c', rfl, hA, _⟩ := open_pf h2
      obtain ⟨_, hl', hc⟩ := World.cells?_some h1
      obtain ⟨b, off, rfl⟩ := hspot (by omega)
      refine ⟨(⟨t, j, l⟩, a', c'), hA, b, off, rfl, fun k u hu => ?_⟩
      have hk : k < 3 := (List.getElem?_eq_some_iff.1 hu).1
      have := hc k hk
      rw [add3, Addr.add_lit] at this
      have hu' : [Value.int .i64 t, .int .i64 j, .slice a' l.length c'][k]? = some u := hu
      rw [hu'] at this
      simpa [Nat.add_assoc] using this
    obtain ⟨f, hf⟩ := choose_lt0 ((⟨0, 0, []⟩, none, 0) : Pf × Option Addr × Nat) hex
    refine ⟨(List.range len).map (fun i => (f i).1), some a, cap, by rw [hcs]; simp, ⟨by simpa using hl, hm, fun j g hg => ?_⟩⟩
    rw [List.getElem?_map] at hg
    by_cases hj : j < len
    · rw [List.getElem?_range hj] at hg
      simp at hg
      rw [← hg]
      obtain ⟨h1, b, off, rfl, r⟩ := hf j hj
      exact ⟨b, off, _, _, rfl, h1, fun i u hu => r i u hu⟩
    · rw [List.getElem?_eq_none (by simpa using hj)] at hg
      cases hg
/-- A witness. -/
theorem open_wt {n : Nat} {L : List Value} {y : DataW H × List MemPlace} (h : DataW.trod enc Tryz.prog w base spare held n 32 L = some y) : ∃ (R : List UInt8) (va vp : Value) (l : List Ac) (qs : List Pf), R.length = 32 ∧ L = wtL R va vp ∧ As w va l ∧ Qs w vp qs := by
  obtain ⟨xs, m, hm, hy, hlen, hn, hel⟩ := DataW.trod_struct Tryz.underlying32 h
  rw [cells29] at hlen
  have hn3 : xs.length = 3 := hn
  obtain ⟨x0, x1, x2, rfl⟩ := three_of hn3
  have h0 : DataW.trod enc Tryz.prog w base spare held m 29 ((L.drop 0).take (Tryz.prog.cellsOf 29)) = some x0 := (hel 0 _ rfl).trans rfl
  have h1 : DataW.trod enc Tryz.prog w base spare held m 22 ((L.drop 32).take (Tryz.prog.cellsOf 22)) = some x1 := (hel 1 _ rfl).trans rfl
  have h2 : DataW.trod enc Tryz.prog w base spare held m 30 ((L.drop 33).take (Tryz.prog.cellsOf 30)) = some x2 := (hel 2 _ rfl).trans rfl
  rw [cells23] at h0
  rw [cells26] at h1
  rw [cells27] at h2
  obtain ⟨R, hR, eR⟩ := open_arr Tryz.underlying29 cells23 h0
  obtain ⟨v1, ev1⟩ := one_of (show ((L.drop 32).take 1).length = 1 by simp; omega)
  obtain ⟨v2, ev2⟩ := one_of (show ((L.drop 33).take 1).length = 1 by simp; omega)
  rw [ev1] at h1
  rw [ev2] at h2
  obtain ⟨l, hA⟩ := open_as (v := v1) h1
  obtain ⟨qs, hQ⟩ := open_qs (v := v2) h2
  refine ⟨R, v1, v2, l, qs, hR, ?_, hA, hQ⟩
  have s33 : L.drop 33 = [v2] := by
    rw [← ev2]
    exact (List.take_of_length_le (by simp; omega)).symm
  have s32 : L.drop 32 = v1 :: L.drop 33 := by
    rw [show (33 : Nat) = 32 + 1 from rfl, ← List.drop_drop, ← List.singleton_append, ← ev1]
    exact (List.take_append_drop 1 (L.drop 32)).symm
  have s0 : L = R.map bv ++ L.drop 32 := by
    rw [← eR, List.drop_zero]
    exact (List.take_append_drop 32 L).symm
  rw [s0, s32, s33]
  rfl
end
end Go.Proofs.YtlacfenenbblaaaGreatDoor.Wit
