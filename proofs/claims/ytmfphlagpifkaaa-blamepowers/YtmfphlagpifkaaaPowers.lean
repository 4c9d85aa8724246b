/- BlamePowers: the arguments, read; the row. -/
import Derived.Test.YtmfphlagpifkaaaG7
import Derived.ProofKit
import Derived.OpenShut
import Derived.ChangeOld
import Derived.SizedLaws
import Derived.Lib.SmallJoins
import Derived.Deep.Slices
import Derived.Carry
namespace Go.Proofs.Ytmfphlagpifkaaa
open Go.ChangeShapes Go.WideShapes Go.ChangeAt Go.RowKit Go.Joins Go.Deep
set_option linter.unusedVariables false

theorem own : ownKnob Try.prog.godebug = none := by kernel_rfl
theorem laidOut : laidOutB Try.prog = true := by kernel_rfl
theorem cells49 : Try.prog.cellsOf 49 = 3 := by kernel_rfl
theorem cells37 : Try.prog.cellsOf 37 = 1 := by kernel_rfl
theorem cells26 : Try.prog.cellsOf 26 = 1 := by kernel_rfl
theorem cells2 : Try.prog.cellsOf 2 = 1 := by kernel_rfl
theorem cells3 : Try.prog.cellsOf 3 = 1 := by kernel_rfl
theorem cells22 : Try.prog.cellsOf 22 = 1 := by kernel_rfl
theorem cells24 : Try.prog.cellsOf 24 = 1 := by kernel_rfl
theorem cells25 : Try.prog.cellsOf 25 = 1 := by kernel_rfl
theorem cells28 : Try.prog.cellsOf 28 = 32 := by kernel_rfl
theorem cells39 : Try.prog.cellsOf 39 = 16 := by kernel_rfl
theorem cells41 : Try.prog.cellsOf 41 = 53 := by kernel_rfl
theorem cells43 : Try.prog.cellsOf 43 = 108 := by kernel_rfl
theorem bytes49 : Try.prog.bytesOf 49 = 24 := by kernel_rfl
theorem bytes43 : Try.prog.bytesOf 43 = 192 := by kernel_rfl
theorem add3 (a : Addr) (l j : Nat) : (a.add l).add j = a.add (l + j) := by
  obtain ⟨b, o, s⟩ := a
  unfold Addr.add
  by_cases hl : l = 0
  · subst hl; simp
  · by_cases hj : j = 0
    · subst hj; simp [hl]
    · simp [hl, hj, Nat.add_assoc]
theorem choose_ltT {α : Type} (d : α) {n : Nat} {p : Nat → α → Prop} (h : ∀ i, i < n → ∃ x, p i x) : ∃ f : Nat → α, ∀ i, i < n → p i (f i) :=
  ⟨fun i => if hi : i < n then (h i hi).choose else d, fun i hi => by simp only [hi, dite_true]; exact (h i hi).choose_spec⟩
theorem one_of {α : Type} {L : List α} (h : L.length = 1) : ∃ v, L = [v] := List.length_eq_one_iff.1 h
theorem cut1 {L : List Value} {o : Nat} {v : Value} (h : (L.drop o).take 1 = [v]) : L[o]? = some v := by
  have := congrArg (·[0]?) h
  simpa [List.getElem?_take, List.getElem?_drop] using this
theorem u64_of {n : Int} (h : (Lit.int .u64 n).wf = true) : ∃ a : Nat, n = (a : Int) ∧ a < 18446744073709551616 := by
  simp only [Lit.wf, Bool.and_eq_true, decide_eq_true_eq] at h
  rw [show IntKind.u64.min = 0 by decide, show IntKind.u64.max = 18446744073709551615 by decide] at h
  exact ⟨n.toNat, by omega, by omega⟩
theorem i64_of {n : Int} (h : (Lit.int .i64 n).wf = true) : -9223372036854775808 ≤ n ∧ n < 9223372036854775808 := by
  simp only [Lit.wf, Bool.and_eq_true, decide_eq_true_eq] at h
  rw [show IntKind.i64.min = -9223372036854775808 by decide, show IntKind.i64.max = 9223372036854775807 by decide] at h
  omega


section
variable {H : Type} {enc : TypeId × Value → H} {w : World} {base : Nat} {spare : Nat → Bool} {held : Bool}
theorem open_mb {n : Nat} {L : List Value} {y : DataW H × List MemPlace} (h : DataW.trod enc Try.prog w base spare held n 49 L = some y) : ∃ m : Mb, L = mbC m ∧ m.ok := by
  obtain ⟨xs, m, _, _, hlen, hn, hel⟩ := DataW.trod_struct Try.underlying49 h
  rw [cells49] at hlen
  have hx : ∀ i, i < 3 → ∃ x, xs[i]? = some x := fun i hi => ⟨xs[i]'(by rw [hn]; exact hi), List.getElem?_eq_getElem _⟩
  obtain ⟨x0, e0⟩ := hx 0 (by omega)
  obtain ⟨x1, e1⟩ := hx 1 (by omega)
  obtain ⟨x2, e2⟩ := hx 2 (by omega)
  have h0 : DataW.trod enc Try.prog w base spare held m 37 ((L.drop 0).take (Try.prog.cellsOf 37)) = some x0 := (hel 0 _ rfl).trans e0
  have h1 : DataW.trod enc Try.prog w base spare held m 26 ((L.drop 1).take (Try.prog.cellsOf 26)) = some x1 := (hel 1 _ rfl).trans e1
  have h2 : DataW.trod enc Try.prog w base spare held m 2 ((L.drop 2).take (Try.prog.cellsOf 2)) = some x2 := (hel 2 _ rfl).trans e2
  rw [cells37] at h0
  rw [cells26] at h1
  rw [cells2] at h2
  obtain ⟨k0, c0, _, w0⟩ := DataW.trod_int Try.underlying37 h0
  obtain ⟨k1, c1, _, w1⟩ := DataW.trod_int Try.underlying26 h1
  obtain ⟨k2, c2, _, w2⟩ := DataW.trod_int Try.underlying2 h2
  obtain ⟨a, rfl, ha⟩ := u64_of w0
  obtain ⟨b, rfl, hb⟩ := u64_of w1
  refine ⟨⟨a, b, k2⟩, ?_, ha, hb, i64_of w2⟩
  have d0 := cut1 c0
  have d1 := cut1 c1
  have d2 := cut1 c2
  apply List.ext_getElem?
  intro j
  match j with
  | 0 => simpa [mbC] using d0
  | 1 => simpa [mbC] using d1
  | 2 => simpa [mbC] using d2
  | j + 3 => rw [List.getElem?_eq_none (by omega), List.getElem?_eq_none (by simp [mbC])]

set_option maxRecDepth 100000 in
theorem open_ms {n : Nat} {v : Value} {y : DataW H × List MemPlace} (h : DataW.trod enc Try.prog w base spare held n 22 [v] = some y) : ∃ l, Ms w v l ∧ (l = [] ∨ ∃ es sp, y.1 = .slice es sp ∧ l.length ≤ es.length) := by
  rcases open_slice Try.underlying22 h with ⟨hcs, _⟩ | ⟨a, len, cap, m, n', D, Pl, hcs, _, hl, hm, hmm, hx, hel⟩
  · simp at hcs
    exact ⟨[], ⟨none, 0, hcs, (by simp), (by simp [maxLen]), (fun m hm => (by cases hm)), fun j m hm => (by simp at hm)⟩, .inl rfl⟩
  · simp at hcs
    have hlm : len ≤ m := by rw [hmm]; split <;> omega
    have hspot : 0 < len → ∃ b off, a = ⟨b, off, none⟩ := fun h0 => by
      obtain ⟨cs', h1, h2⟩ := hel 0 (by omega)
      rw [cells49] at h1
      obtain ⟨_, hl', hc⟩ := World.cells?_some h1
      obtain ⟨b, off, spot⟩ := a
      have hc0 := World.cell?_spot ((hc 0 (by omega)).trans (List.getElem?_eq_getElem (by omega)))
      have hs : spot = none := by simpa [Addr.add] using hc0
      subst hs
      exact ⟨b, off, rfl⟩
    have hex : ∀ i, i < len → ∃ x : Mb, x.ok ∧ ∃ b off, a = ⟨b, off, none⟩ ∧ w.cell? ⟨b, off + i * 3, none⟩ = some (.int .u64 x.ad) ∧ w.cell? ⟨b, off + i * 3 + 1, none⟩ = some (.int .u64 x.pw) ∧ w.cell? ⟨b, off + i * 3 + 2, none⟩ = some (.int .i64 x.pr) := by
      intro i hi
      obtain ⟨cs', h1, h2⟩ := hel i (by omega)
      rw [cells49] at h1
      obtain ⟨x, rfl, hok⟩ := open_mb h2
      obtain ⟨_, hl', hc⟩ := World.cells?_some h1
      obtain ⟨b, off, rfl⟩ := hspot (by omega)
      refine ⟨x, hok, b, off, rfl, ?_, ?_, ?_⟩
      · have := hc 0 (by omega)
        rw [add3, Addr.add_lit] at this
        simpa [mbC] using this
      · have := hc 1 (by omega)
        rw [add3, Addr.add_lit] at this
        simpa [mbC, Nat.add_assoc] using this
      · have := hc 2 (by omega)
        rw [add3, Addr.add_lit] at this
        simpa [mbC, Nat.add_assoc] using this
    obtain ⟨f, hf⟩ := choose_ltT mb0 hex
    refine ⟨(List.range len).map f, ⟨some a, cap, by rw [hcs]; simp, by simpa using hl, hm, fun x hx => ?_, fun j g hg => ?_⟩, .inr ⟨_, _, by rw [hx], by simp⟩⟩
    · obtain ⟨i, hi, rfl⟩ := List.mem_map.1 hx
      exact (hf i (by simpa using hi)).1
    · rw [List.getElem?_map] at hg
      by_cases hj : j < len
      · rw [List.getElem?_range hj] at hg
        simp at hg
        rw [← hg]
        obtain ⟨_, b, off, rfl, r⟩ := hf j hj
        exact ⟨b, off, rfl, r⟩
      · rw [List.getElem?_eq_none (by simpa using hj)] at hg
        cases hg
/-- A council: its one field. -/
theorem open_co {n : Nat} {L : List Value} {y : DataW H × List MemPlace} (h : DataW.trod enc Try.prog w base spare held n 24 L = some y) : ∃ v l, L = [v] ∧ Ms w v l ∧ (l = [] ∨ ∃ es sp, y.1 = .agg [.slice es sp] ∧ l.length ≤ es.length) := by
  obtain ⟨xs, m, hm, hy, hlen, hn, hel⟩ := DataW.trod_struct Try.underlying24 h
  rw [cells24] at hlen
  obtain ⟨v, rfl⟩ := one_of hlen
  have hn1 : xs.length = 1 := hn
  obtain ⟨x0, rfl⟩ := one_of hn1
  have h0 : DataW.trod enc Try.prog w base spare held m 22 (([v].drop 0).take (Try.prog.cellsOf 22)) = some x0 := (hel 0 _ rfl).trans rfl
  rw [cells22] at h0
  obtain ⟨l, M, q⟩ := open_ms (v := v) h0
  refine ⟨v, l, rfl, M, ?_⟩
  rcases q with q | ⟨es, sp, q, r⟩
  · exact .inl q
  · refine .inr ⟨es, sp, ?_, r⟩
    rw [hy]
    simp [q]

def byteOfV : Value → UInt8
  | .int _ k => UInt8.ofNat k.toNat
  | _ => 0
theorem open_arr {n t m : Nat} {L : List Value} {y : DataW H × List MemPlace} (hu : Try.prog.underlying t = some (.array m 5)) (hc : Try.prog.cellsOf t = m) (h : DataW.trod enc Try.prog w base spare held n t L = some y) : ∃ X : List UInt8, X.length = m ∧ L = X.map bv := by
  obtain ⟨xs, m1, _, _, hlen, hn, hel⟩ := DataW.trod_array hu h
  rw [hc] at hlen
  refine ⟨L.map byteOfV, by simpa using hlen, ?_⟩
  apply List.ext_getElem?
  intro j
  by_cases hj : j < m
  · have h0 := hel j hj
    obtain ⟨x, hxj⟩ : ∃ x, xs[j]? = some x := ⟨xs[j]'(by omega), List.getElem?_eq_getElem (by omega)⟩
    rw [hxj, cells5, Nat.mul_one] at h0
    obtain ⟨k, e1, _, wk⟩ := DataW.trod_int Try.underlying5 h0
    have hc : L[j]? = some (.int .u8 k) := by
      have := congrArg (·[0]?) e1
      simpa [List.getElem?_take, List.getElem?_drop] using this
    have hb := bounds_u8 wk
    rw [hc]
    simp [hc, byteOfV, bv]
    omega
  · rw [List.getElem?_eq_none (by omega), List.getElem?_eq_none (by simp; omega)]
theorem open_vt {n : Nat} {L : List Value} {y : DataW H × List MemPlace} (h : DataW.trod enc Try.prog w base spare held n 41 L = some y) : ∃ v : Vt, v.ok ∧ L = v.cs := by
  obtain ⟨xs, m, _, _, hlen, hn, hel⟩ := DataW.trod_struct Try.underlying41 h
  rw [cells41] at hlen
  have hx : ∀ i, i < 7 → ∃ x, xs[i]? = some x := fun i hi => ⟨xs[i]'(by rw [hn]; exact hi), List.getElem?_eq_getElem _⟩
  obtain ⟨x0, e0⟩ := hx 0 (by omega)
  obtain ⟨x1, e1⟩ := hx 1 (by omega)
  obtain ⟨x2, e2⟩ := hx 2 (by omega)
  obtain ⟨x3, e3⟩ := hx 3 (by omega)
  obtain ⟨x4, e4⟩ := hx 4 (by omega)
  obtain ⟨x5, e5⟩ := hx 5 (by omega)
  obtain ⟨x6, e6⟩ := hx 6 (by omega)
  have h0 : DataW.trod enc Try.prog w base spare held m 3 ((L.drop 0).take (Try.prog.cellsOf 3)) = some x0 := (hel 0 _ rfl).trans e0
  have h1 : DataW.trod enc Try.prog w base spare held m 26 ((L.drop 1).take (Try.prog.cellsOf 26)) = some x1 := (hel 1 _ rfl).trans e1
  have h2 : DataW.trod enc Try.prog w base spare held m 3 ((L.drop 2).take (Try.prog.cellsOf 3)) = some x2 := (hel 2 _ rfl).trans e2
  have h3 : DataW.trod enc Try.prog w base spare held m 28 ((L.drop 3).take (Try.prog.cellsOf 28)) = some x3 := (hel 3 _ rfl).trans e3
  have h4 : DataW.trod enc Try.prog w base spare held m 26 ((L.drop 35).take (Try.prog.cellsOf 26)) = some x4 := (hel 4 _ rfl).trans e4
  have h5 : DataW.trod enc Try.prog w base spare held m 37 ((L.drop 36).take (Try.prog.cellsOf 37)) = some x5 := (hel 5 _ rfl).trans e5
  have h6 : DataW.trod enc Try.prog w base spare held m 39 ((L.drop 37).take (Try.prog.cellsOf 39)) = some x6 := (hel 6 _ rfl).trans e6
  rw [cells3] at h0 h2
  rw [cells26] at h1 h4
  rw [cells37] at h5
  rw [cells28] at h3
  rw [cells39] at h6
  obtain ⟨k, c0, _, _⟩ := DataW.trod_int Try.underlying3 h0
  obtain ⟨hh, c1, _, _⟩ := DataW.trod_int Try.underlying26 h1
  obtain ⟨r, c2, _, _⟩ := DataW.trod_int Try.underlying3 h2
  obtain ⟨X, hX, eX⟩ := open_arr Try.underlying28 cells28 h3
  obtain ⟨t, c4, _, _⟩ := DataW.trod_int Try.underlying26 h4
  obtain ⟨f, c5, _, _⟩ := DataW.trod_int Try.underlying37 h5
  obtain ⟨Y, hY, eY⟩ := open_arr Try.underlying39 cells39 h6
  refine ⟨⟨k, hh, r, X, t, f, Y⟩, ⟨hX, hY⟩, ?_⟩
  have d : ∀ o, L.drop o = (L.drop o).take 1 ++ L.drop (o + 1) := fun o => by
    rw [← List.drop_drop]
    exact (List.take_append_drop 1 (L.drop o)).symm
  have s3 : L.drop 3 = X.map bv ++ L.drop 35 := by
    rw [← eX, show (35 : Nat) = 3 + 32 from rfl, ← List.drop_drop]
    exact (List.take_append_drop 32 (L.drop 3)).symm
  have s37 : L.drop 37 = Y.map bv := by
    rw [← eY]
    exact (List.take_of_length_le (by simp; omega)).symm
  have s0 : L = (L.drop 0).take 1 ++ ((L.drop 1).take 1 ++ ((L.drop 2).take 1 ++ L.drop 3)) := by
    rw [← d 2, ← d 1, ← d 0]
    rfl
  have s35 : L.drop 35 = (L.drop 35).take 1 ++ ((L.drop 36).take 1 ++ L.drop 37) := by
    rw [← d 36, ← d 35]
  rw [s0, c0, c1, c2, s3, s35, c4, c5, s37]
  simp [Vt.cs]
theorem open_gu {n : Nat} {L : List Value} {y : DataW H × List MemPlace} (h : DataW.trod enc Try.prog w base spare held n 43 L = some y) : ∃ g : Gu, g.ok ∧ L = g.cs := by
  obtain ⟨xs, m, _, _, hlen, hn, hel⟩ := DataW.trod_struct Try.underlying43 h
  rw [cells43] at hlen
  have hx : ∀ i, i < 4 → ∃ x, xs[i]? = some x := fun i hi => ⟨xs[i]'(by rw [hn]; exact hi), List.getElem?_eq_getElem _⟩
  obtain ⟨x0, e0⟩ := hx 0 (by omega)
  obtain ⟨x1, e1⟩ := hx 1 (by omega)
  obtain ⟨x2, e2⟩ := hx 2 (by omega)
  obtain ⟨x3, e3⟩ := hx 3 (by omega)
  have h0 : DataW.trod enc Try.prog w base spare held m 37 ((L.drop 0).take (Try.prog.cellsOf 37)) = some x0 := (hel 0 _ rfl).trans e0
  have h1 : DataW.trod enc Try.prog w base spare held m 3 ((L.drop 1).take (Try.prog.cellsOf 3)) = some x1 := (hel 1 _ rfl).trans e1
  have h2 : DataW.trod enc Try.prog w base spare held m 41 ((L.drop 2).take (Try.prog.cellsOf 41)) = some x2 := (hel 2 _ rfl).trans e2
  have h3 : DataW.trod enc Try.prog w base spare held m 41 ((L.drop 55).take (Try.prog.cellsOf 41)) = some x3 := (hel 3 _ rfl).trans e3
  rw [cells37] at h0
  rw [cells3] at h1
  rw [cells41] at h2 h3
  obtain ⟨k0, c0, _, w0⟩ := DataW.trod_int Try.underlying37 h0
  obtain ⟨k1, c1, _, _⟩ := DataW.trod_int Try.underlying3 h1
  obtain ⟨a, rfl, _⟩ := u64_of w0
  obtain ⟨va, ha, ea⟩ := open_vt h2
  obtain ⟨vb, hb, eb⟩ := open_vt h3
  refine ⟨⟨a, k1, va, vb⟩, ⟨ha, hb⟩, ?_⟩
  have d : ∀ o, L.drop o = (L.drop o).take 1 ++ L.drop (o + 1) := fun o => by
    rw [← List.drop_drop]
    exact (List.take_append_drop 1 (L.drop o)).symm
  have s2 : L.drop 2 = va.cs ++ L.drop 55 := by
    rw [← ea, show (55 : Nat) = 2 + 53 from rfl, ← List.drop_drop]
    exact (List.take_append_drop 53 (L.drop 2)).symm
  have s55 : L.drop 55 = vb.cs := by
    rw [← eb]
    exact (List.take_of_length_le (by simp; omega)).symm
  have s0 : L = (L.drop 0).take 1 ++ ((L.drop 1).take 1 ++ L.drop 2) := by
    rw [← d 1, ← d 0]
    rfl
  rw [s0, c0, c1, s2, s55]
  rfl
def gu0 : Gu := ⟨0, 0, vt0, vt0⟩
set_option maxRecDepth 100000 in
theorem open_gs {n : Nat} {v : Value} {y : DataW H × List MemPlace} (h : DataW.trod enc Try.prog w base spare held n 25 [v] = some y) : ∃ l, Gs w v l ∧ (l = [] ∨ ∃ es sp, y.1 = .slice es sp ∧ l.length ≤ es.length) := by
  rcases open_slice Try.underlying25 h with ⟨hcs, _⟩ | ⟨a, len, cap, m, n', D, Pl, hcs, _, hl, hm, hmm, hx, hel⟩
  · simp at hcs
    exact ⟨[], ⟨none, 0, hcs, (by simp), (by simp [maxLen]), (fun m hm => (by cases hm)), fun j m hm => (by simp at hm)⟩, .inl rfl⟩
  · simp at hcs
    have hlm : len ≤ m := by rw [hmm]; split <;> omega
    have hspot : 0 < len → ∃ b off, a = ⟨b, off, none⟩ := fun h0 => by
      obtain ⟨cs', h1, h2⟩ := hel 0 (by omega)
      rw [cells43] at h1
      obtain ⟨_, hl', hc⟩ := World.cells?_some h1
      obtain ⟨b, off, spot⟩ := a
      have hc0 := World.cell?_spot ((hc 0 (by omega)).trans (List.getElem?_eq_getElem (by omega)))
      have hs : spot = none := by simpa [Addr.add] using hc0
      subst hs
      exact ⟨b, off, rfl⟩
    have hex : ∀ i, i < len → ∃ x : Gu, x.ok ∧ ∃ b off, a = ⟨b, off, none⟩ ∧ w.rangeAt b (off + i * 108) x.cs := by
      intro i hi
      obtain ⟨cs', h1, h2⟩ := hel i (by omega)
      rw [cells43] at h1
      obtain ⟨x, hok, rfl⟩ := open_gu h2
      obtain ⟨_, hl', hc⟩ := World.cells?_some h1
      obtain ⟨b, off, rfl⟩ := hspot (by omega)
      refine ⟨x, hok, b, off, rfl, fun k u hu => ?_⟩
      have hk : k < 108 := by have := (List.getElem?_eq_some_iff.1 hu).1; rwa [Gu.len hok] at this
      have := hc k hk
      rw [add3, Addr.add_lit, hu] at this
      simpa [Nat.add_assoc] using this
    obtain ⟨f, hf⟩ : ∃ f : Nat → Gu, ∀ i, i < len → ((f i).ok ∧ ∃ b off, a = ⟨b, off, none⟩ ∧ w.rangeAt b (off + i * 108) (f i).cs) :=
      ⟨fun i => if hi : i < len then (hex i hi).choose else gu0, fun i hi => by simp only [hi, dite_true]; exact (hex i hi).choose_spec⟩
    refine ⟨(List.range len).map f, ⟨some a, cap, by rw [hcs]; simp, by simpa using hl, hm, fun x hx => ?_, fun j g hg => ?_⟩, .inr ⟨_, _, by rw [hx], by simp⟩⟩
    · obtain ⟨i, hi, rfl⟩ := List.mem_map.1 hx
      exact (hf i (by simpa using hi)).1
    · rw [List.getElem?_map] at hg
      by_cases hj : j < len
      · rw [List.getElem?_range hj] at hg
        simp at hg
        rw [← hg]
        obtain ⟨_, b, off, rfl, r⟩ := hf j hj
        exact ⟨b, off, rfl, r⟩
      · rw [List.getElem?_eq_none (by simpa using hj)] at hg
        cases hg
end
/-- How long a council's list may be, of what was read. -/
theorem co_sized {H : Type} {ts : List TypeId} {ds : List (DataW H)} (hsz : (DataW.weightsEach Try.prog ts ds).all (· ≤ reachBytes) = true) {j : Nat} {d : DataW H} (ht : ts[j]? = some 24) (hd : ds[j]? = some d) {l : List Mb}
    (hw : l = [] ∨ ∃ es sp, d = .agg [.slice es sp] ∧ l.length ≤ es.length) : l.length * 24 ≤ 140737488351232 := by
  rcases hw with rfl | ⟨es, sp, rfl, hl⟩
  · simp
  · have := List.all_eq_true.1 hsz _ (DataW.weights_mem_each ht hd ((es.length + sp.length) * Try.prog.bytesOf 49) (by simp [DataW.weights, Try.underlying24, DataW.weightsEach, Try.underlying22]))
    rw [bytes49] at this
    have h2 : (es.length + sp.length) * 24 ≤ 140737488351232 := by
      have := of_decide_eq_true this
      exact this
    omega
theorem gs_sized {H : Type} {ts : List TypeId} {ds : List (DataW H)} (hsz : (DataW.weightsEach Try.prog ts ds).all (· ≤ reachBytes) = true) {j : Nat} {d : DataW H} (ht : ts[j]? = some 25) (hd : ds[j]? = some d) {l : List Gu}
    (hw : l = [] ∨ ∃ es sp, d = .slice es sp ∧ l.length ≤ es.length) : l.length * 192 ≤ 140737488351232 := by
  rcases hw with rfl | ⟨es, sp, rfl, hl⟩
  · simp
  · have := List.all_eq_true.1 hsz _ (DataW.weights_mem_each ht hd ((es.length + sp.length) * Try.prog.bytesOf 43) (by simp [DataW.weights, Try.underlying25]))
    rw [bytes43] at this
    have h2 : (es.length + sp.length) * 192 ≤ 140737488351232 := by
      have := of_decide_eq_true this
      exact this
    omega

set_option maxRecDepth 100000 in
set_option maxHeartbeats 4000000 in
theorem powers_lifted (os : Os) (started : os.Started) (H : Type) (enc : TypeId × Value → H) :
    ReturnsInHanded {} Try.checked os 3 .any (Rows.blamePowersSpec.pre6 enc Try.prog Try.f3 Rows.blamePowersRow.domain false) (Rows.blamePowersSpec.post enc Try.prog Try.f3 false true false false) := by
  refine returnsInHanded_of_change_sized (C := Try.checked) own started (by kernel_rfl) Try.func3
    (ChangeSpec.witness6 (enc := enc) (C := Try.checked) false ⟨#[], #[.agg #[.slice none 0 0], .slice none 0 0], []⟩ 8 (by kernel_rfl) (by kernel_rfl) (by kernel_rfl) (by kernel_rfl)) ?_
  intro W base args ds gs before hval0 hW hcnd hsz _
  have hval : ∀ (j : Nat) t v, Try.f3.params[j]? = some t → args[j]? = some v → Value.okWide Try.prog W .any base t v := hval0
  have hW' := hW
  obtain ⟨p, q, hA0, hV, rfl, hfz, hnd⟩ := hW
  have hA : DataW.TrodAll enc Try.prog W 0 (fun _ => true) true Try.f3.params.toList args.toList ds p := hA0
  rw [Try.params3] at hA hval hsz
  obtain ⟨v0, v1, d0, d1, p0, p1, rfl, rfl, rfl, h0, h1⟩ := trodAll_two hA
  obtain ⟨rfl, rfl⟩ := trodVars_none hV
  have k0 := h0
  have k1 := h1
  have lt0 : ∀ x ∈ p0, x.block < W.heap.size := by obtain ⟨m, hm⟩ := k0; exact DataW.trod_lt m _ _ _ hm
  have lt1 : ∀ x ∈ p1, x.block < W.heap.size := by obtain ⟨m, hm⟩ := k1; exact DataW.trod_lt m _ _ _ hm
  obtain ⟨cs, rfl, _, _⟩ : ∃ cs, v0 = .agg cs ∧ cs.size = Try.prog.cellsOf 24 ∧ Row.okWide Try.prog W .any base 24 cs := by
    have := hval 0 24 v0 rfl rfl
    simpa [Value.okWide, Try.underlying24] using this
  obtain ⟨m0, t0⟩ := h0
  obtain ⟨m1, t1⟩ := h1
  obtain ⟨v, M, hcs, hM, hwM⟩ := open_co (L := cs.toList) t0
  obtain ⟨x1, x2, x3, rfl⟩ := okWide_slice Try.underlying25 (hval 1 25 v1 rfl rfl)
  obtain ⟨l, hG, hwG⟩ := open_gs (v := .slice x1 x2 x3) t1
  have hleM := co_sized hsz (j := 0) rfl rfl hwM
  have hleG := gs_sized hsz (j := 1) rfl rfl hwG
  have hc : cs = #[v] := by
    apply Array.ext'
    simpa using hcs
  subst hc
  have hwalk := powers3 W v M hM hleM _ l hG hleG
  clear hA0 hval0
  refine hwalk.mono fun e W' ⟨he, tt⟩ => ?_
  subst he
  have bel := tt.below
  exact ⟨_, rfl, _, _, _, [], _, [], hW', trodAll_mk1 (shut_bool Try.underlying4 _), (trodAll_mk2 (Below.trod laidOut (by kernel_rfl) (of_decide_eq_true (by kernel_rfl)) k0 bel lt0) (Below.trod laidOut (by kernel_rfl) (of_decide_eq_true (by kernel_rfl)) k1 bel lt1)), rfl, bel.frame _, fun h => by cases h⟩

theorem powers_holds : Rows.BlamePowersSaid :=
  OpenClaim.holds_of_wide 3 Try.f3 rfl rfl rfl rfl rfl rfl rfl ⟨rfl, rfl, rfl, rfl, rfl⟩ rfl rfl rfl rfl rfl (by kernel_rfl) Try.func3 (by kernel_rfl)
    (of_decide_eq_true (by kernel_rfl)) (by unfold Func.isWrapper; first | (rw [if_pos (by decide +kernel)]; kernel_rfl) | (rw [if_neg (by decide +kernel)]; exact ⟨rfl, rfl⟩))
    (fun os started H enc _ => powers_lifted os started H enc)
#print axioms powers_holds
end Go.Proofs.Ytmfphlagpifkaaa
