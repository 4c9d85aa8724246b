/- Texts in one. -/
import Derived.Test.YtgbcdjjnpadddaaGreatDoorSn
import Derived.Test.YtgbcdjjnpadddaaGreatDoorLaid
import Derived.ProofKit
import Derived.OpenShut
import Derived.ChangeOld
import Derived.SizedLaws
import Derived.Lib.SmallJoins
import Derived.Deep.Slices
/- What is handed in, read. -/
namespace Go.Proofs.YtgbcdjjnpadddaaGreatDoor
open Go.ChangeShapes Go.WideShapes Go.ChangeAt Go.RowKit Go.Joins Go.Deep
set_option linter.unusedVariables false

theorem cells140 : Tryz.prog.cellsOf 162 = 3 := by kernel_rfl
theorem cells39 : Tryz.prog.cellsOf 46 = 1 := by kernel_rfl
theorem cells22 : Tryz.prog.cellsOf 22 = 1 := by kernel_rfl
theorem cells111 : Tryz.prog.cellsOf 158 = 3 := by kernel_rfl
theorem cells104 : Tryz.prog.cellsOf 101 = 2 := by kernel_rfl
theorem cells2 : Tryz.prog.cellsOf 2 = 1 := by kernel_rfl
theorem cells27 : Tryz.prog.cellsOf 27 = 1 := by kernel_rfl
theorem cellsCo : Tryz.prog.cellsOf 29 = 1 := by kernel_rfl
theorem bytes140 : Tryz.prog.bytesOf 162 = 24 := by kernel_rfl
theorem add3 (a : Addr) (l j : Nat) : (a.add l).add j = a.add (l + j) := by
  obtain ⟨b, o, s⟩ := a
  unfold Addr.add
  by_cases hl : l = 0
  · subst hl; simp
  · by_cases hj : j = 0
    · subst hj; simp [hl]
    · simp [hl, hj, Nat.add_assoc]
theorem choose_ltT {α : Type} (d : α) {n : Nat} {p : Nat → α → Prop} (h : ∀ i, i < n → ∃ x, p i x) : ∃ f : Nat → α, ∀ i, i < n → p i (f i) :=
  ⟨fun i => if hi : i < n then (h i hi).choose else d, fun i hi => by simp only [hi, dite_true]; exact (h i hi).choose_spec⟩
theorem cut1 {L : List Value} {o : Nat} {v : Value} (h : (L.drop o).take 1 = [v]) : L[o]? = some v := by
  have := congrArg (·[0]?) h
  simpa [List.getElem?_take, List.getElem?_drop] using this
theorem u64_of {n : Int} (h : (Lit.int .u64 n).wf = true) : ∃ a : Nat, n = (a : Int) ∧ a < 18446744073709551616 := by
  simp only [Lit.wf, Bool.and_eq_true, decide_eq_true_eq] at h
  rw [show IntKind.u64.min = 0 by decide, show IntKind.u64.max = 18446744073709551615 by decide] at h
  exact ⟨n.toNat, by omega, by omega⟩
theorem i64_of {n : Int} (h : (Lit.int .i64 n).wf = true) : -9223372036854775808 ≤ n ∧ n < 9223372036854775808 := by
  simp only [Lit.wf, Bool.and_eq_true, decide_eq_true_eq] at h
  rw [show IntKind.i64.min = -9223372036854775808 by decide, show IntKind.i64.max = 9223372036854775807 by decide] at h
  omega

section
variable {H : Type} {enc : TypeId × Value → H} {w : World} {base : Nat} {spare : Nat → Bool} {held : Bool}
theorem open_mb {n : Nat} {L : List Value} {y : DataW H × List MemPlace} (h : DataW.trod enc Tryz.prog w base spare held n 162 L = some y) : ∃ m : Mb, L = mbC m ∧ m.ok := by
  obtain ⟨xs, m, _, _, hlen, hn, hel⟩ := DataW.trod_struct Tryz.underlying162 h
  rw [cells140] at hlen
  have hx : ∀ i, i < 3 → ∃ x, xs[i]? = some x := fun i hi => ⟨xs[i]'(by rw [hn]; exact hi), List.getElem?_eq_getElem _⟩
  obtain ⟨x0, e0⟩ := hx 0 (by omega)
  obtain ⟨x1, e1⟩ := hx 1 (by omega)
  obtain ⟨x2, e2⟩ := hx 2 (by omega)
  have h0 : DataW.trod enc Tryz.prog w base spare held m 46 ((L.drop 0).take (Tryz.prog.cellsOf 46)) = some x0 := (hel 0 _ rfl).trans e0
  have h1 : DataW.trod enc Tryz.prog w base spare held m 22 ((L.drop 1).take (Tryz.prog.cellsOf 22)) = some x1 := (hel 1 _ rfl).trans e1
  have h2 : DataW.trod enc Tryz.prog w base spare held m 2 ((L.drop 2).take (Tryz.prog.cellsOf 2)) = some x2 := (hel 2 _ rfl).trans e2
  rw [cells39] at h0
  rw [cells22] at h1
  rw [cells2] at h2
  obtain ⟨k0, c0, _, w0⟩ := DataW.trod_int Tryz.underlying46 h0
  obtain ⟨k1, c1, _, w1⟩ := DataW.trod_int Tryz.underlying22 h1
  obtain ⟨k2, c2, _, w2⟩ := DataW.trod_int Tryz.underlying2 h2
  obtain ⟨a, rfl, ha⟩ := u64_of w0
  obtain ⟨b, rfl, hb⟩ := u64_of w1
  refine ⟨⟨a, b, k2⟩, ?_, ha, hb, i64_of w2⟩
  have d0 := cut1 c0
  have d1 := cut1 c1
  have d2 := cut1 c2
  apply List.ext_getElem?
  intro j
  match j with
  | 0 => simpa [mbC] using d0
  | 1 => simpa [mbC] using d1
  | 2 => simpa [mbC] using d2
  | j + 3 => rw [List.getElem?_eq_none (by omega), List.getElem?_eq_none (by simp [mbC])]

set_option maxRecDepth 100000 in
theorem open_ms {n : Nat} {v : Value} {y : DataW H × List MemPlace} (h : DataW.trod enc Tryz.prog w base spare held n 27 [v] = some y) : ∃ l, Ms w v l ∧ (l = [] ∨ ∃ es sp, y.1 = .slice es sp ∧ l.length ≤ es.length) := by
  rcases open_slice Tryz.underlying27 h with ⟨hcs, _⟩ | ⟨a, len, cap, m, n', D, Pl, hcs, _, hl, hm, hmm, hx, hel⟩
  · simp at hcs
    exact ⟨[], ⟨none, 0, hcs, (by simp), (by simp [maxLen]), (fun m hm => (by cases hm)), fun j m hm => (by simp at hm)⟩, .inl rfl⟩
  · simp at hcs
    have hlm : len ≤ m := by rw [hmm]; split <;> omega
    have hspot : 0 < len → ∃ b off, a = ⟨b, off, none⟩ := fun h0 => by
      obtain ⟨cs', h1, h2⟩ := hel 0 (by omega)
      rw [cells140] at h1
      obtain ⟨_, hl', hc⟩ := World.cells?_some h1
      obtain ⟨b, off, spot⟩ := a
      have hc0 := World.cell?_spot ((hc 0 (by omega)).trans (List.getElem?_eq_getElem (by omega)))
      have hs : spot = none := by simpa [Addr.add] using hc0
      subst hs
      exact ⟨b, off, rfl⟩
    have hex : ∀ i, i < len → ∃ x : Mb, x.ok ∧ ∃ b off, a = ⟨b, off, none⟩ ∧ w.cell? ⟨b, off + i * 3, none⟩ = some (.int .u64 x.ad) ∧ w.cell? ⟨b, off + i * 3 + 1, none⟩ = some (.int .u64 x.pw) ∧ w.cell? ⟨b, off + i * 3 + 2, none⟩ = some (.int .i64 x.pr) := by
      intro i hi
      obtain ⟨cs', h1, h2⟩ := hel i (by omega)
      rw [cells140] at h1
      obtain ⟨x, rfl, hok⟩ := open_mb h2
      obtain ⟨_, hl', hc⟩ := World.cells?_some h1
      obtain ⟨b, off, rfl⟩ := hspot (by omega)
      refine ⟨x, hok, b, off, rfl, ?_, ?_, ?_⟩
      · have := hc 0 (by omega)
        rw [add3, Addr.add_lit] at this
        simpa [mbC] using this
      · have := hc 1 (by omega)
        rw [add3, Addr.add_lit] at this
        simpa [mbC, Nat.add_assoc] using this
      · have := hc 2 (by omega)
        rw [add3, Addr.add_lit] at this
        simpa [mbC, Nat.add_assoc] using this
    obtain ⟨f, hf⟩ := choose_ltT mb0 hex
    refine ⟨(List.range len).map f, ⟨some a, cap, by rw [hcs]; simp, by simpa using hl, hm, fun x hx => ?_, fun j g hg => ?_⟩, .inr ⟨_, _, by rw [hx], by simp⟩⟩
    · obtain ⟨i, hi, rfl⟩ := List.mem_map.1 hx
      exact (hf i (by simpa using hi)).1
    · rw [List.getElem?_map] at hg
      by_cases hj : j < len
      · rw [List.getElem?_range hj] at hg
        simp at hg
        rw [← hg]
        obtain ⟨_, b, off, rfl, r⟩ := hf j hj
        exact ⟨b, off, rfl, r⟩
      · rw [List.getElem?_eq_none (by simpa using hj)] at hg
        cases hg
set_option maxRecDepth 100000 in
/-- A council: its one field. -/
theorem open_co {n : Nat} {L : List Value} {y : DataW H × List MemPlace} (h : DataW.trod enc Tryz.prog w base spare held n 29 L = some y) : ∃ v l, L = [v] ∧ Ms w v l ∧ (l = [] ∨ ∃ es sp, y.1 = .agg [.slice es sp] ∧ l.length ≤ es.length) := by
  obtain ⟨xs, m, hm, hy, hlen, hn, hel⟩ := DataW.trod_struct Tryz.underlying29 h
  rw [cellsCo] at hlen
  obtain ⟨v, rfl⟩ : ∃ v, L = [v] := by
    match L, hlen with
    | [v], _ => exact ⟨v, rfl⟩
  have hn1 : xs.length = 1 := hn
  obtain ⟨x0, rfl⟩ : ∃ x, xs = [x] := by
    match xs, hn1 with
    | [x], _ => exact ⟨x, rfl⟩
  have h0 : DataW.trod enc Tryz.prog w base spare held m 27 (([v].drop 0).take (Tryz.prog.cellsOf 27)) = some x0 := (hel 0 _ rfl).trans rfl
  rw [cells27] at h0
  obtain ⟨l, M, q⟩ := open_ms (v := v) h0
  refine ⟨v, l, rfl, M, ?_⟩
  rcases q with q | ⟨es, sp, q, r⟩
  · exact .inl q
  · refine .inr ⟨es, sp, ?_, r⟩
    rw [hy]
    simp [q]
theorem open_pa {n : Nat} {L : List Value} {y : DataW H × List MemPlace} (h : DataW.trod enc Tryz.prog w base spare held n 158 L = some y) : ∃ m : Pa, L = [.int .u64 m.h, .int .u64 m.t, m.v] ∧ Ms w m.v m.l := by
  obtain ⟨xs, m, _, _, hlen, hn, hel⟩ := DataW.trod_struct Tryz.underlying158 h
  rw [cells111] at hlen
  have hx : ∀ i, i < 3 → ∃ x, xs[i]? = some x := fun i hi => ⟨xs[i]'(by rw [hn]; exact hi), List.getElem?_eq_getElem _⟩
  obtain ⟨x0, e0⟩ := hx 0 (by omega)
  obtain ⟨x1, e1⟩ := hx 1 (by omega)
  obtain ⟨x2, e2⟩ := hx 2 (by omega)
  have h0 : DataW.trod enc Tryz.prog w base spare held m 22 ((L.drop 0).take (Tryz.prog.cellsOf 22)) = some x0 := (hel 0 _ rfl).trans e0
  have h1 : DataW.trod enc Tryz.prog w base spare held m 22 ((L.drop 1).take (Tryz.prog.cellsOf 22)) = some x1 := (hel 1 _ rfl).trans e1
  have h2 : DataW.trod enc Tryz.prog w base spare held m 29 ((L.drop 2).take (Tryz.prog.cellsOf 29)) = some x2 := (hel 2 _ rfl).trans e2
  rw [cells22] at h0 h1
  rw [cellsCo] at h2
  obtain ⟨k0, c0, _, w0⟩ := DataW.trod_int Tryz.underlying22 h0
  obtain ⟨k1, c1, _, w1⟩ := DataW.trod_int Tryz.underlying22 h1
  obtain ⟨v, l, c2, M, _⟩ := open_co h2
  obtain ⟨a, rfl, ha⟩ := u64_of w0
  obtain ⟨b, rfl, hb⟩ := u64_of w1
  refine ⟨⟨a, b, v, l⟩, ?_, M⟩
  have d0 := cut1 c0
  have d1 := cut1 c1
  have d2 := cut1 c2
  apply List.ext_getElem?
  intro j
  match j with
  | 0 => simpa using d0
  | 1 => simpa using d1
  | 2 => simpa using d2
  | j + 3 => rw [List.getElem?_eq_none (by omega), List.getElem?_eq_none (by simp)]
theorem open_of {n : Nat} {L : List Value} {y : DataW H × List MemPlace} (h : DataW.trod enc Tryz.prog w base spare held n 101 L = some y) : ∃ m : Nat × Nat, L = [.int .u64 m.1, .int .u64 m.2] := by
  obtain ⟨xs, m, _, _, hlen, hn, hel⟩ := DataW.trod_struct Tryz.underlying101 h
  rw [cells104] at hlen
  have hx : ∀ i, i < 2 → ∃ x, xs[i]? = some x := fun i hi => ⟨xs[i]'(by rw [hn]; exact hi), List.getElem?_eq_getElem _⟩
  obtain ⟨x0, e0⟩ := hx 0 (by omega)
  obtain ⟨x1, e1⟩ := hx 1 (by omega)
  have h0 : DataW.trod enc Tryz.prog w base spare held m 22 ((L.drop 0).take (Tryz.prog.cellsOf 22)) = some x0 := (hel 0 _ rfl).trans e0
  have h1 : DataW.trod enc Tryz.prog w base spare held m 46 ((L.drop 1).take (Tryz.prog.cellsOf 46)) = some x1 := (hel 1 _ rfl).trans e1
  rw [cells22] at h0
  rw [cells39] at h1
  obtain ⟨k0, c0, _, w0⟩ := DataW.trod_int Tryz.underlying22 h0
  obtain ⟨k1, c1, _, w1⟩ := DataW.trod_int Tryz.underlying46 h1
  obtain ⟨a, rfl, ha⟩ := u64_of w0
  obtain ⟨b, rfl, hb⟩ := u64_of w1
  refine ⟨(a, b), ?_⟩
  have d0 := cut1 c0
  have d1 := cut1 c1
  apply List.ext_getElem?
  intro j
  match j with
  | 0 => simpa using d0
  | 1 => simpa using d1
  | j + 2 => rw [List.getElem?_eq_none (by omega), List.getElem?_eq_none (by simp)]
end
end Go.Proofs.YtgbcdjjnpadddaaGreatDoor


/- Lists that are handed in, read. -/
namespace Go.Proofs.YtgbcdjjnpadddaaGreatDoor
open Go.ChangeShapes Go.WideShapes Go.ChangeAt Go.RowKit Go.Joins Go.Deep
set_option linter.unusedVariables false
section
variable {H : Type} {enc : TypeId × Value → H} {w : World} {base : Nat} {spare : Nat → Bool} {held : Bool}
set_option maxRecDepth 100000 in
theorem open_pas {n : Nat} {v : Value} {y : DataW H × List MemPlace} (h : DataW.trod enc Tryz.prog w base spare held n 30 [v] = some y) : ∃ l, Pas w v l := by
  rcases open_slice Tryz.underlying30 h with ⟨hcs, _⟩ | ⟨a, len, cap, m, n', D, Pl, hcs, _, hl, hm, hmm, hx, hel⟩
  · simp at hcs
    exact ⟨[], none, 0, hcs, (by simp), (by simp [maxLen]), fun j m hm => (by simp at hm)⟩
  · simp at hcs
    have hlm : len ≤ m := by rw [hmm]; split <;> omega
    have hspot : 0 < len → ∃ b off, a = ⟨b, off, none⟩ := fun h0 => by
      obtain ⟨cs', h1, h2⟩ := hel 0 (by omega)
      rw [cells111] at h1
      obtain ⟨_, hl', hc⟩ := World.cells?_some h1
      obtain ⟨b, off, spot⟩ := a
      have hc0 := World.cell?_spot ((hc 0 (by omega)).trans (List.getElem?_eq_getElem (by omega)))
      have hs : spot = none := by simpa [Addr.add] using hc0
      subst hs
      exact ⟨b, off, rfl⟩
    have hex : ∀ i, i < len → ∃ x : Pa, Ms w x.v x.l ∧ ∃ b off, a = ⟨b, off, none⟩ ∧ w.cell? ⟨b, off + i * 3, none⟩ = some (.int .u64 x.h) ∧ w.cell? ⟨b, off + i * 3 + 1, none⟩ = some (.int .u64 x.t) ∧ w.cell? ⟨b, off + i * 3 + 2, none⟩ = some x.v := by
      intro i hi
      obtain ⟨cs', h1, h2⟩ := hel i (by omega)
      rw [cells111] at h1
      obtain ⟨x, rfl, hok⟩ := open_pa h2
      obtain ⟨_, hl', hc⟩ := World.cells?_some h1
      obtain ⟨b, off, rfl⟩ := hspot (by omega)
      refine ⟨x, hok, b, off, rfl, ?_, ?_, ?_⟩
      · have := hc 0 (by omega)
        rw [add3, Addr.add_lit] at this
        simpa using this
      · have := hc 1 (by omega)
        rw [add3, Addr.add_lit] at this
        simpa [Nat.add_assoc] using this
      · have := hc 2 (by omega)
        rw [add3, Addr.add_lit] at this
        simpa [Nat.add_assoc] using this
    obtain ⟨f, hf⟩ := choose_ltT (⟨0, 0, .slice none 0 0, []⟩ : Pa) hex
    refine ⟨(List.range len).map f, some a, cap, by rw [hcs]; simp, by simpa using hl, hm, fun j g hg => ?_⟩
    rw [List.getElem?_map] at hg
    by_cases hj : j < len
    · rw [List.getElem?_range hj] at hg
      simp at hg
      rw [← hg]
      obtain ⟨hM, b, off, rfl, r⟩ := hf j hj
      exact ⟨hM, b, off, rfl, r⟩
    · rw [List.getElem?_eq_none (by simpa using hj)] at hg
      cases hg
set_option maxRecDepth 100000 in
theorem open_ofs {n : Nat} {v : Value} {y : DataW H × List MemPlace} (h : DataW.trod enc Tryz.prog w base spare held n 31 [v] = some y) : ∃ l, Ofs w v l := by
  rcases open_slice Tryz.underlying31 h with ⟨hcs, _⟩ | ⟨a, len, cap, m, n', D, Pl, hcs, _, hl, hm, hmm, hx, hel⟩
  · simp at hcs
    exact ⟨[], none, 0, hcs, (by simp), (by simp [maxLen]), fun j m hm => (by simp at hm)⟩
  · simp at hcs
    have hlm : len ≤ m := by rw [hmm]; split <;> omega
    have hspot : 0 < len → ∃ b off, a = ⟨b, off, none⟩ := fun h0 => by
      obtain ⟨cs', h1, h2⟩ := hel 0 (by omega)
      rw [cells104] at h1
      obtain ⟨_, hl', hc⟩ := World.cells?_some h1
      obtain ⟨b, off, spot⟩ := a
      have hc0 := World.cell?_spot ((hc 0 (by omega)).trans (List.getElem?_eq_getElem (by omega)))
      have hs : spot = none := by simpa [Addr.add] using hc0
      subst hs
      exact ⟨b, off, rfl⟩
    have hex : ∀ i, i < len → ∃ x : Nat × Nat, ∃ b off, a = ⟨b, off, none⟩ ∧ w.cell? ⟨b, off + i * 2, none⟩ = some (.int .u64 x.1) ∧ w.cell? ⟨b, off + i * 2 + 1, none⟩ = some (.int .u64 x.2) := by
      intro i hi
      obtain ⟨cs', h1, h2⟩ := hel i (by omega)
      rw [cells104] at h1
      obtain ⟨x, rfl⟩ := open_of h2
      obtain ⟨_, hl', hc⟩ := World.cells?_some h1
      obtain ⟨b, off, rfl⟩ := hspot (by omega)
      refine ⟨x, b, off, rfl, ?_, ?_⟩
      · have := hc 0 (by omega)
        rw [add3, Addr.add_lit] at this
        simpa using this
      · have := hc 1 (by omega)
        rw [add3, Addr.add_lit] at this
        simpa [Nat.add_assoc] using this
    obtain ⟨f, hf⟩ := choose_ltT ((0, 0) : Nat × Nat) hex
    refine ⟨(List.range len).map f, some a, cap, by rw [hcs]; simp, by simpa using hl, hm, fun j g hg => ?_⟩
    rw [List.getElem?_map] at hg
    by_cases hj : j < len
    · rw [List.getElem?_range hj] at hg
      simp at hg
      rw [← hg]
      obtain ⟨b, off, rfl, r⟩ := hf j hj
      exact ⟨b, off, rfl, r⟩
    · rw [List.getElem?_eq_none (by simpa using hj)] at hg
      cases hg
set_option maxRecDepth 100000 in
theorem open_ads {n : Nat} {v : Value} {y : DataW H × List MemPlace} (h : DataW.trod enc Tryz.prog w base spare held n 38 [v] = some y) : ∃ L, As w v L ∧ (L = [] ∨ ∃ es sp, y.1 = .slice es sp ∧ L.length ≤ es.length) := by
  rcases open_slice Tryz.underlying38 h with ⟨hcs, _⟩ | ⟨a, len, cap, m, n', D, Pl, hcs, _, hl, hm, hmm, hx, hel⟩
  · simp at hcs
    exact ⟨[], ⟨none, 0, hcs, (by simp), fun j m hm => (by simp at hm)⟩, .inl rfl⟩
  · simp at hcs
    have hlm : len ≤ m := by rw [hmm]; split <;> omega
    have hspot : 0 < len → ∃ b off, a = ⟨b, off, none⟩ := fun h0 => by
      obtain ⟨cs', h1, h2⟩ := hel 0 (by omega)
      rw [cells39] at h1
      obtain ⟨_, hl', hc⟩ := World.cells?_some h1
      obtain ⟨b, off, spot⟩ := a
      have hc0 := World.cell?_spot ((hc 0 (by omega)).trans (List.getElem?_eq_getElem (by omega)))
      have hs : spot = none := by simpa [Addr.add] using hc0
      subst hs
      exact ⟨b, off, rfl⟩
    have hex : ∀ i, i < len → ∃ x : UInt64, ∃ b off, a = ⟨b, off, none⟩ ∧ w.cell? ⟨b, off + i, none⟩ = some (.int .u64 x.toNat) := by
      intro i hi
      obtain ⟨cs', h1, h2⟩ := hel i (by omega)
      rw [cells39] at h1
      obtain ⟨k0, c0, _, w0⟩ := DataW.trod_int Tryz.underlying46 h2
      obtain ⟨k, rfl, hk⟩ := u64_of w0
      subst c0
      obtain ⟨_, hl', hc⟩ := World.cells?_some h1
      have c1 := hc 0 (by omega)
      obtain ⟨b, off, rfl⟩ := hspot (by omega)
      refine ⟨UInt64.ofNat k, b, off, rfl, ?_⟩
      rw [add3, Addr.add_lit] at c1
      have e : (UInt64.ofNat k).toNat = k := by
        rw [UInt64.toNat_ofNat']
        exact Nat.mod_eq_of_lt (by omega)
      rw [e]
      simpa using c1
    obtain ⟨f, hf⟩ := choose_ltT (0 : UInt64) hex
    refine ⟨(List.range len).map f, ⟨some a, cap, by rw [hcs]; simp, by simp only [List.length_map, List.length_range]; simp only [maxLen] at hm; omega, fun j g hg => ?_⟩, .inr ⟨_, _, by rw [hx], by simp⟩⟩
    rw [List.getElem?_map] at hg
    by_cases hj : j < len
    · rw [List.getElem?_range hj] at hg
      simp at hg
      rw [← hg]
      obtain ⟨b, off, rfl, r⟩ := hf j hj
      exact ⟨b, off, rfl, r⟩
    · rw [List.getElem?_eq_none (by simpa using hj)] at hg
      cases hg
end
end Go.Proofs.YtgbcdjjnpadddaaGreatDoor


/- A vote, two votes, a state: read. -/
namespace Go.Proofs.YtgbcdjjnpadddaaGreatDoor
open Go.ChangeShapes Go.WideShapes Go.ChangeAt Go.RowKit Go.Joins Go.Deep
set_option linter.unusedVariables false
theorem oc3 : Tryz.prog.cellsOf 3 = 1 := by kernel_rfl
theorem oc5 : Tryz.prog.cellsOf 5 = 1 := by kernel_rfl
theorem oc22 : Tryz.prog.cellsOf 22 = 1 := by kernel_rfl
theorem oc26 : Tryz.prog.cellsOf 26 = 32 := by kernel_rfl
theorem oc39 : Tryz.prog.cellsOf 46 = 1 := by kernel_rfl
theorem oc41 : Tryz.prog.cellsOf 48 = 16 := by kernel_rfl
theorem oc43 : Tryz.prog.cellsOf 50 = 53 := by kernel_rfl
section
variable {H : Type} {enc : TypeId × Value → H} {w : World} {base : Nat} {spare : Nat → Bool} {held : Bool}
def byteOfV : Value → UInt8
  | .int _ k => UInt8.ofNat k.toNat
  | _ => 0
theorem open_arr {n t m : Nat} {L : List Value} {y : DataW H × List MemPlace} (hu : Tryz.prog.underlying t = some (.array m 5)) (hc : Tryz.prog.cellsOf t = m) (h : DataW.trod enc Tryz.prog w base spare held n t L = some y) : ∃ X : List UInt8, X.length = m ∧ L = X.map bv := by
  obtain ⟨xs, m1, _, _, hlen, hn, hel⟩ := DataW.trod_array hu h
  rw [hc] at hlen
  refine ⟨L.map byteOfV, by simpa using hlen, ?_⟩
  apply List.ext_getElem?
  intro j
  by_cases hj : j < m
  · have h0 := hel j hj
    obtain ⟨x, hxj⟩ : ∃ x, xs[j]? = some x := ⟨xs[j]'(by omega), List.getElem?_eq_getElem (by omega)⟩
    rw [hxj, oc5, Nat.mul_one] at h0
    obtain ⟨k, e1, _, wk⟩ := DataW.trod_int Tryz.underlying5 h0
    have hc : L[j]? = some (.int .u8 k) := by
      have := congrArg (·[0]?) e1
      simpa [List.getElem?_take, List.getElem?_drop] using this
    have hb := bounds_u8 wk
    rw [hc]
    simp [hc, byteOfV, bv]
    omega
  · rw [List.getElem?_eq_none (by omega), List.getElem?_eq_none (by simp; omega)]
theorem open_vo {n : Nat} {L : List Value} {y : DataW H × List MemPlace} (h : DataW.trod enc Tryz.prog w base spare held n 50 L = some y) : ∃ v : Vt, v.fits ∧ L = v.cs := by
  obtain ⟨xs, m, _, _, hlen, hn, hel⟩ := DataW.trod_struct Tryz.underlying50 h
  rw [oc43] at hlen
  have hx : ∀ i, i < 7 → ∃ x, xs[i]? = some x := fun i hi => ⟨xs[i]'(by rw [hn]; exact hi), List.getElem?_eq_getElem _⟩
  obtain ⟨x0, e0⟩ := hx 0 (by omega)
  obtain ⟨x1, e1⟩ := hx 1 (by omega)
  obtain ⟨x2, e2⟩ := hx 2 (by omega)
  obtain ⟨x3, e3⟩ := hx 3 (by omega)
  obtain ⟨x4, e4⟩ := hx 4 (by omega)
  obtain ⟨x5, e5⟩ := hx 5 (by omega)
  obtain ⟨x6, e6⟩ := hx 6 (by omega)
  have h0 : DataW.trod enc Tryz.prog w base spare held m 3 ((L.drop 0).take (Tryz.prog.cellsOf 3)) = some x0 := (hel 0 _ rfl).trans e0
  rw [oc3] at h0
  have h1 : DataW.trod enc Tryz.prog w base spare held m 22 ((L.drop 1).take (Tryz.prog.cellsOf 22)) = some x1 := (hel 1 _ rfl).trans e1
  rw [oc22] at h1
  have h2 : DataW.trod enc Tryz.prog w base spare held m 3 ((L.drop 2).take (Tryz.prog.cellsOf 3)) = some x2 := (hel 2 _ rfl).trans e2
  rw [oc3] at h2
  have h3 : DataW.trod enc Tryz.prog w base spare held m 26 ((L.drop 3).take (Tryz.prog.cellsOf 26)) = some x3 := (hel 3 _ rfl).trans e3
  rw [oc26] at h3
  have h4 : DataW.trod enc Tryz.prog w base spare held m 22 ((L.drop 35).take (Tryz.prog.cellsOf 22)) = some x4 := (hel 4 _ rfl).trans e4
  rw [oc22] at h4
  have h5 : DataW.trod enc Tryz.prog w base spare held m 46 ((L.drop 36).take (Tryz.prog.cellsOf 46)) = some x5 := (hel 5 _ rfl).trans e5
  rw [oc39] at h5
  have h6 : DataW.trod enc Tryz.prog w base spare held m 48 ((L.drop 37).take (Tryz.prog.cellsOf 48)) = some x6 := (hel 6 _ rfl).trans e6
  rw [oc41] at h6
  obtain ⟨k, c0, _, w0⟩ := DataW.trod_int Tryz.underlying3 h0
  obtain ⟨hh, c1, _, w1⟩ := DataW.trod_int Tryz.underlying22 h1
  have q1 := bounds_u64 w1
  obtain ⟨r, c2, _, w2⟩ := DataW.trod_int Tryz.underlying3 h2
  obtain ⟨X, lX, c3⟩ := open_arr Tryz.underlying26 oc26 h3
  obtain ⟨t, c4, _, w4⟩ := DataW.trod_int Tryz.underlying22 h4
  have q4 := bounds_u64 w4
  obtain ⟨f, c5, _, w5⟩ := DataW.trod_int Tryz.underlying46 h5
  have q5 := bounds_u64 w5
  obtain ⟨Y, lY, c6⟩ := open_arr Tryz.underlying48 oc41 h6
  refine ⟨⟨k, hh, r, X, t, f, Y⟩, ⟨⟨lX, lY⟩, ⟨by show 0 ≤ hh; omega, by show hh < _; omega⟩, ⟨by show 0 ≤ t; omega, by show t < _; omega⟩, ⟨by show 0 ≤ f; omega, by show f < _; omega⟩⟩, ?_⟩
  have d : ∀ o, L.drop o = (L.drop o).take 1 ++ L.drop (o + 1) := fun o => by
    rw [← List.drop_drop]
    exact (List.take_append_drop 1 (L.drop o)).symm
  have s3 : L.drop 3 = X.map bv ++ L.drop 35 := by
    rw [← c3, show (35 : Nat) = 3 + 32 from rfl, ← List.drop_drop]
    exact (List.take_append_drop 32 (L.drop 3)).symm
  have s37 : L.drop 37 = Y.map bv := by
    rw [← c6]
    exact (List.take_of_length_le (by simp; omega)).symm
  have s0 : L = (L.drop 0).take 1 ++ ((L.drop 1).take 1 ++ ((L.drop 2).take 1 ++ L.drop 3)) := by
    rw [← d 2, ← d 1, ← d 0]
    rfl
  have s35 : L.drop 35 = (L.drop 35).take 1 ++ ((L.drop 36).take 1 ++ L.drop 37) := by
    rw [← d 36, ← d 35]
  rw [s0, c0, c1, c2, s3, s35, c4, c5, s37]
  simp [Vt.cs]
end
end Go.Proofs.YtgbcdjjnpadddaaGreatDoor


/- Two votes, read. -/
namespace Go.Proofs.YtgbcdjjnpadddaaGreatDoor
open Go.ChangeShapes Go.WideShapes Go.ChangeAt Go.RowKit Go.Joins Go.Deep
set_option linter.unusedVariables false
theorem oc4 : Tryz.prog.cellsOf 4 = 1 := by kernel_rfl
theorem oc44 : Tryz.prog.cellsOf 55 = 2 := by kernel_rfl
theorem oc46 : Tryz.prog.cellsOf 57 = 109 := by kernel_rfl
section
variable {H : Type} {enc : TypeId × Value → H} {w : World} {base : Nat} {spare : Nat → Bool} {held : Bool}
set_option maxRecDepth 100000 in
theorem open_two {n : Nat} {L : List Value} {y : DataW H × List MemPlace} (h : DataW.trod enc Tryz.prog w base spare held n 57 L = some y) : ∃ (a b : Vt) (r0 r1 sw : Bool), a.fits ∧ b.fits ∧ L.toArray = twC a b r0 r1 sw := by
  obtain ⟨xs, m, _, _, hlen, hn, hel⟩ := DataW.trod_struct Tryz.underlying57 h
  rw [oc46] at hlen
  have hx : ∀ i, i < 4 → ∃ x, xs[i]? = some x := fun i hi => ⟨xs[i]'(by rw [hn]; exact hi), List.getElem?_eq_getElem _⟩
  obtain ⟨x0, e0⟩ := hx 0 (by omega)
  obtain ⟨x1, e1⟩ := hx 1 (by omega)
  obtain ⟨x2, e2⟩ := hx 2 (by omega)
  obtain ⟨x3, e3⟩ := hx 3 (by omega)
  have h0 : DataW.trod enc Tryz.prog w base spare held m 50 ((L.drop 0).take (Tryz.prog.cellsOf 50)) = some x0 := (hel 0 _ rfl).trans e0
  have h1 : DataW.trod enc Tryz.prog w base spare held m 50 ((L.drop 53).take (Tryz.prog.cellsOf 50)) = some x1 := (hel 1 _ rfl).trans e1
  have h2 : DataW.trod enc Tryz.prog w base spare held m 55 ((L.drop 106).take (Tryz.prog.cellsOf 55)) = some x2 := (hel 2 _ rfl).trans e2
  have h3 : DataW.trod enc Tryz.prog w base spare held m 4 ((L.drop 108).take (Tryz.prog.cellsOf 4)) = some x3 := (hel 3 _ rfl).trans e3
  rw [oc43] at h0 h1
  rw [oc44] at h2
  rw [oc4] at h3
  obtain ⟨a, ha, ea⟩ := open_vo h0
  obtain ⟨b, hb, eb⟩ := open_vo h1
  obtain ⟨ys, m2, _, _, hl2, hn2, hel2⟩ := DataW.trod_array Tryz.underlying55 h2
  obtain ⟨y0, f0⟩ : ∃ x, ys[0]? = some x := ⟨ys[0]'(by omega), List.getElem?_eq_getElem _⟩
  obtain ⟨y1, f1⟩ : ∃ x, ys[1]? = some x := ⟨ys[1]'(by omega), List.getElem?_eq_getElem _⟩
  have g0 := (hel2 0 (by omega)).trans f0
  have g1 := (hel2 1 (by omega)).trans f1
  rw [oc4] at g0 g1
  obtain ⟨r0, q0, _⟩ := DataW.trod_bool Tryz.underlying4 g0
  obtain ⟨r1, q1, _⟩ := DataW.trod_bool Tryz.underlying4 g1
  obtain ⟨sw, q2, _⟩ := DataW.trod_bool Tryz.underlying4 h3
  refine ⟨a, b, r0, r1, sw, ha, hb, ?_⟩
  have d106 : (L.drop 106).take 2 = [.bool r0, .bool r1] := by
    have c0 := cut1 q0
    have c1 := cut1 q1
    apply List.ext_getElem?
    intro j
    match j with
    | 0 => simpa using c0
    | 1 => simpa using c1
    | j + 2 => rw [List.getElem?_eq_none (by simp; omega), List.getElem?_eq_none (by simp)]
  have s : L = (L.drop 0).take 53 ++ ((L.drop 53).take 53 ++ ((L.drop 106).take 2 ++ (L.drop 108).take 1)) := by
    have t108 : (L.drop 108).take 1 = L.drop 108 := List.take_of_length_le (by simp; omega)
    have t106 : (L.drop 106).take 2 ++ L.drop 108 = L.drop 106 := by
      rw [show (108 : Nat) = 106 + 2 from rfl, ← List.drop_drop]
      exact List.take_append_drop 2 (L.drop 106)
    have t53 : (L.drop 53).take 53 ++ L.drop 106 = L.drop 53 := by
      rw [show (106 : Nat) = 53 + 53 from rfl, ← List.drop_drop]
      exact List.take_append_drop 53 (L.drop 53)
    rw [t108, t106, t53]
    exact (List.take_append_drop 53 L).symm
  rw [ea, eb, d106, q2] at s
  rw [s]
  simp [twC]
end
end Go.Proofs.YtgbcdjjnpadddaaGreatDoor


/- A state, read as far as Verify looks at it. -/
namespace Go.Proofs.YtgbcdjjnpadddaaGreatDoor
open Go.ChangeShapes Go.WideShapes Go.ChangeAt Go.RowKit Go.Joins Go.Deep
set_option linter.unusedVariables false
theorem oc9 : Tryz.prog.cellsOf 9 = 1 := by kernel_rfl
theorem oc24 : Tryz.prog.cellsOf 24 = 12 := by kernel_rfl
theorem oc30 : Tryz.prog.cellsOf 30 = 1 := by kernel_rfl
theorem oc31 : Tryz.prog.cellsOf 31 = 1 := by kernel_rfl
theorem oc37 : Tryz.prog.cellsOf 37 = 55 := by kernel_rfl
section
variable {H : Type} {enc : TypeId × Value → H} {w : World} {base : Nat} {spare : Nat → Bool} {held : Bool}
set_option maxRecDepth 100000 in
theorem open_age {n : Nat} {L : List Value} {y : DataW H × List MemPlace} (h : DataW.trod enc Tryz.prog w base spare held n 24 L = some y) : ∃ a : Nat, L[4]? = some (.int .u64 a) := by
  obtain ⟨xs, m, _, _, hlen, hn, hel⟩ := DataW.trod_struct Tryz.underlying24 h
  obtain ⟨x4, e4⟩ : ∃ x, xs[4]? = some x := ⟨xs[4]'(by rw [hn]; decide), List.getElem?_eq_getElem _⟩
  have h4 : DataW.trod enc Tryz.prog w base spare held m 22 ((L.drop 4).take (Tryz.prog.cellsOf 22)) = some x4 := (hel 4 _ rfl).trans e4
  rw [oc22] at h4
  obtain ⟨k, c, _, wk⟩ := DataW.trod_int Tryz.underlying22 h4
  obtain ⟨a, rfl, _⟩ := u64_of wk
  exact ⟨a, cut1 c⟩
set_option maxRecDepth 100000 in
theorem open_st {n : Nat} {L : List Value} {y : DataW H × List MemPlace} (h : DataW.trod enc Tryz.prog w base spare held n 37 L = some y) : ∃ (c : ByteArray) (age hh : Nat) (pv ov : Value) (P : List Pa) (O : List (Nat × Nat)), L.length = 55 ∧ L[0]? = some (.string c) ∧ L[5]? = some (.int .u64 age) ∧ L[13]? = some (.int .u64 hh) ∧ L[49]? = some pv ∧ L[50]? = some ov ∧ hh < 18446744073709551616 ∧ Pas w pv P ∧ Ofs w ov O := by
  obtain ⟨xs, m, _, _, hlen, hn, hel⟩ := DataW.trod_struct Tryz.underlying37 h
  rw [oc37] at hlen
  have hx : ∀ i, i < 10 → ∃ x, xs[i]? = some x := fun i hi => ⟨xs[i]'(by rw [hn]; exact hi), List.getElem?_eq_getElem _⟩
  obtain ⟨x0, e0⟩ := hx 0 (by omega)
  obtain ⟨x1, e1⟩ := hx 1 (by omega)
  obtain ⟨x2, e2⟩ := hx 2 (by omega)
  obtain ⟨x7, e7⟩ := hx 7 (by omega)
  obtain ⟨x8, e8⟩ := hx 8 (by omega)
  have h0 : DataW.trod enc Tryz.prog w base spare held m 9 ((L.drop 0).take (Tryz.prog.cellsOf 9)) = some x0 := (hel 0 _ rfl).trans e0
  have h1 : DataW.trod enc Tryz.prog w base spare held m 24 ((L.drop 1).take (Tryz.prog.cellsOf 24)) = some x1 := (hel 1 _ rfl).trans e1
  have h2 : DataW.trod enc Tryz.prog w base spare held m 22 ((L.drop 13).take (Tryz.prog.cellsOf 22)) = some x2 := (hel 2 _ rfl).trans e2
  have h7 : DataW.trod enc Tryz.prog w base spare held m 30 ((L.drop 49).take (Tryz.prog.cellsOf 30)) = some x7 := (hel 7 _ rfl).trans e7
  have h8 : DataW.trod enc Tryz.prog w base spare held m 31 ((L.drop 50).take (Tryz.prog.cellsOf 31)) = some x8 := (hel 8 _ rfl).trans e8
  rw [oc9] at h0
  rw [oc24] at h1
  rw [oc22] at h2
  rw [oc30] at h7
  rw [oc31] at h8
  obtain ⟨c, c0, _, _⟩ := DataW.trod_string Tryz.underlying9 h0
  obtain ⟨age, ca⟩ := open_age h1
  obtain ⟨k2, c2, _, w2⟩ := DataW.trod_int Tryz.underlying22 h2
  obtain ⟨hh, rfl, hb⟩ := u64_of w2
  have one : ∀ o, o < 55 → (L.drop o).take 1 = [L.getD o (.slice none 0 0)] := fun o ho => by
    have hg : L[o]? = some (L[o]'(by omega)) := List.getElem?_eq_getElem _
    rw [List.getD_eq_getElem?_getD, hg, List.drop_eq_getElem_cons (by omega)]
    rfl
  rw [one 49 (by omega)] at h7
  rw [one 50 (by omega)] at h8
  obtain ⟨P, hP⟩ := open_pas h7
  obtain ⟨O, hO⟩ := open_ofs h8
  refine ⟨c, age, hh, _, _, P, O, hlen, cut1 c0, ?_, cut1 c2, cut1 (one 49 (by omega)), cut1 (one 50 (by omega)), hb, hP, hO⟩
  simpa [List.getElem?_take, List.getElem?_drop] using ca
end
end Go.Proofs.YtgbcdjjnpadddaaGreatDoor

