/- Lists of members and councils, read. -/
import Derived.Test.YtgjhhmdpepdepaaDoorN4
import Derived.Test.YtgjhhmdpepdepaaDoorLaid
import Derived.ProofKit
import Derived.OpenShut
import Derived.ChangeOld
import Derived.SizedLaws
import Derived.Lib.SmallJoins
import Derived.Deep.Slices
namespace Go.Proofs.YtgjhhmdpepdepaaDoor
open Go.ChangeShapes Go.WideShapes Go.ChangeAt Go.RowKit Go.Joins Go.Deep
set_option linter.unusedVariables false

theorem laidOut : laidOutB Tryd.prog = true := by kernel_rfl
theorem cells44 : Tryd.prog.cellsOf 37 = 3 := by kernel_rfl
theorem cells31 : Tryd.prog.cellsOf 35 = 1 := by kernel_rfl
theorem cells30 : Tryd.prog.cellsOf 34 = 1 := by kernel_rfl
theorem cells2 : Tryd.prog.cellsOf 2 = 1 := by kernel_rfl
theorem cells22 : Tryd.prog.cellsOf 22 = 1 := by kernel_rfl
theorem cells24 : Tryd.prog.cellsOf 24 = 1 := by kernel_rfl
theorem bytes44 : Tryd.prog.bytesOf 37 = 24 := by kernel_rfl
theorem add3 (a : Addr) (l j : Nat) : (a.add l).add j = a.add (l + j) := by
  obtain ⟨b, o, s⟩ := a
  unfold Addr.add
  by_cases hl : l = 0
  · subst hl; simp
  · by_cases hj : j = 0
    · subst hj; simp [hl]
    · simp [hl, hj, Nat.add_assoc]
theorem choose_ltT {α : Type} (d : α) {n : Nat} {p : Nat → α → Prop} (h : ∀ i, i < n → ∃ x, p i x) : ∃ f : Nat → α, ∀ i, i < n → p i (f i) :=
  ⟨fun i => if hi : i < n then (h i hi).choose else d, fun i hi => by simp only [hi, dite_true]; exact (h i hi).choose_spec⟩
theorem cut1 {L : List Value} {o : Nat} {v : Value} (h : (L.drop o).take 1 = [v]) : L[o]? = some v := by
  have := congrArg (·[0]?) h
  simpa [List.getElem?_take, List.getElem?_drop] using this
theorem u64_of {n : Int} (h : (Lit.int .u64 n).wf = true) : ∃ a : Nat, n = (a : Int) ∧ a < 18446744073709551616 := by
  simp only [Lit.wf, Bool.and_eq_true, decide_eq_true_eq] at h
  rw [show IntKind.u64.min = 0 by decide, show IntKind.u64.max = 18446744073709551615 by decide] at h
  exact ⟨n.toNat, by omega, by omega⟩
theorem i64_of {n : Int} (h : (Lit.int .i64 n).wf = true) : -9223372036854775808 ≤ n ∧ n < 9223372036854775808 := by
  simp only [Lit.wf, Bool.and_eq_true, decide_eq_true_eq] at h
  rw [show IntKind.i64.min = -9223372036854775808 by decide, show IntKind.i64.max = 9223372036854775807 by decide] at h
  omega

section
variable {H : Type} {enc : TypeId × Value → H} {w : World} {base : Nat} {spare : Nat → Bool} {held : Bool}
theorem open_mb {n : Nat} {L : List Value} {y : DataW H × List MemPlace} (h : DataW.trod enc Tryd.prog w base spare held n 37 L = some y) : ∃ m : Mb, L = mbC m ∧ m.ok := by
  obtain ⟨xs, m, _, _, hlen, hn, hel⟩ := DataW.trod_struct Tryd.underlying37 h
  rw [cells44] at hlen
  have hx : ∀ i, i < 3 → ∃ x, xs[i]? = some x := fun i hi => ⟨xs[i]'(by rw [hn]; exact hi), List.getElem?_eq_getElem _⟩
  obtain ⟨x0, e0⟩ := hx 0 (by omega)
  obtain ⟨x1, e1⟩ := hx 1 (by omega)
  obtain ⟨x2, e2⟩ := hx 2 (by omega)
  have h0 : DataW.trod enc Tryd.prog w base spare held m 35 ((L.drop 0).take (Tryd.prog.cellsOf 35)) = some x0 := (hel 0 _ rfl).trans e0
  have h1 : DataW.trod enc Tryd.prog w base spare held m 34 ((L.drop 1).take (Tryd.prog.cellsOf 34)) = some x1 := (hel 1 _ rfl).trans e1
  have h2 : DataW.trod enc Tryd.prog w base spare held m 2 ((L.drop 2).take (Tryd.prog.cellsOf 2)) = some x2 := (hel 2 _ rfl).trans e2
  rw [cells31] at h0
  rw [cells30] at h1
  rw [cells2] at h2
  obtain ⟨k0, c0, _, w0⟩ := DataW.trod_int Tryd.underlying35 h0
  obtain ⟨k1, c1, _, w1⟩ := DataW.trod_int Tryd.underlying34 h1
  obtain ⟨k2, c2, _, w2⟩ := DataW.trod_int Tryd.underlying2 h2
  obtain ⟨a, rfl, ha⟩ := u64_of w0
  obtain ⟨b, rfl, hb⟩ := u64_of w1
  refine ⟨⟨a, b, k2⟩, ?_, ha, hb, i64_of w2⟩
  have d0 := cut1 c0
  have d1 := cut1 c1
  have d2 := cut1 c2
  apply List.ext_getElem?
  intro j
  match j with
  | 0 => simpa [mbC] using d0
  | 1 => simpa [mbC] using d1
  | 2 => simpa [mbC] using d2
  | j + 3 => rw [List.getElem?_eq_none (by omega), List.getElem?_eq_none (by simp [mbC])]

set_option maxRecDepth 100000 in
theorem open_ms {n : Nat} {v : Value} {y : DataW H × List MemPlace} (h : DataW.trod enc Tryd.prog w base spare held n 22 [v] = some y) : ∃ l, Ms w v l ∧ (l = [] ∨ ∃ es sp, y.1 = .slice es sp ∧ l.length ≤ es.length) := by
  rcases open_slice Tryd.underlying22 h with ⟨hcs, _⟩ | ⟨a, len, cap, m, n', D, Pl, hcs, _, hl, hm, hmm, hx, hel⟩
  · simp at hcs
    exact ⟨[], ⟨none, 0, hcs, (by simp), (by simp [maxLen]), (fun m hm => (by cases hm)), fun j m hm => (by simp at hm)⟩, .inl rfl⟩
  · simp at hcs
    have hlm : len ≤ m := by rw [hmm]; split <;> omega
    have hspot : 0 < len → ∃ b off, a = ⟨b, off, none⟩ := fun h0 => by
      obtain ⟨cs', h1, h2⟩ := hel 0 (by omega)
      rw [cells44] at h1
      obtain ⟨_, hl', hc⟩ := World.cells?_some h1
      obtain ⟨b, off, spot⟩ := a
      have hc0 := World.cell?_spot ((hc 0 (by omega)).trans (List.getElem?_eq_getElem (by omega)))
      have hs : spot = none := by simpa [Addr.add] using hc0
      subst hs
      exact ⟨b, off, rfl⟩
    have hex : ∀ i, i < len → ∃ x : Mb, x.ok ∧ ∃ b off, a = ⟨b, off, none⟩ ∧ w.cell? ⟨b, off + i * 3, none⟩ = some (.int .u64 x.ad) ∧ w.cell? ⟨b, off + i * 3 + 1, none⟩ = some (.int .u64 x.pw) ∧ w.cell? ⟨b, off + i * 3 + 2, none⟩ = some (.int .i64 x.pr) := by
      intro i hi
      obtain ⟨cs', h1, h2⟩ := hel i (by omega)
      rw [cells44] at h1
      obtain ⟨x, rfl, hok⟩ := open_mb h2
      obtain ⟨_, hl', hc⟩ := World.cells?_some h1
      obtain ⟨b, off, rfl⟩ := hspot (by omega)
      refine ⟨x, hok, b, off, rfl, ?_, ?_, ?_⟩
      · have := hc 0 (by omega)
        rw [add3, Addr.add_lit] at this
        simpa [mbC] using this
      · have := hc 1 (by omega)
        rw [add3, Addr.add_lit] at this
        simpa [mbC, Nat.add_assoc] using this
      · have := hc 2 (by omega)
        rw [add3, Addr.add_lit] at this
        simpa [mbC, Nat.add_assoc] using this
    obtain ⟨f, hf⟩ := choose_ltT mb0 hex
    refine ⟨(List.range len).map f, ⟨some a, cap, by rw [hcs]; simp, by simpa using hl, hm, fun x hx => ?_, fun j g hg => ?_⟩, .inr ⟨_, _, by rw [hx], by simp⟩⟩
    · obtain ⟨i, hi, rfl⟩ := List.mem_map.1 hx
      exact (hf i (by simpa using hi)).1
    · rw [List.getElem?_map] at hg
      by_cases hj : j < len
      · rw [List.getElem?_range hj] at hg
        simp at hg
        rw [← hg]
        obtain ⟨_, b, off, rfl, r⟩ := hf j hj
        exact ⟨b, off, rfl, r⟩
      · rw [List.getElem?_eq_none (by simpa using hj)] at hg
        cases hg
/-- A council: its one field. -/
theorem open_co {n : Nat} {L : List Value} {y : DataW H × List MemPlace} (h : DataW.trod enc Tryd.prog w base spare held n 24 L = some y) : ∃ v l, L = [v] ∧ Ms w v l ∧ (l = [] ∨ ∃ es sp, y.1 = .agg [.slice es sp] ∧ l.length ≤ es.length) := by
  obtain ⟨xs, m, hm, hy, hlen, hn, hel⟩ := DataW.trod_struct Tryd.underlying24 h
  rw [cells24] at hlen
  obtain ⟨v, rfl⟩ : ∃ v, L = [v] := by
    match L, hlen with
    | [v], _ => exact ⟨v, rfl⟩
  have hn1 : xs.length = 1 := hn
  obtain ⟨x0, rfl⟩ : ∃ x, xs = [x] := by
    match xs, hn1 with
    | [x], _ => exact ⟨x, rfl⟩
  have h0 : DataW.trod enc Tryd.prog w base spare held m 22 (([v].drop 0).take (Tryd.prog.cellsOf 22)) = some x0 := (hel 0 _ rfl).trans rfl
  rw [cells22] at h0
  obtain ⟨l, M, q⟩ := open_ms (v := v) h0
  refine ⟨v, l, rfl, M, ?_⟩
  rcases q with q | ⟨es, sp, q, r⟩
  · exact .inl q
  · refine .inr ⟨es, sp, ?_, r⟩
    rw [hy]
    simp [q]
end
end Go.Proofs.YtgjhhmdpepdepaaDoor

