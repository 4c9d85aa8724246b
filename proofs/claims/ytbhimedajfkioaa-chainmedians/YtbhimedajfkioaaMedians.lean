/- ChainMedians: the arguments, read; the row. -/
import Derived.Test.YtbhimedajfkioaaR1
import Derived.ProofKit
import Derived.OpenShut
import Derived.ChangeOld
import Derived.SizedLaws
import Derived.Lib.SmallJoins
import Derived.Deep.Slices
import Derived.Carry
namespace Go.Proofs.Ytbhimedajfkioaa
open Go.ChangeShapes Go.WideShapes Go.ChangeAt Go.RowKit Go.Joins Go.Deep
set_option linter.unusedVariables false

theorem own : ownKnob Try.prog.godebug = none := by kernel_rfl
theorem laidOut : laidOutB Try.prog = true := by kernel_rfl
theorem cells71 : Try.prog.cellsOf 71 = 3 := by kernel_rfl
theorem cells32 : Try.prog.cellsOf 32 = 1 := by kernel_rfl
theorem cells25 : Try.prog.cellsOf 25 = 1 := by kernel_rfl
theorem cells2 : Try.prog.cellsOf 2 = 1 := by kernel_rfl
theorem cells3 : Try.prog.cellsOf 3 = 1 := by kernel_rfl
theorem cells22 : Try.prog.cellsOf 22 = 1 := by kernel_rfl
theorem cells24 : Try.prog.cellsOf 24 = 1 := by kernel_rfl
theorem cells28 : Try.prog.cellsOf 28 = 1 := by kernel_rfl
theorem cells27 : Try.prog.cellsOf 27 = 32 := by kernel_rfl
theorem cells48 : Try.prog.cellsOf 48 = 16 := by kernel_rfl
theorem cells50 : Try.prog.cellsOf 50 = 18 := by kernel_rfl
theorem cells30 : Try.prog.cellsOf 30 = 35 := by kernel_rfl
theorem bytes71 : Try.prog.bytesOf 71 = 24 := by kernel_rfl
theorem bytes50 : Try.prog.bytesOf 50 = 32 := by kernel_rfl
theorem add3 (a : Addr) (l j : Nat) : (a.add l).add j = a.add (l + j) := by
  obtain ⟨b, o, s⟩ := a
  unfold Addr.add
  by_cases hl : l = 0
  · subst hl; simp
  · by_cases hj : j = 0
    · subst hj; simp [hl]
    · simp [hl, hj, Nat.add_assoc]
theorem choose_ltT {α : Type} (x0 : α) {n : Nat} {p : Nat → α → Prop} (h : ∀ i, i < n → ∃ x, p i x) : ∃ f : Nat → α, ∀ i, i < n → p i (f i) :=
  ⟨fun i => if hi : i < n then (h i hi).choose else x0, fun i hi => by simp only [hi, dite_true]; exact (h i hi).choose_spec⟩
theorem one_of {α : Type} {L : List α} (h : L.length = 1) : ∃ v, L = [v] := List.length_eq_one_iff.1 h
theorem four_of {α : Type} {L : List α} (h : L.length = 4) : ∃ a b c d, L = [a, b, c, d] := by
  rcases L with _ | ⟨a, _ | ⟨b, _ | ⟨c, _ | ⟨d, _ | ⟨e, L⟩⟩⟩⟩⟩ <;> first | exact ⟨_, _, _, _, rfl⟩ | (simp at h)
theorem cut1 {L : List Value} {o : Nat} {v : Value} (h : (L.drop o).take 1 = [v]) : L[o]? = some v := by
  have := congrArg (·[0]?) h
  simpa [List.getElem?_take, List.getElem?_drop] using this
theorem u64_of {n : Int} (h : (Lit.int .u64 n).wf = true) : ∃ a : Nat, n = (a : Int) ∧ a < 18446744073709551616 := by
  simp only [Lit.wf, Bool.and_eq_true, decide_eq_true_eq] at h
  rw [show IntKind.u64.min = 0 by decide, show IntKind.u64.max = 18446744073709551615 by decide] at h
  exact ⟨n.toNat, by omega, by omega⟩
theorem i64_of {n : Int} (h : (Lit.int .i64 n).wf = true) : -9223372036854775808 ≤ n ∧ n < 9223372036854775808 := by
  simp only [Lit.wf, Bool.and_eq_true, decide_eq_true_eq] at h
  rw [show IntKind.i64.min = -9223372036854775808 by decide, show IntKind.i64.max = 9223372036854775807 by decide] at h
  omega

section
variable {H : Type} {enc : TypeId × Value → H} {w : World} {base : Nat} {spare : Nat → Bool} {held : Bool}
theorem open_mb {n : Nat} {L : List Value} {y : DataW H × List MemPlace} (h : DataW.trod enc Try.prog w base spare held n 71 L = some y) : ∃ m : Mb, L = mbC m ∧ m.ok := by
  obtain ⟨xs, m, _, _, hlen, hn, hel⟩ := DataW.trod_struct Try.underlying71 h
  rw [cells71] at hlen
  have hx : ∀ i, i < 3 → ∃ x, xs[i]? = some x := fun i hi => ⟨xs[i]'(by rw [hn]; exact hi), List.getElem?_eq_getElem _⟩
  obtain ⟨x0, e0⟩ := hx 0 (by omega)
  obtain ⟨x1, e1⟩ := hx 1 (by omega)
  obtain ⟨x2, e2⟩ := hx 2 (by omega)
  have h0 : DataW.trod enc Try.prog w base spare held m 32 ((L.drop 0).take (Try.prog.cellsOf 32)) = some x0 := (hel 0 _ rfl).trans e0
  have h1 : DataW.trod enc Try.prog w base spare held m 25 ((L.drop 1).take (Try.prog.cellsOf 25)) = some x1 := (hel 1 _ rfl).trans e1
  have h2 : DataW.trod enc Try.prog w base spare held m 2 ((L.drop 2).take (Try.prog.cellsOf 2)) = some x2 := (hel 2 _ rfl).trans e2
  rw [cells32] at h0
  rw [cells25] at h1
  rw [cells2] at h2
  obtain ⟨k0, c0, _, w0⟩ := DataW.trod_int Try.underlying32 h0
  obtain ⟨k1, c1, _, w1⟩ := DataW.trod_int Try.underlying25 h1
  obtain ⟨k2, c2, _, w2⟩ := DataW.trod_int Try.underlying2 h2
  obtain ⟨a, rfl, ha⟩ := u64_of w0
  obtain ⟨b, rfl, hb⟩ := u64_of w1
  refine ⟨⟨a, b, k2⟩, ?_, ha, hb, i64_of w2⟩
  have d0 := cut1 c0
  have d1 := cut1 c1
  have d2 := cut1 c2
  apply List.ext_getElem?
  intro j
  match j with
  | 0 => simpa [mbC] using d0
  | 1 => simpa [mbC] using d1
  | 2 => simpa [mbC] using d2
  | j + 3 => rw [List.getElem?_eq_none (by omega), List.getElem?_eq_none (by simp [mbC])]

set_option maxRecDepth 100000 in
theorem open_ms {n : Nat} {v : Value} {y : DataW H × List MemPlace} (h : DataW.trod enc Try.prog w base spare held n 22 [v] = some y) : ∃ l, Ms w v l ∧ (l = [] ∨ ∃ es sp, y.1 = .slice es sp ∧ l.length ≤ es.length) := by
  rcases open_slice Try.underlying22 h with ⟨hcs, _⟩ | ⟨a, len, cap, m, n', D, Pl, hcs, _, hl, hm, hmm, hx, hel⟩
  · simp at hcs
    exact ⟨[], ⟨none, 0, hcs, (by simp), (by simp [maxLen]), (fun m hm => (by cases hm)), fun j m hm => (by simp at hm)⟩, .inl rfl⟩
  · simp at hcs
    have hlm : len ≤ m := by rw [hmm]; split <;> omega
    have hspot : 0 < len → ∃ b off, a = ⟨b, off, none⟩ := fun h0 => by
      obtain ⟨cs', h1, h2⟩ := hel 0 (by omega)
      rw [cells71] at h1
      obtain ⟨_, hl', hc⟩ := World.cells?_some h1
      obtain ⟨b, off, spot⟩ := a
      have hc0 := World.cell?_spot ((hc 0 (by omega)).trans (List.getElem?_eq_getElem (by omega)))
      have hs : spot = none := by simpa [Addr.add] using hc0
      subst hs
      exact ⟨b, off, rfl⟩
    have hex : ∀ i, i < len → ∃ x : Mb, x.ok ∧ ∃ b off, a = ⟨b, off, none⟩ ∧ w.cell? ⟨b, off + i * 3, none⟩ = some (.int .u64 x.ad) ∧ w.cell? ⟨b, off + i * 3 + 1, none⟩ = some (.int .u64 x.pw) ∧ w.cell? ⟨b, off + i * 3 + 2, none⟩ = some (.int .i64 x.pr) := by
      intro i hi
      obtain ⟨cs', h1, h2⟩ := hel i (by omega)
      rw [cells71] at h1
      obtain ⟨x, rfl, hok⟩ := open_mb h2
      obtain ⟨_, hl', hc⟩ := World.cells?_some h1
      obtain ⟨b, off, rfl⟩ := hspot (by omega)
      refine ⟨x, hok, b, off, rfl, ?_, ?_, ?_⟩
      · have := hc 0 (by omega)
        rw [add3, Addr.add_lit] at this
        simpa [mbC] using this
      · have := hc 1 (by omega)
        rw [add3, Addr.add_lit] at this
        simpa [mbC, Nat.add_assoc] using this
      · have := hc 2 (by omega)
        rw [add3, Addr.add_lit] at this
        simpa [mbC, Nat.add_assoc] using this
    obtain ⟨f, hf⟩ := choose_ltT mb0 hex
    refine ⟨(List.range len).map f, ⟨some a, cap, by rw [hcs]; simp, by simpa using hl, hm, fun x hx => ?_, fun j g hg => ?_⟩, .inr ⟨_, _, by rw [hx], by simp⟩⟩
    · obtain ⟨i, hi, rfl⟩ := List.mem_map.1 hx
      exact (hf i (by simpa using hi)).1
    · rw [List.getElem?_map] at hg
      by_cases hj : j < len
      · rw [List.getElem?_range hj] at hg
        simp at hg
        rw [← hg]
        obtain ⟨_, b, off, rfl, r⟩ := hf j hj
        exact ⟨b, off, rfl, r⟩
      · rw [List.getElem?_eq_none (by simpa using hj)] at hg
        cases hg
/-- A council: its one field. -/
theorem open_co {n : Nat} {L : List Value} {y : DataW H × List MemPlace} (h : DataW.trod enc Try.prog w base spare held n 24 L = some y) : ∃ v l, L = [v] ∧ Ms w v l ∧ (l = [] ∨ ∃ es sp, y.1 = .agg [.slice es sp] ∧ l.length ≤ es.length) := by
  obtain ⟨xs, m, hm, hy, hlen, hn, hel⟩ := DataW.trod_struct Try.underlying24 h
  rw [cells24] at hlen
  obtain ⟨v, rfl⟩ := one_of hlen
  have hn1 : xs.length = 1 := hn
  obtain ⟨x0, rfl⟩ := one_of hn1
  have h0 : DataW.trod enc Try.prog w base spare held m 22 (([v].drop 0).take (Try.prog.cellsOf 22)) = some x0 := (hel 0 _ rfl).trans rfl
  rw [cells22] at h0
  obtain ⟨l, M, q⟩ := open_ms (v := v) h0
  refine ⟨v, l, rfl, M, ?_⟩
  rcases q with q | ⟨es, sp, q, r⟩
  · exact .inl q
  · refine .inr ⟨es, sp, ?_, r⟩
    rw [hy]
    simp [q]

def byteOfV : Value → UInt8
  | .int _ k => UInt8.ofNat k.toNat
  | _ => 0
theorem open_arr {n t m : Nat} {L : List Value} {y : DataW H × List MemPlace} (hu : Try.prog.underlying t = some (.array m 5)) (hc : Try.prog.cellsOf t = m) (h : DataW.trod enc Try.prog w base spare held n t L = some y) : ∃ X : List UInt8, X.length = m ∧ L = X.map bv := by
  obtain ⟨xs, m1, _, _, hlen, hn, hel⟩ := DataW.trod_array hu h
  rw [hc] at hlen
  refine ⟨L.map byteOfV, by simpa using hlen, ?_⟩
  apply List.ext_getElem?
  intro j
  by_cases hj : j < m
  · have h0 := hel j hj
    obtain ⟨x, hxj⟩ : ∃ x, xs[j]? = some x := ⟨xs[j]'(by omega), List.getElem?_eq_getElem (by omega)⟩
    rw [hxj, cells5, Nat.mul_one] at h0
    obtain ⟨k, e1, _, wk⟩ := DataW.trod_int Try.underlying5 h0
    have hc : L[j]? = some (.int .u8 k) := by
      have := congrArg (·[0]?) e1
      simpa [List.getElem?_take, List.getElem?_drop] using this
    have hb := bounds_u8 wk
    rw [hc]
    simp [hc, byteOfV, bv]
    omega
  · rw [List.getElem?_eq_none (by omega), List.getElem?_eq_none (by simp; omega)]
theorem seL_of (X : List UInt8) (hX : X.length = 16) : X.map bv = seL (fun i => ((X.getD i 0).toNat : Int)) := by
  apply List.ext_getElem?
  intro i
  by_cases hi : i < 16
  · rw [seL_at _ i hi]
    simp [show i < X.length by omega, bv]
  · rw [List.getElem?_eq_none (by simp; omega), List.getElem?_eq_none (by simp [seL]; omega)]
theorem open_mk {n : Nat} {L : List Value} {y : DataW H × List MemPlace} (h : DataW.trod enc Try.prog w base spare held n 50 L = some y) : ∃ m : Mk, L = mkL m ∧ m.ok := by
  obtain ⟨xs, m, _, _, hlen, hn, hel⟩ := DataW.trod_struct Try.underlying50 h
  rw [cells50] at hlen
  have hx : ∀ i, i < 3 → ∃ x, xs[i]? = some x := fun i hi => ⟨xs[i]'(by rw [hn]; exact hi), List.getElem?_eq_getElem _⟩
  obtain ⟨x0, e0⟩ := hx 0 (by omega)
  obtain ⟨x1, e1⟩ := hx 1 (by omega)
  obtain ⟨x2, e2⟩ := hx 2 (by omega)
  have h0 : DataW.trod enc Try.prog w base spare held m 3 ((L.drop 0).take (Try.prog.cellsOf 3)) = some x0 := (hel 0 _ rfl).trans e0
  have h1 : DataW.trod enc Try.prog w base spare held m 25 ((L.drop 1).take (Try.prog.cellsOf 25)) = some x1 := (hel 1 _ rfl).trans e1
  have h2 : DataW.trod enc Try.prog w base spare held m 48 ((L.drop 2).take (Try.prog.cellsOf 48)) = some x2 := (hel 2 _ rfl).trans e2
  rw [cells3] at h0
  rw [cells25] at h1
  rw [cells48] at h2
  obtain ⟨k0, c0, _, w0⟩ := DataW.trod_int Try.underlying3 h0
  obtain ⟨k1, c1, _, w1⟩ := DataW.trod_int Try.underlying25 h1
  obtain ⟨X, hX, eX⟩ := open_arr Try.underlying48 cells48 h2
  obtain ⟨a, rfl, ha⟩ := u64_of w1
  refine ⟨⟨k0, a, fun i => ((X.getD i 0).toNat : Int)⟩, ?_, i64_of w0, ha⟩
  have d : ∀ o, L.drop o = (L.drop o).take 1 ++ L.drop (o + 1) := fun o => by
    rw [← List.drop_drop]
    exact (List.take_append_drop 1 (L.drop o)).symm
  have s2 : L.drop 2 = X.map bv := by
    rw [← eX]
    exact (List.take_of_length_le (by simp; omega)).symm
  have s0 : L = (L.drop 0).take 1 ++ ((L.drop 1).take 1 ++ L.drop 2) := by
    rw [← d 1, ← d 0]
    rfl
  rw [s0, c0, c1, s2, seL_of X hX]
  rfl
set_option maxRecDepth 100000 in
theorem open_ks {n : Nat} {v : Value} {y : DataW H × List MemPlace} (h : DataW.trod enc Try.prog w base spare held n 28 [v] = some y) : ∃ l, Ks w v l ∧ (l = [] ∨ ∃ es sp, y.1 = .slice es sp ∧ l.length ≤ es.length) := by
  rcases open_slice Try.underlying28 h with ⟨hcs, _⟩ | ⟨a, len, cap, m, n', D, Pl, hcs, _, hl, hm, hmm, hx, hel⟩
  · simp at hcs
    exact ⟨[], ⟨none, 0, hcs, (by simp), (by simp [maxLen]), (fun m hm => (by cases hm)), fun j m hm => (by simp at hm)⟩, .inl rfl⟩
  · simp at hcs
    have hlm : len ≤ m := by rw [hmm]; split <;> omega
    have hspot : 0 < len → ∃ b off, a = ⟨b, off, none⟩ := fun h0 => by
      obtain ⟨cs', h1, h2⟩ := hel 0 (by omega)
      rw [cells50] at h1
      obtain ⟨_, hl', hc⟩ := World.cells?_some h1
      obtain ⟨b, off, spot⟩ := a
      have hc0 := World.cell?_spot ((hc 0 (by omega)).trans (List.getElem?_eq_getElem (by omega)))
      have hs : spot = none := by simpa [Addr.add] using hc0
      subst hs
      exact ⟨b, off, rfl⟩
    have hex : ∀ i, i < len → ∃ x : Mk, x.ok ∧ ∃ b off, a = ⟨b, off, none⟩ ∧ ∀ k u, (mkL x)[k]? = some u → w.cell? ⟨b, off + i * 18 + k, none⟩ = some u := by
      intro i hi
      obtain ⟨cs', h1, h2⟩ := hel i (by omega)
      rw [cells50] at h1
      obtain ⟨x, rfl, hok⟩ := open_mk h2
      obtain ⟨_, hl', hc⟩ := World.cells?_some h1
      obtain ⟨b, off, rfl⟩ := hspot (by omega)
      refine ⟨x, hok, b, off, rfl, fun k u hu => ?_⟩
      have hk : k < 18 := by have := (List.getElem?_eq_some_iff.1 hu).1; rwa [mkL_len] at this
      have := hc k hk
      rw [add3, Addr.add_lit, hu] at this
      simpa [Nat.add_assoc] using this
    obtain ⟨f, hf⟩ := choose_ltT mk0 hex
    refine ⟨(List.range len).map f, ⟨some a, cap, by rw [hcs]; simp, by simpa using hl, hm, fun x hx => ?_, fun j g hg => ?_⟩, .inr ⟨_, _, by rw [hx], by simp⟩⟩
    · obtain ⟨i, hi, rfl⟩ := List.mem_map.1 hx
      exact (hf i (by simpa using hi)).1
    · rw [List.getElem?_map] at hg
      by_cases hj : j < len
      · rw [List.getElem?_range hj] at hg
        simp at hg
        rw [← hg]
        obtain ⟨_, b, off, rfl, r⟩ := hf j hj
        exact ⟨b, off, rfl, r⟩
      · rw [List.getElem?_eq_none (by simpa using hj)] at hg
        cases hg
/-- A certificate. -/
theorem open_ct {n : Nat} {L : List Value} {y : DataW H × List MemPlace} (h : DataW.trod enc Try.prog w base spare held n 30 L = some y) : ∃ (hh : Nat) (r : Int) (id : List UInt8) (v : Value) (l : List Mk), id.length = 32 ∧ L = ctL hh r id v ∧ Ks w v l ∧ (l = [] ∨ ∃ x0 x1 x2 es sp, y.1 = .agg [x0, x1, x2, .slice es sp] ∧ l.length ≤ es.length) := by
  obtain ⟨xs, m, hm, hy, hlen, hn, hel⟩ := DataW.trod_struct Try.underlying30 h
  rw [cells30] at hlen
  have hn4 : xs.length = 4 := hn
  obtain ⟨x0, x1, x2, x3, rfl⟩ := four_of hn4
  have h0 : DataW.trod enc Try.prog w base spare held m 25 ((L.drop 0).take (Try.prog.cellsOf 25)) = some x0 := (hel 0 _ rfl).trans rfl
  have h1 : DataW.trod enc Try.prog w base spare held m 3 ((L.drop 1).take (Try.prog.cellsOf 3)) = some x1 := (hel 1 _ rfl).trans rfl
  have h2 : DataW.trod enc Try.prog w base spare held m 27 ((L.drop 2).take (Try.prog.cellsOf 27)) = some x2 := (hel 2 _ rfl).trans rfl
  have h3 : DataW.trod enc Try.prog w base spare held m 28 ((L.drop 34).take (Try.prog.cellsOf 28)) = some x3 := (hel 3 _ rfl).trans rfl
  rw [cells25] at h0
  rw [cells3] at h1
  rw [cells27] at h2
  rw [cells28] at h3
  obtain ⟨k0, c0, _, w0⟩ := DataW.trod_int Try.underlying25 h0
  obtain ⟨k1, c1, _, _⟩ := DataW.trod_int Try.underlying3 h1
  obtain ⟨X, hX, eX⟩ := open_arr Try.underlying27 cells27 h2
  obtain ⟨a, rfl, ha⟩ := u64_of w0
  obtain ⟨v, ev⟩ := one_of (show ((L.drop 34).take 1).length = 1 by simp; omega)
  rw [ev] at h3
  obtain ⟨l, K, q⟩ := open_ks (v := v) h3
  refine ⟨a, k1, X, v, l, hX, ?_, K, ?_⟩
  · have d : ∀ o, L.drop o = (L.drop o).take 1 ++ L.drop (o + 1) := fun o => by
      rw [← List.drop_drop]
      exact (List.take_append_drop 1 (L.drop o)).symm
    have s2 : L.drop 2 = X.map bv ++ L.drop 34 := by
      rw [← eX, show (34 : Nat) = 2 + 32 from rfl, ← List.drop_drop]
      exact (List.take_append_drop 32 (L.drop 2)).symm
    have s34 : L.drop 34 = [v] := by
      rw [← ev]
      exact (List.take_of_length_le (by simp; omega)).symm
    have s0 : L = (L.drop 0).take 1 ++ ((L.drop 1).take 1 ++ L.drop 2) := by
      rw [← d 1, ← d 0]
      rfl
    rw [s0, c0, c1, s2, s34]
    rfl
  · rcases q with q | ⟨es, sp, q, r⟩
    · exact .inl q
    · refine .inr ⟨x0.1, x1.1, x2.1, es, sp, ?_, r⟩
      rw [hy]
      simp [q]
end

/-- How long a council's list may be, of what was read. -/
theorem co_sized {H : Type} {ts : List TypeId} {ds : List (DataW H)} (hsz : (DataW.weightsEach Try.prog ts ds).all (· ≤ reachBytes) = true) {j : Nat} {d : DataW H} (ht : ts[j]? = some 24) (hd : ds[j]? = some d) {l : List Mb}
    (hw : l = [] ∨ ∃ es sp, d = .agg [.slice es sp] ∧ l.length ≤ es.length) : l.length * 24 ≤ 140737488351232 := by
  rcases hw with rfl | ⟨es, sp, rfl, hl⟩
  · simp
  · have := List.all_eq_true.1 hsz _ (DataW.weights_mem_each ht hd ((es.length + sp.length) * Try.prog.bytesOf 71) (by simp [DataW.weights, Try.underlying24, DataW.weightsEach, Try.underlying22]))
    rw [bytes71] at this
    have h2 : (es.length + sp.length) * 24 ≤ 140737488351232 := by
      have := of_decide_eq_true this
      exact this
    omega
theorem ct_sized {H : Type} {ts : List TypeId} {ds : List (DataW H)} (hsz : (DataW.weightsEach Try.prog ts ds).all (· ≤ reachBytes) = true) {j : Nat} {d : DataW H} (ht : ts[j]? = some 30) (hd : ds[j]? = some d) {l : List Mk}
    (hw : l = [] ∨ ∃ x0 x1 x2 es sp, d = .agg [x0, x1, x2, .slice es sp] ∧ l.length ≤ es.length) : l.length * 32 ≤ 140737488351232 := by
  rcases hw with rfl | ⟨x0, x1, x2, es, sp, rfl, hl⟩
  · simp
  · have := List.all_eq_true.1 hsz _ (DataW.weights_mem_each ht hd ((es.length + sp.length) * Try.prog.bytesOf 50) (by simp [DataW.weights, Try.underlying30, DataW.weightsEach, Try.underlying28]))
    rw [bytes50] at this
    have h2 : (es.length + sp.length) * 32 ≤ 140737488351232 := by
      have := of_decide_eq_true this
      exact this
    omega

set_option maxRecDepth 100000 in
set_option maxHeartbeats 4000000 in
theorem medians_lifted (os : Os) (started : os.Started) (H : Type) (enc : TypeId × Value → H) :
    ReturnsInHanded {} Try.checked os 3 .any (Rows.chainMediansSpec.pre6 enc Try.prog Try.f3 Rows.chainMediansRow.domain false) (Rows.chainMediansSpec.post enc Try.prog Try.f3 false true false false) := by
  refine returnsInHanded_of_change_sized (C := Try.checked) own started (by kernel_rfl) Try.func3
    (ChangeSpec.witness6 (enc := enc) (C := Try.checked) false ⟨#[], #[.agg #[.slice none 0 0], .agg #[.int .u64 0, .int .i64 0, .int .u8 0, .int .u8 0, .int .u8 0, .int .u8 0, .int .u8 0, .int .u8 0, .int .u8 0, .int .u8 0, .int .u8 0, .int .u8 0, .int .u8 0, .int .u8 0, .int .u8 0, .int .u8 0, .int .u8 0, .int .u8 0, .int .u8 0, .int .u8 0, .int .u8 0, .int .u8 0, .int .u8 0, .int .u8 0, .int .u8 0, .int .u8 0, .int .u8 0, .int .u8 0, .int .u8 0, .int .u8 0, .int .u8 0, .int .u8 0, .int .u8 0, .int .u8 0, .slice none 0 0]], []⟩ 8 (by kernel_rfl) (by kernel_rfl) (by kernel_rfl) (by kernel_rfl)) ?_
  intro W base args ds gs before hval0 hW hcnd hsz _
  have hval : ∀ (j : Nat) t v, Try.f3.params[j]? = some t → args[j]? = some v → Value.okWide Try.prog W .any base t v := hval0
  have hW' := hW
  obtain ⟨p, q, hA0, hV, rfl, hfz, hnd⟩ := hW
  have hA : DataW.TrodAll enc Try.prog W 0 (fun _ => true) true Try.f3.params.toList args.toList ds p := hA0
  rw [Try.params3] at hA hval hsz
  obtain ⟨v0, v1, d0, d1, p0, p1, rfl, rfl, rfl, h0, h1⟩ := trodAll_two hA
  obtain ⟨rfl, rfl⟩ := trodVars_none hV
  have k0 := h0
  have k1 := h1
  have lt0 : ∀ x ∈ p0, x.block < W.heap.size := by obtain ⟨m, hm⟩ := k0; exact DataW.trod_lt m _ _ _ hm
  have lt1 : ∀ x ∈ p1, x.block < W.heap.size := by obtain ⟨m, hm⟩ := k1; exact DataW.trod_lt m _ _ _ hm
  obtain ⟨cs, rfl, _, _⟩ : ∃ cs, v0 = .agg cs ∧ cs.size = Try.prog.cellsOf 24 ∧ Row.okWide Try.prog W .any base 24 cs := by
    have := hval 0 24 v0 rfl rfl
    simpa [Value.okWide, Try.underlying24] using this
  obtain ⟨cs', rfl, _, _⟩ : ∃ cs, v1 = .agg cs ∧ cs.size = Try.prog.cellsOf 30 ∧ Row.okWide Try.prog W .any base 30 cs := by
    have := hval 1 30 v1 rfl rfl
    simpa [Value.okWide, Try.underlying30] using this
  obtain ⟨m0, t0⟩ := h0
  obtain ⟨m1, t1⟩ := h1
  obtain ⟨v, M, hcs, hM, hwM⟩ := open_co (L := cs.toList) t0
  obtain ⟨hh, r, id, u, l, hid, hct, hK, hwK⟩ := open_ct (L := cs'.toList) t1
  have hleM := co_sized hsz (j := 0) rfl rfl hwM
  have hleK := ct_sized hsz (j := 1) rfl rfl hwK
  have hc : cs = #[v] := by
    apply Array.ext'
    simpa using hcs
  subst hc
  have hwalk := medians3 W v M hM hleM hh r id hid u l hK hleK
  rw [← hct] at hwalk
  clear hA0 hval0
  refine hwalk.mono fun e W' ⟨he, tt⟩ => ?_
  subst he
  have bel := tt.below
  exact ⟨_, rfl, _, _, _, [], _, [], hW', trodAll_mk1 (shut_bool Try.underlying4 _), (trodAll_mk2 (Below.trod laidOut (by kernel_rfl) (of_decide_eq_true (by kernel_rfl)) k0 bel lt0) (Below.trod laidOut (by kernel_rfl) (of_decide_eq_true (by kernel_rfl)) k1 bel lt1)), rfl, bel.frame _, fun h => by cases h⟩

theorem medians_holds : Rows.ChainMediansSaid :=
  OpenClaim.holds_of_wide 3 Try.f3 rfl rfl rfl rfl rfl rfl rfl ⟨rfl, rfl, rfl, rfl, rfl⟩ rfl rfl rfl rfl rfl (by kernel_rfl) Try.func3 (by kernel_rfl)
    (of_decide_eq_true (by kernel_rfl)) (by unfold Func.isWrapper; first | (rw [if_pos (by decide +kernel)]; kernel_rfl) | (rw [if_neg (by decide +kernel)]; exact ⟨rfl, rfl⟩))
    (fun os started H enc _ => medians_lifted os started H enc)
#print axioms medians_holds
end Go.Proofs.Ytbhimedajfkioaa
