/- ChainBegins: the argument, read; the row. -/
import Derived.Test.YtbhimedajfkioaaT6
import Derived.ProofKit
import Derived.OpenShut
import Derived.ChangeOld
import Derived.SizedLaws
import Derived.Lib.SmallJoins
import Derived.Deep.Slices
import Derived.Carry
namespace Go.Proofs.Ytbhimedajfkioaa
open Go.ChangeShapes Go.WideShapes Go.ChangeAt Go.RowKit Go.Joins Go.Deep
set_option linter.unusedVariables false

theorem own : ownKnob Try.prog.godebug = none := by kernel_rfl
theorem laidOut : laidOutB Try.prog = true := by kernel_rfl
theorem cells58 : Try.prog.cellsOf 58 = 5 := by kernel_rfl
theorem cells54 : Try.prog.cellsOf 54 = 12 := by kernel_rfl
theorem cells56 : Try.prog.cellsOf 56 = 15 := by kernel_rfl
theorem cells52 : Try.prog.cellsOf 52 = 1 := by kernel_rfl
theorem cells32 : Try.prog.cellsOf 32 = 1 := by kernel_rfl
theorem cells25 : Try.prog.cellsOf 25 = 1 := by kernel_rfl
theorem cells9 : Try.prog.cellsOf 9 = 1 := by kernel_rfl
theorem cells4 : Try.prog.cellsOf 4 = 1 := by kernel_rfl
theorem cells3 : Try.prog.cellsOf 3 = 1 := by kernel_rfl
theorem bytes58 : Try.prog.bytesOf 58 = 40 := by kernel_rfl
theorem add5 (a : Addr) (l j : Nat) : (a.add l).add j = a.add (l + j) := by
  obtain ⟨b, o, s⟩ := a
  unfold Addr.add
  by_cases hl : l = 0
  · subst hl; simp
  · by_cases hj : j = 0
    · subst hj; simp [hl]
    · simp [hl, hj, Nat.add_assoc]
theorem choose_ltT {α : Type} (x0 : α) {n : Nat} {p : Nat → α → Prop} (h : ∀ i, i < n → ∃ x, p i x) : ∃ f : Nat → α, ∀ i, i < n → p i (f i) :=
  ⟨fun i => if hi : i < n then (h i hi).choose else x0, fun i hi => by simp only [hi, dite_true]; exact (h i hi).choose_spec⟩
theorem cut1 {L : List Value} {o : Nat} {v : Value} (h : (L.drop o).take 1 = [v]) : L[o]? = some v := by
  have := congrArg (·[0]?) h
  simpa [List.getElem?_take, List.getElem?_drop] using this
theorem u64_of {n : Int} (h : (Lit.int .u64 n).wf = true) : ∃ a : Nat, n = (a : Int) ∧ a < 18446744073709551616 := by
  simp only [Lit.wf, Bool.and_eq_true, decide_eq_true_eq] at h
  rw [show IntKind.u64.min = 0 by decide, show IntKind.u64.max = 18446744073709551615 by decide] at h
  exact ⟨n.toNat, by omega, by omega⟩
theorem one_of {α : Type} {L : List α} (h : L.length = 1) : ∃ v, L = [v] := List.length_eq_one_iff.1 h
theorem four_of {α : Type} {L : List α} (h : L.length = 4) : ∃ a b c d, L = [a, b, c, d] := by
  rcases L with _ | ⟨a, _ | ⟨b, _ | ⟨c, _ | ⟨d, _ | ⟨e, L⟩⟩⟩⟩⟩ <;> first | exact ⟨_, _, _, _, rfl⟩ | (simp at h)
section
variable {H : Type} {enc : TypeId × Value → H} {w : World} {base : Nat} {spare : Nat → Bool} {held : Bool}
theorem open_ac {n : Nat} {L : List Value} {y : DataW H × List MemPlace} (h : DataW.trod enc Try.prog w base spare held n 58 L = some y) : ∃ m : Ac, L = acL m ∧ m.ok := by
  obtain ⟨xs, m, _, _, hlen, hn, hel⟩ := DataW.trod_struct Try.underlying58 h
  rw [cells58] at hlen
  have hx : ∀ i, i < 5 → ∃ x, xs[i]? = some x := fun i hi => ⟨xs[i]'(by rw [hn]; exact hi), List.getElem?_eq_getElem _⟩
  obtain ⟨x0, e0⟩ := hx 0 (by omega)
  have h0 : DataW.trod enc Try.prog w base spare held m 32 ((L.drop 0).take (Try.prog.cellsOf 32)) = some x0 := (hel 0 _ rfl).trans e0
  rw [cells32] at h0
  obtain ⟨x1, e1⟩ := hx 1 (by omega)
  have h1 : DataW.trod enc Try.prog w base spare held m 25 ((L.drop 1).take (Try.prog.cellsOf 25)) = some x1 := (hel 1 _ rfl).trans e1
  rw [cells25] at h1
  obtain ⟨x2, e2⟩ := hx 2 (by omega)
  have h2 : DataW.trod enc Try.prog w base spare held m 25 ((L.drop 2).take (Try.prog.cellsOf 25)) = some x2 := (hel 2 _ rfl).trans e2
  rw [cells25] at h2
  obtain ⟨x3, e3⟩ := hx 3 (by omega)
  have h3 : DataW.trod enc Try.prog w base spare held m 25 ((L.drop 3).take (Try.prog.cellsOf 25)) = some x3 := (hel 3 _ rfl).trans e3
  rw [cells25] at h3
  obtain ⟨x4, e4⟩ := hx 4 (by omega)
  have h4 : DataW.trod enc Try.prog w base spare held m 4 ((L.drop 4).take (Try.prog.cellsOf 4)) = some x4 := (hel 4 _ rfl).trans e4
  rw [cells4] at h4
  obtain ⟨k0, c0, _, w0⟩ := DataW.trod_int Try.underlying32 h0
  obtain ⟨k1, c1, _, w1⟩ := DataW.trod_int Try.underlying25 h1
  obtain ⟨k2, c2, _, w2⟩ := DataW.trod_int Try.underlying25 h2
  obtain ⟨k3, c3, _, w3⟩ := DataW.trod_int Try.underlying25 h3
  obtain ⟨k4, c4, _⟩ := DataW.trod_bool Try.underlying4 h4
  obtain ⟨a0, rfl, ha0⟩ := u64_of w0
  obtain ⟨a1, rfl, ha1⟩ := u64_of w1
  obtain ⟨a2, rfl, ha2⟩ := u64_of w2
  obtain ⟨a3, rfl, ha3⟩ := u64_of w3
  refine ⟨⟨a0, a1, a2, a3, k4⟩, ?_, ha0, ha1, ha2, ha3⟩
  have d0 := cut1 c0
  have d1 := cut1 c1
  have d2 := cut1 c2
  have d3 := cut1 c3
  have d4 := cut1 c4
  apply List.ext_getElem?
  intro j
  match j with
  | 0 => simpa [acL] using d0
  | 1 => simpa [acL] using d1
  | 2 => simpa [acL] using d2
  | 3 => simpa [acL] using d3
  | 4 => simpa [acL] using d4
  | j + 5 => rw [List.getElem?_eq_none (by omega), List.getElem?_eq_none (by simp [acL])]
theorem open_pm {n : Nat} {L : List Value} {y : DataW H × List MemPlace} (h : DataW.trod enc Try.prog w base spare held n 54 L = some y) : ∃ p : Pm, L = pmL p := by
  obtain ⟨xs, m, _, _, hlen, hn, hel⟩ := DataW.trod_struct Try.underlying54 h
  rw [cells54] at hlen
  have hx : ∀ i, i < 12 → ∃ x, xs[i]? = some x := fun i hi => ⟨xs[i]'(by rw [hn]; exact hi), List.getElem?_eq_getElem _⟩
  obtain ⟨x0, e0⟩ := hx 0 (by omega)
  have h0 : DataW.trod enc Try.prog w base spare held m 25 ((L.drop 0).take (Try.prog.cellsOf 25)) = some x0 := (hel 0 _ rfl).trans e0
  rw [cells25] at h0
  obtain ⟨k0, c0, _, w0⟩ := DataW.trod_int Try.underlying25 h0
  have d0 := cut1 c0
  obtain ⟨a0, rfl, _⟩ := u64_of w0
  obtain ⟨x1, e1⟩ := hx 1 (by omega)
  have h1 : DataW.trod enc Try.prog w base spare held m 3 ((L.drop 1).take (Try.prog.cellsOf 3)) = some x1 := (hel 1 _ rfl).trans e1
  rw [cells3] at h1
  obtain ⟨k1, c1, _, w1⟩ := DataW.trod_int Try.underlying3 h1
  have d1 := cut1 c1
  obtain ⟨x2, e2⟩ := hx 2 (by omega)
  have h2 : DataW.trod enc Try.prog w base spare held m 25 ((L.drop 2).take (Try.prog.cellsOf 25)) = some x2 := (hel 2 _ rfl).trans e2
  rw [cells25] at h2
  obtain ⟨k2, c2, _, w2⟩ := DataW.trod_int Try.underlying25 h2
  have d2 := cut1 c2
  obtain ⟨a2, rfl, _⟩ := u64_of w2
  obtain ⟨x3, e3⟩ := hx 3 (by omega)
  have h3 : DataW.trod enc Try.prog w base spare held m 25 ((L.drop 3).take (Try.prog.cellsOf 25)) = some x3 := (hel 3 _ rfl).trans e3
  rw [cells25] at h3
  obtain ⟨k3, c3, _, w3⟩ := DataW.trod_int Try.underlying25 h3
  have d3 := cut1 c3
  obtain ⟨a3, rfl, _⟩ := u64_of w3
  obtain ⟨x4, e4⟩ := hx 4 (by omega)
  have h4 : DataW.trod enc Try.prog w base spare held m 25 ((L.drop 4).take (Try.prog.cellsOf 25)) = some x4 := (hel 4 _ rfl).trans e4
  rw [cells25] at h4
  obtain ⟨k4, c4, _, w4⟩ := DataW.trod_int Try.underlying25 h4
  have d4 := cut1 c4
  obtain ⟨a4, rfl, _⟩ := u64_of w4
  obtain ⟨x5, e5⟩ := hx 5 (by omega)
  have h5 : DataW.trod enc Try.prog w base spare held m 3 ((L.drop 5).take (Try.prog.cellsOf 3)) = some x5 := (hel 5 _ rfl).trans e5
  rw [cells3] at h5
  obtain ⟨k5, c5, _, w5⟩ := DataW.trod_int Try.underlying3 h5
  have d5 := cut1 c5
  obtain ⟨x6, e6⟩ := hx 6 (by omega)
  have h6 : DataW.trod enc Try.prog w base spare held m 25 ((L.drop 6).take (Try.prog.cellsOf 25)) = some x6 := (hel 6 _ rfl).trans e6
  rw [cells25] at h6
  obtain ⟨k6, c6, _, w6⟩ := DataW.trod_int Try.underlying25 h6
  have d6 := cut1 c6
  obtain ⟨a6, rfl, _⟩ := u64_of w6
  obtain ⟨x7, e7⟩ := hx 7 (by omega)
  have h7 : DataW.trod enc Try.prog w base spare held m 25 ((L.drop 7).take (Try.prog.cellsOf 25)) = some x7 := (hel 7 _ rfl).trans e7
  rw [cells25] at h7
  obtain ⟨k7, c7, _, w7⟩ := DataW.trod_int Try.underlying25 h7
  have d7 := cut1 c7
  obtain ⟨a7, rfl, _⟩ := u64_of w7
  obtain ⟨x8, e8⟩ := hx 8 (by omega)
  have h8 : DataW.trod enc Try.prog w base spare held m 25 ((L.drop 8).take (Try.prog.cellsOf 25)) = some x8 := (hel 8 _ rfl).trans e8
  rw [cells25] at h8
  obtain ⟨k8, c8, _, w8⟩ := DataW.trod_int Try.underlying25 h8
  have d8 := cut1 c8
  obtain ⟨a8, rfl, _⟩ := u64_of w8
  obtain ⟨x9, e9⟩ := hx 9 (by omega)
  have h9 : DataW.trod enc Try.prog w base spare held m 25 ((L.drop 9).take (Try.prog.cellsOf 25)) = some x9 := (hel 9 _ rfl).trans e9
  rw [cells25] at h9
  obtain ⟨k9, c9, _, w9⟩ := DataW.trod_int Try.underlying25 h9
  have d9 := cut1 c9
  obtain ⟨a9, rfl, _⟩ := u64_of w9
  obtain ⟨x10, e10⟩ := hx 10 (by omega)
  have h10 : DataW.trod enc Try.prog w base spare held m 25 ((L.drop 10).take (Try.prog.cellsOf 25)) = some x10 := (hel 10 _ rfl).trans e10
  rw [cells25] at h10
  obtain ⟨k10, c10, _, w10⟩ := DataW.trod_int Try.underlying25 h10
  have d10 := cut1 c10
  obtain ⟨a10, rfl, _⟩ := u64_of w10
  obtain ⟨x11, e11⟩ := hx 11 (by omega)
  have h11 : DataW.trod enc Try.prog w base spare held m 25 ((L.drop 11).take (Try.prog.cellsOf 25)) = some x11 := (hel 11 _ rfl).trans e11
  rw [cells25] at h11
  obtain ⟨k11, c11, _, w11⟩ := DataW.trod_int Try.underlying25 h11
  have d11 := cut1 c11
  obtain ⟨a11, rfl, _⟩ := u64_of w11
  refine ⟨⟨a0, k1, a2, a3, a4, k5, a6, a7, a8, a9, a10, a11⟩, ?_⟩
  apply List.ext_getElem?
  intro j
  match j with
  | 0 => simpa [pmL] using d0
  | 1 => simpa [pmL] using d1
  | 2 => simpa [pmL] using d2
  | 3 => simpa [pmL] using d3
  | 4 => simpa [pmL] using d4
  | 5 => simpa [pmL] using d5
  | 6 => simpa [pmL] using d6
  | 7 => simpa [pmL] using d7
  | 8 => simpa [pmL] using d8
  | 9 => simpa [pmL] using d9
  | 10 => simpa [pmL] using d10
  | 11 => simpa [pmL] using d11
  | j + 12 => rw [List.getElem?_eq_none (by omega), List.getElem?_eq_none (by simp [pmL])]
set_option maxRecDepth 100000 in
theorem open_as {n : Nat} {v : Value} {y : DataW H × List MemPlace} (h : DataW.trod enc Try.prog w base spare held n 52 [v] = some y) : ∃ l, As w v l ∧ (l = [] ∨ ∃ es sp, y.1 = .slice es sp ∧ l.length ≤ es.length) := by
  rcases open_slice Try.underlying52 h with ⟨hcs, _⟩ | ⟨a, len, cap, m, n', D, Pl, hcs, _, hl, hm, hmm, hx, hel⟩
  · simp at hcs
    exact ⟨[], ⟨none, 0, hcs, (by simp), (by simp [maxLen]), (fun m hm => (by cases hm)), fun j m hm => (by simp at hm)⟩, .inl rfl⟩
  · simp at hcs
    have hlm : len ≤ m := by rw [hmm]; split <;> omega
    have hspot : 0 < len → ∃ b off, a = ⟨b, off, none⟩ := fun h0 => by
      obtain ⟨cs', h1, h2⟩ := hel 0 (by omega)
      rw [cells58] at h1
      obtain ⟨_, hl', hc⟩ := World.cells?_some h1
      obtain ⟨b, off, spot⟩ := a
      have hc0 := World.cell?_spot ((hc 0 (by omega)).trans (List.getElem?_eq_getElem (by omega)))
      have hs : spot = none := by simpa [Addr.add] using hc0
      subst hs
      exact ⟨b, off, rfl⟩
    have hex : ∀ i, i < len → ∃ x : Ac, x.ok ∧ ∃ b off, a = ⟨b, off, none⟩ ∧ w.cell? ⟨b, off + i * 5, none⟩ = some (.int .u64 x.ad) ∧ w.cell? ⟨b, off + i * 5 + 1, none⟩ = some (.int .u64 x.bal) ∧ w.cell? ⟨b, off + i * 5 + 2, none⟩ = some (.int .u64 x.bond) ∧ w.cell? ⟨b, off + i * 5 + 3, none⟩ = some (.int .u64 x.nonce) ∧ w.cell? ⟨b, off + i * 5 + 4, none⟩ = some (.bool x.jail) := by
      intro i hi
      obtain ⟨cs', h1, h2⟩ := hel i (by omega)
      rw [cells58] at h1
      obtain ⟨x, rfl, hok⟩ := open_ac h2
      obtain ⟨_, hl', hc⟩ := World.cells?_some h1
      obtain ⟨b, off, rfl⟩ := hspot (by omega)
      refine ⟨x, hok, b, off, rfl, ?_, ?_, ?_, ?_, ?_⟩
      · have := hc 0 (by omega)
        rw [add5, Addr.add_lit] at this
        simpa [acL, Nat.add_assoc] using this
      · have := hc 1 (by omega)
        rw [add5, Addr.add_lit] at this
        simpa [acL, Nat.add_assoc] using this
      · have := hc 2 (by omega)
        rw [add5, Addr.add_lit] at this
        simpa [acL, Nat.add_assoc] using this
      · have := hc 3 (by omega)
        rw [add5, Addr.add_lit] at this
        simpa [acL, Nat.add_assoc] using this
      · have := hc 4 (by omega)
        rw [add5, Addr.add_lit] at this
        simpa [acL, Nat.add_assoc] using this
    obtain ⟨f, hf⟩ := choose_ltT (⟨0, 0, 0, 0, false⟩ : Ac) hex
    refine ⟨(List.range len).map f, ⟨some a, cap, by rw [hcs]; simp, by simpa using hl, hm, fun x hx => ?_, fun j g hg => ?_⟩, .inr ⟨_, _, by rw [hx], by simp⟩⟩
    · obtain ⟨i, hi, rfl⟩ := List.mem_map.1 hx
      exact (hf i (by simpa using hi)).1
    · rw [List.getElem?_map] at hg
      by_cases hj : j < len
      · rw [List.getElem?_range hj] at hg
        simp at hg
        rw [← hg]
        obtain ⟨_, b, off, rfl, r⟩ := hf j hj
        exact ⟨b, off, rfl, r⟩
      · rw [List.getElem?_eq_none (by simpa using hj)] at hg
        cases hg
theorem open_gn {n : Nat} {L : List Value} {y : DataW H × List MemPlace} (h : DataW.trod enc Try.prog w base spare held n 56 L = some y) : ∃ (s : ByteArray) (t : Nat) (va : Value) (p : Pm) (l : List Ac), L = gnL s t va p ∧ As w va l ∧ (l = [] ∨ ∃ x0 x1 es sp x3, y.1 = .agg [x0, x1, .slice es sp, x3] ∧ l.length ≤ es.length) := by
  obtain ⟨xs, m, _, hy, hlen, hn, hel⟩ := DataW.trod_struct Try.underlying56 h
  rw [cells56] at hlen
  have hn4 : xs.length = 4 := hn
  obtain ⟨x0, x1, x2, x3, rfl⟩ := four_of hn4
  have h0 : DataW.trod enc Try.prog w base spare held m 9 ((L.drop 0).take (Try.prog.cellsOf 9)) = some x0 := (hel 0 _ rfl).trans rfl
  have h1 : DataW.trod enc Try.prog w base spare held m 25 ((L.drop 1).take (Try.prog.cellsOf 25)) = some x1 := (hel 1 _ rfl).trans rfl
  have h2 : DataW.trod enc Try.prog w base spare held m 52 ((L.drop 2).take (Try.prog.cellsOf 52)) = some x2 := (hel 2 _ rfl).trans rfl
  have h3 : DataW.trod enc Try.prog w base spare held m 54 ((L.drop 3).take (Try.prog.cellsOf 54)) = some x3 := (hel 3 _ rfl).trans rfl
  rw [cells9] at h0
  rw [cells25] at h1
  rw [cells52] at h2
  rw [cells54] at h3
  obtain ⟨s, c0, _⟩ := DataW.trod_string Try.underlying9 h0
  obtain ⟨k1, c1, _, w1⟩ := DataW.trod_int Try.underlying25 h1
  obtain ⟨t, rfl, _⟩ := u64_of w1
  have hl2 : ((L.drop 2).take 1).length = 1 := by simp; omega
  obtain ⟨v, hv⟩ := one_of hl2
  rw [hv] at h2
  obtain ⟨l, A, q⟩ := open_as h2
  obtain ⟨p, hp⟩ := open_pm h3
  refine ⟨s, t, v, p, l, ?_, A, ?_⟩
  · have d : ∀ o, L.drop o = (L.drop o).take 1 ++ L.drop (o + 1) := fun o => by
      rw [← List.drop_drop]
      exact (List.take_append_drop 1 (L.drop o)).symm
    have s3 : L.drop 3 = pmL p := by
      rw [← hp]
      exact (List.take_of_length_le (by simp; omega)).symm
    have s0 : L = (L.drop 0).take 1 ++ ((L.drop 1).take 1 ++ ((L.drop 2).take 1 ++ L.drop 3)) := by
      rw [← d 2, ← d 1, ← d 0]
      rfl
    rw [s0, c0, c1, hv, s3]
    rfl
  · rcases q with q | ⟨es, sp, q, r⟩
    · exact .inl q
    · refine .inr ⟨x0.1, x1.1, es, sp, x3.1, ?_, r⟩
      rw [hy]
      simp [q]
end
theorem gn_sized {H : Type} {ts : List TypeId} {ds : List (DataW H)} (hsz : (DataW.weightsEach Try.prog ts ds).all (· ≤ reachBytes) = true) {j : Nat} {d : DataW H} (ht : ts[j]? = some 56) (hd : ds[j]? = some d) {l : List Ac}
    (hw : l = [] ∨ ∃ x0 x1 es sp x3, d = .agg [x0, x1, .slice es sp, x3] ∧ l.length ≤ es.length) : l.length * 40 ≤ 140737488351232 := by
  rcases hw with rfl | ⟨x0, x1, es, sp, x3, rfl, hl⟩
  · simp
  · have := List.all_eq_true.1 hsz _ (DataW.weights_mem_each ht hd ((es.length + sp.length) * Try.prog.bytesOf 58) (by simp [DataW.weights, Try.underlying56, DataW.weightsEach, Try.underlying52]))
    rw [bytes58] at this
    have h2 : (es.length + sp.length) * 40 ≤ 140737488351232 := by
      have := of_decide_eq_true this
      exact this
    omega

set_option maxRecDepth 100000 in
set_option maxHeartbeats 4000000 in
theorem begins_lifted (os : Os) (started : os.Started) (H : Type) (enc : TypeId × Value → H) :
    ReturnsInHanded {} Try.checked os 4 .any (Rows.chainBeginsSpec.pre6 enc Try.prog Try.f4 Rows.chainBeginsRow.domain false) (Rows.chainBeginsSpec.post enc Try.prog Try.f4 false true false false) := by
  refine returnsInHanded_of_change_sized (C := Try.checked) own started (by kernel_rfl) Try.func4
    (ChangeSpec.witness6 (enc := enc) (C := Try.checked) false ⟨#[], #[.agg #[.string ⟨#[]⟩, .int .u64 0, .slice none 0 0, .int .u64 0, .int .i64 0, .int .u64 0, .int .u64 0, .int .u64 0, .int .i64 0, .int .u64 0, .int .u64 0, .int .u64 0, .int .u64 0, .int .u64 0, .int .u64 0]], []⟩ 8 (by kernel_rfl) (by kernel_rfl) (by kernel_rfl) (by kernel_rfl)) ?_
  intro W base args ds gs before hval0 hW hcnd hsz _
  have hval : ∀ (j : Nat) t v, Try.f4.params[j]? = some t → args[j]? = some v → Value.okWide Try.prog W .any base t v := hval0
  have hW' := hW
  obtain ⟨p, q, hA0, hV, rfl, hfz, hnd⟩ := hW
  have hA : DataW.TrodAll enc Try.prog W 0 (fun _ => true) true Try.f4.params.toList args.toList ds p := hA0
  rw [Try.params4] at hA hval hsz
  obtain ⟨v0, d0, rfl, rfl, h0⟩ := trodAll_one hA
  obtain ⟨rfl, rfl⟩ := trodVars_none hV
  have k0 := h0
  have lt0 : ∀ x ∈ p, x.block < W.heap.size := by obtain ⟨m, hm⟩ := k0; exact DataW.trod_lt m _ _ _ hm
  obtain ⟨cs, rfl, _, _⟩ : ∃ cs, v0 = .agg cs ∧ cs.size = Try.prog.cellsOf 56 ∧ Row.okWide Try.prog W .any base 56 cs := by
    have := hval 0 56 v0 rfl rfl
    simpa [Value.okWide, Try.underlying56] using this
  obtain ⟨m0, t0⟩ := h0
  obtain ⟨s, t, va, pm, l, hcs, hAs, hw⟩ := open_gn (L := cs.toList) t0
  have hle := gn_sized hsz (j := 0) rfl rfl hw
  have hwalk := begins4 W s t va pm l hAs hle
  rw [← hcs] at hwalk
  clear hA0 hval0
  refine hwalk.mono fun e W' ⟨he, tt⟩ => ?_
  subst he
  have bel := tt.below
  exact ⟨_, rfl, _, _, _, [], _, [], hW', trodAll_mk1 (shut_bool Try.underlying4 _), (trodAll_mk1 (Below.trod laidOut (by kernel_rfl) (of_decide_eq_true (by kernel_rfl)) k0 bel lt0)), rfl, bel.frame _, fun h => by cases h⟩

theorem begins_holds : Rows.ChainBeginsSaid :=
  OpenClaim.holds_of_wide 4 Try.f4 rfl rfl rfl rfl rfl rfl rfl ⟨rfl, rfl, rfl, rfl, rfl⟩ rfl rfl rfl rfl rfl (by kernel_rfl) Try.func4 (by kernel_rfl)
    (of_decide_eq_true (by kernel_rfl)) (by unfold Func.isWrapper; first | (rw [if_pos (by decide +kernel)]; kernel_rfl) | (rw [if_neg (by decide +kernel)]; exact ⟨rfl, rfl⟩))
    (fun os started H enc _ => begins_lifted os started H enc)
#print axioms begins_holds
end Go.Proofs.Ytbhimedajfkioaa
