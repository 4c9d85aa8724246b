/- Arguments, read. -/
import Derived.Test.YtcdogciacchigabN0
import Derived.ProofKit
import Derived.OpenShut
import Derived.ChangeOld
import Derived.SizedLaws
import Derived.Lib.SmallJoins
import Derived.Deep.Slices
import Derived.Deep.Strs
namespace Go.Proofs.Ytcdogciacchigab
open Go.ChangeShapes Go.WideShapes Go.ChangeAt Go.RowKit Go.Joins Go.Deep
set_option linter.unusedVariables false

theorem own : ownKnob Try.prog.godebug = none := by kernel_rfl
theorem laidOut : laidOutB Try.prog = true := by kernel_rfl
theorem cells3 : Try.prog.cellsOf 3 = 1 := by kernel_rfl
theorem cells4 : Try.prog.cellsOf 4 = 1 := by kernel_rfl
theorem cells5 : Try.prog.cellsOf 5 = 1 := by kernel_rfl
theorem cells9 : Try.prog.cellsOf 9 = 1 := by kernel_rfl
theorem cells31 : Try.prog.cellsOf 28 = 1 := by kernel_rfl
theorem cells39 : Try.prog.cellsOf 31 = 1 := by kernel_rfl
theorem cells29 : Try.prog.cellsOf 30 = 3 := by kernel_rfl
theorem cells44 : Try.prog.cellsOf 33 = 10 := by kernel_rfl
theorem cells41 : Try.prog.cellsOf 66 = 2 := by kernel_rfl
theorem cells34 : Try.prog.cellsOf 22 = 1 := by kernel_rfl
theorem cells36 : Try.prog.cellsOf 24 = 1 := by kernel_rfl
theorem cells52 : Try.prog.cellsOf 26 = 3 := by kernel_rfl
theorem bytes44 : Try.prog.bytesOf 33 = 120 := by kernel_rfl
theorem bytes41 : Try.prog.bytesOf 66 = 40 := by kernel_rfl
theorem add3 (a : Addr) (l j : Nat) : (a.add l).add j = a.add (l + j) := by
  obtain ⟨b, o, s⟩ := a
  unfold Addr.add
  by_cases hl : l = 0
  · subst hl; simp
  · by_cases hj : j = 0
    · subst hj; simp [hl]
    · simp [hl, hj, Nat.add_assoc]
theorem choose_ltT {α : Type} [Inhabited α] {n : Nat} {p : Nat → α → Prop} (h : ∀ i, i < n → ∃ x, p i x) : ∃ f : Nat → α, ∀ i, i < n → p i (f i) :=
  ⟨fun i => if hi : i < n then (h i hi).choose else default, fun i hi => by simp only [hi, dite_true]; exact (h i hi).choose_spec⟩
theorem cut1 {L : List Value} {o : Nat} {v : Value} (h : (L.drop o).take 1 = [v]) : L[o]? = some v := by
  have := congrArg (·[0]?) h
  simpa [List.getElem?_take, List.getElem?_drop] using this
theorem one_drop {L : List Value} {o : Nat} (h : o < L.length) : (L.drop o).take 1 = [L[o]] := by
  apply List.ext_getElem?
  intro j
  cases j with
  | zero => simp [List.getElem?_drop, h]
  | succ j => simp [List.getElem?_take]
theorem u8_wf {n : Int} (h : (Lit.int .u8 n).wf = true) : 0 ≤ n ∧ n < 256 := by
  have := bounds_u8 h
  omega

section
variable {H : Type} {enc : TypeId × Value → H} {w : World} {base : Nat} {spare : Nat → Bool} {held : Bool}
theorem open_bytes {n : Nat} {v : Value} {y : DataW H × List MemPlace} (h : DataW.trod enc Try.prog w base spare held n 28 [v] = some y) : ∃ bs, Bs w v bs ∧ (bs = [] ∨ ∀ g, v.ownBlock = some g → g < w.heap.size) := by
  rcases open_ints Try.underlying28 Try.underlying5 cells5 h with ⟨hcs, hx⟩ | ⟨a, len, cap, zs, hcs, _, hl, hm, hz, hx, hcell, hwz⟩
  · simp at hcs
    exact ⟨[], Or.inl ⟨hcs, rfl⟩, Or.inl rfl⟩
  · simp at hcs
    have hlen : len ≤ zs.length := by rw [hz]; split <;> omega
    have hbl : ((zs.take len).map fun z => UInt8.ofNat z.toNat).length = len := by simp; omega
    refine ⟨(zs.take len).map fun z => UInt8.ofNat z.toNat, Or.inr ⟨a, cap, by rw [hcs, hbl], by rw [hbl]; exact hl, hm, fun j u hu => ?_⟩, ?_⟩
    · have hj : j < len := by
        have := (List.getElem?_eq_some_iff.1 hu).1
        omega
      rw [hcell j (by omega)]
      rw [List.getElem?_map, List.getElem?_take, if_pos hj, List.getElem?_eq_getElem (by omega)] at hu
      simp only [Option.map_some, Option.some.injEq] at hu
      rw [← hu]
      have hw := u8_wf (hwz zs[j] (List.getElem_mem _))
      have e1 : zs.getD j 0 = zs[j] := by simp [show j < zs.length by omega]
      rw [e1]
      unfold bv
      congr 2
      simp
      omega
    · by_cases h0 : len = 0
      · left; subst h0; simp
      · right
        intro g hg
        rw [hcs] at hg
        cases hg
        have := World.block_lt_of_cell? w _ (hcell 0 (by omega))
        have e : (a.add 0).block = a.block := by unfold Addr.add; split <;> rfl
        rw [e] at this
        exact this
theorem open_keep {n : Nat} {v : Value} {y : DataW H × List MemPlace} (h : DataW.trod enc Try.prog w base spare held n 31 [v] = some y) : ∃ ks : List Int, Vs w v (ks.map iv) ∧ (ks = [] ∨ ∀ g, v.ownBlock = some g → g < w.heap.size) := by
  rcases open_ints Try.underlying31 Try.underlying3 cells3 h with ⟨hcs, hx⟩ | ⟨a, len, cap, zs, hcs, _, hl, hm, hz, hx, hcell, hwz⟩
  · simp at hcs
    exact ⟨[], Or.inl ⟨hcs, rfl⟩, Or.inl rfl⟩
  · simp at hcs
    have hlen : len ≤ zs.length := by rw [hz]; split <;> omega
    have hbl : ((zs.take len).map iv).length = len := by simp; omega
    refine ⟨zs.take len, Or.inr ⟨a, cap, by rw [hcs, hbl], by rw [hbl]; exact hl, hm, fun j u hu => ?_⟩, ?_⟩
    · have hj : j < len := by
        have := (List.getElem?_eq_some_iff.1 hu).1
        omega
      rw [hcell j (by omega)]
      rw [List.getElem?_map, List.getElem?_take, if_pos hj, List.getElem?_eq_getElem (by omega)] at hu
      simp only [Option.map_some, Option.some.injEq] at hu
      rw [← hu]
      have e1 : zs.getD j 0 = zs[j] := by simp [show j < zs.length by omega]
      rw [e1]
      rfl
    · by_cases h0 : len = 0
      · left; subst h0; simp
      · right
        intro g hg
        rw [hcs] at hg
        cases hg
        have := World.block_lt_of_cell? w _ (hcell 0 (by omega))
        have e : (a.add 0).block = a.block := by unfold Addr.add; split <;> rfl
        rw [e] at this
        exact this
theorem open_tr {n : Nat} {L : List Value} {y : DataW H × List MemPlace} (h : DataW.trod enc Try.prog w base spare held n 30 L = some y) : ∃ t : Tr, L = [.int .i64 t.when, .int .i64 t.kind, .bool t.done] := by
  obtain ⟨xs, m, _, _, hlen, hn, hel⟩ := DataW.trod_struct Try.underlying30 h
  rw [cells29] at hlen
  have hx : ∀ i, i < 3 → ∃ x, xs[i]? = some x := fun i hi => ⟨xs[i]'(by rw [hn]; exact hi), List.getElem?_eq_getElem _⟩
  obtain ⟨x0, e0⟩ := hx 0 (by omega)
  obtain ⟨x1, e1⟩ := hx 1 (by omega)
  obtain ⟨x2, e2⟩ := hx 2 (by omega)
  have h0 : DataW.trod enc Try.prog w base spare held m 3 ((L.drop 0).take (Try.prog.cellsOf 3)) = some x0 := (hel 0 _ rfl).trans e0
  have h1 : DataW.trod enc Try.prog w base spare held m 3 ((L.drop 1).take (Try.prog.cellsOf 3)) = some x1 := (hel 1 _ rfl).trans e1
  have h2 : DataW.trod enc Try.prog w base spare held m 4 ((L.drop 2).take (Try.prog.cellsOf 4)) = some x2 := (hel 2 _ rfl).trans e2
  rw [cells3] at h0 h1
  rw [cells4] at h2
  obtain ⟨k0, c0, _, w0⟩ := DataW.trod_int Try.underlying3 h0
  obtain ⟨k1, c1, _, w1⟩ := DataW.trod_int Try.underlying3 h1
  obtain ⟨k2, c2, _⟩ := DataW.trod_bool Try.underlying4 h2
  refine ⟨⟨k0, k1, k2⟩, ?_⟩
  have d0 := cut1 c0
  have d1 := cut1 c1
  have d2 := cut1 c2
  apply List.ext_getElem?
  intro j
  match j with
  | 0 => simpa using d0
  | 1 => simpa using d1
  | 2 => simpa using d2
  | j + 3 => rw [List.getElem?_eq_none (by omega), List.getElem?_eq_none (by simp)]
theorem open_str {n : Nat} {v : Value} {y : DataW H × List MemPlace} (h : DataW.trod enc Try.prog w base spare held n 9 [v] = some y) : ∃ s : Nm, v = strV s ∧ s.length ≤ maxLen := by
  obtain ⟨s, hs, _, hw⟩ := DataW.trod_string Try.underlying9 h
  simp at hs
  exact ⟨s.data.toList, by rw [hs]; simp [strV], by rw [Array.length_toList]; exact hw⟩
theorem open_op {n : Nat} {L : List Value} {y : DataW H × List MemPlace} (h : DataW.trod enc Try.prog w base spare held n 33 L = some y) : ∃ o : Opx, L = (opC o).toList ∧ Ox w.heap.size w o := by
  obtain ⟨xs, m, _, _, hlen, hn, hel⟩ := DataW.trod_struct Try.underlying33 h
  rw [cells44] at hlen
  have hx : ∀ i, i < 8 → ∃ x, xs[i]? = some x := fun i hi => ⟨xs[i]'(by rw [hn]; exact hi), List.getElem?_eq_getElem _⟩
  obtain ⟨x0, e0⟩ := hx 0 (by omega)
  obtain ⟨x1, e1⟩ := hx 1 (by omega)
  obtain ⟨x2, e2⟩ := hx 2 (by omega)
  obtain ⟨x3, e3⟩ := hx 3 (by omega)
  obtain ⟨x4, e4⟩ := hx 4 (by omega)
  obtain ⟨x5, e5⟩ := hx 5 (by omega)
  obtain ⟨x6, e6⟩ := hx 6 (by omega)
  obtain ⟨x7, e7⟩ := hx 7 (by omega)
  have h0 : DataW.trod enc Try.prog w base spare held m 3 ((L.drop 0).take (Try.prog.cellsOf 3)) = some x0 := (hel 0 _ rfl).trans e0
  have h1 : DataW.trod enc Try.prog w base spare held m 3 ((L.drop 1).take (Try.prog.cellsOf 3)) = some x1 := (hel 1 _ rfl).trans e1
  have h2 : DataW.trod enc Try.prog w base spare held m 9 ((L.drop 2).take (Try.prog.cellsOf 9)) = some x2 := (hel 2 _ rfl).trans e2
  have h3 : DataW.trod enc Try.prog w base spare held m 28 ((L.drop 3).take (Try.prog.cellsOf 28)) = some x3 := (hel 3 _ rfl).trans e3
  have h4 : DataW.trod enc Try.prog w base spare held m 3 ((L.drop 4).take (Try.prog.cellsOf 3)) = some x4 := (hel 4 _ rfl).trans e4
  have h5 : DataW.trod enc Try.prog w base spare held m 30 ((L.drop 5).take (Try.prog.cellsOf 30)) = some x5 := (hel 5 _ rfl).trans e5
  have h6 : DataW.trod enc Try.prog w base spare held m 31 ((L.drop 8).take (Try.prog.cellsOf 31)) = some x6 := (hel 6 _ rfl).trans e6
  have h7 : DataW.trod enc Try.prog w base spare held m 5 ((L.drop 9).take (Try.prog.cellsOf 5)) = some x7 := (hel 7 _ rfl).trans e7
  rw [cells3] at h0 h1 h4
  rw [cells9, one_drop (by omega)] at h2
  rw [cells31, one_drop (by omega)] at h3
  rw [cells29] at h5
  rw [cells39, one_drop (by omega)] at h6
  rw [cells5] at h7
  obtain ⟨k0, c0, _, w0⟩ := DataW.trod_int Try.underlying3 h0
  obtain ⟨k1, c1, _, w1⟩ := DataW.trod_int Try.underlying3 h1
  obtain ⟨s, es, hs⟩ := open_str h2
  obtain ⟨bs, hb, hbo⟩ := open_bytes h3
  obtain ⟨k4, c4, _, w4⟩ := DataW.trod_int Try.underlying3 h4
  obtain ⟨t, et⟩ := open_tr h5
  obtain ⟨ks, hk, hko⟩ := open_keep h6
  obtain ⟨k7, c7, _, w7⟩ := DataW.trod_int Try.underlying5 h7
  have hb7 := u8_wf w7
  refine ⟨⟨k0, k1, s, L[3], bs, k4, t, L[8], ks, UInt8.ofNat k7.toNat⟩, ?_, ⟨hs, hb, hk, fun hne g hg => ?_, fun hne g hg => ?_⟩⟩
  · have d0 := cut1 c0
    have d1 := cut1 c1
    have d4 := cut1 c4
    have d7 := cut1 c7
    have dt : ∀ j, j < 3 → L[5 + j]? = [Value.int .i64 t.when, .int .i64 t.kind, .bool t.done][j]? := fun j hj => by
      rw [← et, List.getElem?_take, if_pos hj, List.getElem?_drop]
    apply List.ext_getElem?
    intro j
    match j with
    | 0 => simpa [opC] using d0
    | 1 => simpa [opC] using d1
    | 2 =>
      have : L[2]? = some L[2] := List.getElem?_eq_getElem (by omega)
      rw [this, es]; simp [opC]
    | 3 => simp [opC, show 3 < L.length by omega]
    | 4 => simpa [opC] using d4
    | 5 => simpa [opC] using dt 0 (by omega)
    | 6 => simpa [opC] using dt 1 (by omega)
    | 7 => simpa [opC] using dt 2 (by omega)
    | 8 => simp [opC, show 8 < L.length by omega]
    | 9 =>
      rw [d7]
      simp [opC]
      omega
    | j + 10 => rw [List.getElem?_eq_none (by omega), List.getElem?_eq_none (by simp [opC])]
  · rcases hbo with q | q
    · exact (hne q).elim
    · exact q g hg
  · rcases hko with q | q
    · exact (hne q).elim
    · exact q g hg
/-- A script. -/
def Sc (B : Nat) (w : World) (v : Value) (l : List Opx) : Prop :=
  ∃ a cap, v = .slice a l.length cap ∧ l.length ≤ cap ∧ cap ≤ maxLen ∧ (∀ o ∈ l, Ox B w o) ∧ ∀ j o, l[j]? = some o → ∃ b off, a = some ⟨b, off, none⟩ ∧ b < B ∧ ∀ i u, (opC o)[i]? = some u → w.cell? ⟨b, off + j * 10 + i, none⟩ = some u
set_option maxRecDepth 100000 in
theorem open_script {n : Nat} {v : Value} {y : DataW H × List MemPlace} (h : DataW.trod enc Try.prog w base spare held n 27 [v] = some y) : ∃ l, Sc w.heap.size w v l ∧ (l = [] ∨ ∃ es sp, y.1 = .slice es sp ∧ l.length ≤ es.length) := by
  rcases open_slice Try.underlying27 h with ⟨hcs, _⟩ | ⟨a, len, cap, m, n', D, Pl, hcs, _, hl, hm, hmm, hx, hel⟩
  · simp at hcs
    exact ⟨[], ⟨none, 0, hcs, by simp, by simp [maxLen], (fun o ho => by cases ho), fun j o hj => by simp at hj⟩, .inl rfl⟩
  · simp at hcs
    have hlm : len ≤ m := by rw [hmm]; split <;> omega
    have hspot : 0 < len → ∃ b off, a = ⟨b, off, none⟩ := fun h0 => by
      obtain ⟨cs', h1, h2⟩ := hel 0 (by omega)
      rw [cells44] at h1
      obtain ⟨_, hl', hc⟩ := World.cells?_some h1
      obtain ⟨b, off, spot⟩ := a
      have hc0 := World.cell?_spot ((hc 0 (by omega)).trans (List.getElem?_eq_getElem (by omega)))
      have hs : spot = none := by simpa [Addr.add] using hc0
      subst hs
      exact ⟨b, off, rfl⟩
    have hex : ∀ i, i < len → ∃ o : Opx, Ox w.heap.size w o ∧ ∃ b off, a = ⟨b, off, none⟩ ∧ b < w.heap.size ∧ ∀ k u, (opC o)[k]? = some u → w.cell? ⟨b, off + i * 10 + k, none⟩ = some u := by
      intro i hi
      obtain ⟨cs', h1, h2⟩ := hel i (by omega)
      rw [cells44] at h1
      obtain ⟨o, rfl, hO⟩ := open_op h2
      obtain ⟨_, hl', hc⟩ := World.cells?_some h1
      obtain ⟨b, off, rfl⟩ := hspot (by omega)
      have hcell : ∀ k u, (opC o)[k]? = some u → w.cell? ⟨b, off + i * 10 + k, none⟩ = some u := fun k u hu => by
        have hk : k < 10 := by
          have := (Array.getElem?_eq_some_iff.1 hu).1
          simpa [opC] using this
        have := hc k (by omega)
        rw [add3, Addr.add_lit] at this
        rw [Nat.add_assoc, this]
        simpa using hu
      exact ⟨o, hO, b, off, rfl, World.block_lt_of_cell? w _ (hcell 0 _ rfl), hcell⟩
    haveI : Inhabited Opx := ⟨⟨0, 0, [], .slice none 0 0, [], 0, ⟨0, 0, false⟩, .slice none 0 0, [], 0⟩⟩
    obtain ⟨f, hf⟩ := choose_ltT hex
    refine ⟨(List.range len).map f, ⟨some a, cap, by rw [hcs]; simp, by simpa using hl, hm, fun o ho => ?_, fun j g hg => ?_⟩, ?_⟩
    · obtain ⟨i, hi, rfl⟩ := List.mem_map.1 ho
      exact (hf i (by simpa using hi)).1
    · rw [List.getElem?_map] at hg
      by_cases hj : j < len
      · rw [List.getElem?_range hj] at hg
        simp at hg
        rw [← hg]
        obtain ⟨_, b, off, rfl, r⟩ := hf j hj
        exact ⟨b, off, rfl, r⟩
      · rw [List.getElem?_eq_none (by simpa using hj)] at hg
        cases hg
    · right
      refine ⟨_, _, by rw [hx], ?_⟩
      simp
end
end Go.Proofs.Ytcdogciacchigab
