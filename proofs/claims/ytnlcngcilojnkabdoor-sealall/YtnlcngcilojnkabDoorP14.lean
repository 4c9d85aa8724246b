/- A script, read. -/
import Derived.Test.YtnlcngcilojnkabDoorP12
import Derived.Test.YtnlcngcilojnkabDoorLaid
import Derived.ChangeOld
import Derived.SizedLaws
import Derived.Lib.SmallJoins
import Derived.Deep.Slices
import Derived.Deep.Strs
import Derived.Deep.DeepHandedRow
import Derived.JoinedCond
namespace Go.Proofs.YtnlcngcilojnkabDoor
open Go.ChangeShapes Go.WideShapes Go.ChangeAt Go.RowKit Go.Joins Go.Deep
set_option linter.unusedVariables false

theorem cellsT5 : Tryd.prog.cellsOf 5 = 1 := by kernel_rfl
theorem cellsT29 : Tryd.prog.cellsOf 29 = 1 := by kernel_rfl
theorem cellsT31 : Tryd.prog.cellsOf 31 = 16 := by kernel_rfl
theorem cellsT28 : Tryd.prog.cellsOf 28 = 1 := by kernel_rfl
theorem cellsT33 : Tryd.prog.cellsOf 33 = 23 := by kernel_rfl
theorem cellsT3 : Tryd.prog.cellsOf 3 = 1 := by kernel_rfl
theorem cellsT4 : Tryd.prog.cellsOf 4 = 1 := by kernel_rfl
theorem bytes5 : Tryd.prog.bytesOf 5 = 1 := by kernel_rfl
theorem bytes33 : Tryd.prog.bytesOf 33 = 88 := by kernel_rfl
theorem weights_mem_all {H : Type} {P : Program} {e : TypeId} {d : DataW H} {n : Nat} : ∀ {l : List (DataW H)}, d ∈ l → n ∈ d.weights P e → n ∈ DataW.weightsAll P e l
  | [], h, _ => by simp at h
  | x :: r, h, hn => by
    simp only [DataW.weightsAll, List.mem_append]
    rcases List.mem_cons.1 h with rfl | h
    · exact .inl hn
    · exact .inr (weights_mem_all h hn)
theorem add3 (a : Addr) (l j : Nat) : (a.add l).add j = a.add (l + j) := by
  obtain ⟨b, o, s⟩ := a
  unfold Addr.add
  by_cases hl : l = 0
  · subst hl; simp
  · by_cases hj : j = 0
    · subst hj; simp [hl]
    · simp [hl, hj, Nat.add_assoc]

theorem choose_ltT {α : Type} [Inhabited α] {n : Nat} {p : Nat → α → Prop} (h : ∀ i, i < n → ∃ x, p i x) : ∃ f : Nat → α, ∀ i, i < n → p i (f i) :=
  ⟨fun i => if hi : i < n then (h i hi).choose else default, fun i hi => by simp only [hi, dite_true]; exact (h i hi).choose_spec⟩

section
variable {H : Type} {enc : TypeId × Value → H} {w : World} {base : Nat} {spare : Nat → Bool} {held : Bool}
theorem u8_wf {n : Int} (h : (Lit.int .u8 n).wf = true) : 0 ≤ n ∧ n < 256 := by
  have := bounds_u8 h
  omega
theorem u64_of {n : Int} (h : (Lit.int .u64 n).wf = true) : ∃ a : UInt64, n = (a.toNat : Int) := by
  simp only [Lit.wf, Bool.and_eq_true, decide_eq_true_eq] at h
  rw [show IntKind.u64.min = 0 by decide, show IntKind.u64.max = 18446744073709551615 by decide] at h
  refine ⟨UInt64.ofNat n.toNat, ?_⟩
  rw [UInt64.toNat_ofNat']
  have : n.toNat % 2 ^ 64 = n.toNat := Nat.mod_eq_of_lt (by omega)
  rw [this]
  omega

theorem open_bytes {n : Nat} {v : Value} {y : DataW H × List MemPlace} (h : DataW.trod enc Tryd.prog w base spare held n 29 [v] = some y) :
    ∃ bs, Bs w v bs ∧ ((y.1 = .nil ∧ bs = []) ∨ ∃ es sp, y.1 = .slice es sp ∧ es.length = bs.length) := by
  rcases open_ints Tryd.underlying29 Tryd.underlying5 cellsT5 h with ⟨hcs, hx⟩ | ⟨a, len, cap, zs, hcs, _, hl, hm, hz, hx, hcell, hwz⟩
  · simp at hcs
    exact ⟨[], Or.inl ⟨hcs, rfl⟩, Or.inl ⟨by rw [hx], rfl⟩⟩
  · simp at hcs
    have hlen : len ≤ zs.length := by rw [hz]; split <;> omega
    have hbl : ((zs.take len).map fun z => UInt8.ofNat z.toNat).length = len := by simp; omega
    refine ⟨(zs.take len).map fun z => UInt8.ofNat z.toNat, Or.inr ⟨a, cap, by rw [hcs, hbl], by rw [hbl]; exact hl, hm, fun j u hu => ?_⟩, Or.inr ⟨_, _, by rw [hx], by rw [hbl]; simp [lits]; omega⟩⟩
    have hj : j < len := by
      have := (List.getElem?_eq_some_iff.1 hu).1
      omega
    rw [hcell j (by omega)]
    rw [List.getElem?_map, List.getElem?_take, if_pos hj, List.getElem?_eq_getElem (by omega)] at hu
    simp only [Option.map_some, Option.some.injEq] at hu
    rw [← hu]
    have hw := u8_wf (hwz zs[j] (List.getElem_mem _))
    have e1 : zs.getD j 0 = zs[j] := by simp [show j < zs.length by omega]
    rw [e1]
    unfold bv
    congr 2
    simp
    omega
def byteOfV : Value → UInt8
  | .int _ k => UInt8.ofNat k.toNat
  | _ => 0

theorem open_seal {n : Nat} {L : List Value} {y : DataW H × List MemPlace} (h : DataW.trod enc Tryd.prog w base spare held n 31 L = some y) : ∃ X : List UInt8, X.length = 16 ∧ L = X.map bv := by
  obtain ⟨xs, m1, _, _, hlen, hn, hel⟩ := DataW.trod_array Tryd.underlying31 h
  rw [cellsT31] at hlen
  refine ⟨L.map byteOfV, by simpa using hlen, ?_⟩
  apply List.ext_getElem?
  intro j
  by_cases hj : j < 16
  · have h0 := hel j hj
    obtain ⟨x, hxj⟩ : ∃ x, xs[j]? = some x := ⟨xs[j]'(by omega), List.getElem?_eq_getElem (by omega)⟩
    rw [hxj, cellsT5, Nat.mul_one] at h0
    obtain ⟨k, e1, _, wk⟩ := DataW.trod_int Tryd.underlying5 h0
    have hc : L[j]? = some (.int .u8 k) := by
      have := congrArg (·[0]?) e1
      simpa [List.getElem?_take, List.getElem?_drop] using this
    have hb := bounds_u8 wk
    rw [hc]
    simp [hc, byteOfV, bv]
    omega
  · rw [List.getElem?_eq_none (by omega), List.getElem?_eq_none (by simp; omega)]

theorem cut1 {L : List Value} {o : Nat} {v : Value} (h : (L.drop o).take 1 = [v]) : L[o]? = some v := by
  have := congrArg (·[0]?) h
  simpa [List.getElem?_take, List.getElem?_drop] using this

theorem open_op {n : Nat} {L : List Value} {y : DataW H × List MemPlace} (h : DataW.trod enc Tryd.prog w base spare held n 33 L = some y) (hk : ∀ m ∈ y.1.weights Tryd.prog 33, m ≤ reachBytes) :
    ∃ x : Opx, L = opC x ∧ Bs w x.va x.bs ∧ x.X.length = 16 ∧ x.bs.length ≤ 140737488351232 := by
  obtain ⟨xs, m, hy1, hy2, hlen, hn, hel⟩ := DataW.trod_struct Tryd.underlying33 h
  rw [cellsT33] at hlen
  have hx : ∀ i, i < 8 → ∃ x, xs[i]? = some x := fun i hi => ⟨xs[i]'(by rw [hn]; exact hi), List.getElem?_eq_getElem _⟩
  obtain ⟨x0, e0⟩ := hx 0 (by omega)
  obtain ⟨x1, e1⟩ := hx 1 (by omega)
  obtain ⟨x2, e2⟩ := hx 2 (by omega)
  obtain ⟨x3, e3⟩ := hx 3 (by omega)
  obtain ⟨x4, e4⟩ := hx 4 (by omega)
  obtain ⟨x5, e5⟩ := hx 5 (by omega)
  obtain ⟨x6, e6⟩ := hx 6 (by omega)
  obtain ⟨x7, e7⟩ := hx 7 (by omega)
  have h0 : DataW.trod enc Tryd.prog w base spare held m 3 ((L.drop 0).take (Tryd.prog.cellsOf 3)) = some x0 := (hel 0 _ rfl).trans e0
  have h1 : DataW.trod enc Tryd.prog w base spare held m 3 ((L.drop 1).take (Tryd.prog.cellsOf 3)) = some x1 := (hel 1 _ rfl).trans e1
  have h2 : DataW.trod enc Tryd.prog w base spare held m 3 ((L.drop 2).take (Tryd.prog.cellsOf 3)) = some x2 := (hel 2 _ rfl).trans e2
  have h3 : DataW.trod enc Tryd.prog w base spare held m 28 ((L.drop 3).take (Tryd.prog.cellsOf 28)) = some x3 := (hel 3 _ rfl).trans e3
  have h4 : DataW.trod enc Tryd.prog w base spare held m 29 ((L.drop 4).take (Tryd.prog.cellsOf 29)) = some x4 := (hel 4 _ rfl).trans e4
  have h5 : DataW.trod enc Tryd.prog w base spare held m 31 ((L.drop 5).take (Tryd.prog.cellsOf 31)) = some x5 := (hel 5 _ rfl).trans e5
  have h6 : DataW.trod enc Tryd.prog w base spare held m 3 ((L.drop 21).take (Tryd.prog.cellsOf 3)) = some x6 := (hel 6 _ rfl).trans e6
  have h7 : DataW.trod enc Tryd.prog w base spare held m 4 ((L.drop 22).take (Tryd.prog.cellsOf 4)) = some x7 := (hel 7 _ rfl).trans e7
  rw [cellsT3] at h0 h1 h2 h6
  rw [cellsT28] at h3
  rw [cellsT29] at h4
  rw [cellsT31] at h5
  rw [cellsT4] at h7
  obtain ⟨k0, c0, _, w0⟩ := DataW.trod_int Tryd.underlying3 h0
  obtain ⟨k1, c1, _, w1⟩ := DataW.trod_int Tryd.underlying3 h1
  obtain ⟨k2, c2, _, w2⟩ := DataW.trod_int Tryd.underlying3 h2
  obtain ⟨k3, c3, _, w3⟩ := DataW.trod_int Tryd.underlying28 h3
  obtain ⟨k6, c6, _, w6⟩ := DataW.trod_int Tryd.underlying3 h6
  obtain ⟨k7, c7, _⟩ := DataW.trod_bool Tryd.underlying4 h7
  obtain ⟨a, rfl⟩ := u64_of w3
  have hL4 : (L.drop 4).take 1 = [L[4]'(by omega)] := by
    apply List.ext_getElem?
    intro j
    cases j with
    | zero => simp [List.getElem?_drop, show 4 < L.length by omega]
    | succ j => simp [List.getElem?_take]
  rw [hL4] at h4
  obtain ⟨bs, hb, hw⟩ := open_bytes h4
  obtain ⟨X, hX, eX⟩ := open_seal h5
  have hbk : bs.length ≤ 140737488351232 := by
    rcases hw with ⟨e, rfl⟩ | ⟨es, sp, e, hl⟩
    · simp
    · have h4w : (es.length + sp.length) * Tryd.prog.bytesOf 5 ∈ x4.1.weights Tryd.prog 29 := by
        rw [e]
        simp [DataW.weights, Tryd.underlying29]
      have hm : (es.length + sp.length) * Tryd.prog.bytesOf 5 ∈ y.1.weights Tryd.prog 33 := by
        rw [hy2]
        simp only [DataW.weights, Tryd.underlying33]
        exact DataW.weights_mem_each (j := 4) (t := 29) (d := x4.1) rfl (by rw [List.getElem?_map, e4]; rfl) _ h4w
      have := hk _ hm
      rw [bytes5] at this
      simp [reachBytes] at this
      omega
  refine ⟨⟨k0, k1, k2, a, _, bs, X, k6, k7⟩, ?_, hb, hX, hbk⟩
  have d0 := cut1 c0
  have d1 := cut1 c1
  have d2 := cut1 c2
  have d3 := cut1 c3
  have d6 := cut1 c6
  have d7 := cut1 c7
  apply List.ext_getElem?
  intro j
  match j with
  | 0 => simpa [opC] using d0
  | 1 => simpa [opC] using d1
  | 2 => simpa [opC] using d2
  | 3 => simpa [opC] using d3
  | 4 => simp [opC, show 4 < L.length by omega]
  | j + 5 =>
    simp only [opC, List.getElem?_cons_succ]
    by_cases hj : j < 16
    · have : ((L.drop 5).take 16)[j]? = L[j + 5]? := by
        rw [List.getElem?_take, List.getElem?_drop, if_pos hj, Nat.add_comm]
      rw [← this, eX, List.getElem?_append_left (by simpa [hX] using hj)]
    · rw [List.getElem?_append_right (by simp [hX]; omega)]
      simp only [List.length_map, hX]
      rcases (show j = 16 ∨ j = 17 ∨ 18 ≤ j by omega) with rfl | rfl | hj2
      · simpa using d6
      · simpa using d7
      · rw [List.getElem?_eq_none (by omega), List.getElem?_eq_none (by simp; omega)]

set_option maxRecDepth 100000 in
theorem open_script {n : Nat} {v : Value} {y : DataW H × List MemPlace} (h : DataW.trod enc Tryd.prog w base spare held n 22 [v] = some y) (hk : ∀ m ∈ y.1.weights Tryd.prog 22, m ≤ reachBytes) : ∃ l, Script w v l ∧ l.length ≤ 1599289640401 := by
  rcases open_slice Tryd.underlying22 h with ⟨hcs, _⟩ | ⟨a, len, cap, m, n', D, Pl, hcs, _, hl, hm, hmm, hx, hel⟩
  · simp at hcs
    exact ⟨[], Or.inl ⟨hcs, rfl⟩, by simp⟩
  · simp at hcs
    have hlm : len ≤ m := by rw [hmm]; split <;> omega
    have hspot : 0 < len → ∃ b off, a = ⟨b, off, none⟩ := fun h0 => by
      obtain ⟨cs', h1, h2⟩ := hel 0 (by omega)
      rw [cellsT33] at h1
      obtain ⟨_, hl', hc⟩ := World.cells?_some h1
      obtain ⟨b, off, spot⟩ := a
      have hc0 := World.cell?_spot ((hc 0 (by omega)).trans (List.getElem?_eq_getElem (by omega)))
      have hs : spot = none := by simpa [Addr.add] using hc0
      subst hs
      exact ⟨b, off, rfl⟩
    have hex : ∀ i, i < len → ∃ x : Opx, ∃ b off, a = ⟨b, off, none⟩ ∧ w.rangeAt b (off + i * 23) (opC x) ∧ Bs w x.va x.bs ∧ x.ok := by
      intro i hi
      obtain ⟨cs', h1, h2⟩ := hel i (by omega)
      rw [cellsT33] at h1
      obtain ⟨x, rfl, hb, hX, hbk⟩ := open_op h2 (fun q hq => hk q (by
        rw [hx]
        simp only [DataW.weights, Tryd.underlying22, List.mem_cons, List.mem_append]
        exact .inr (.inl (weights_mem_all (List.mem_map.2 ⟨i, List.mem_range.2 hi, rfl⟩) hq))))
      obtain ⟨_, hl', hc⟩ := World.cells?_some h1
      obtain ⟨b, off, rfl⟩ := hspot (by omega)
      refine ⟨x, b, off, rfl, fun j u hu => ?_, hb, ⟨hX, hbk⟩⟩
      have hj : j < 23 := by have := (List.getElem?_eq_some_iff.1 hu).1; omega
      have := hc j hj
      rw [add3, Addr.add_lit] at this
      rw [show off + i * 23 + j = off + (i * 23 + j) by omega, this, ← hu]
    have inst : Inhabited Opx := ⟨⟨0, 0, 0, 0, .slice none 0 0, [], [], 0, false⟩⟩
    obtain ⟨f, hf⟩ := choose_ltT hex
    refine ⟨(List.range len).map f, Or.inr ⟨a, cap, by rw [hcs]; simp, by simpa using hl, hm, fun j g hg => ?_⟩, ?_⟩
    case refine_2 =>
      have := hk ((((List.range len).map D).length + _) * Tryd.prog.bytesOf 33) (by
        rw [hx]
        simp only [DataW.weights, Tryd.underlying22, List.mem_cons]
        exact .inl rfl)
      rw [bytes33] at this
      simp [reachBytes] at this
      simp
      omega
    rw [List.getElem?_map] at hg
    by_cases hj : j < len
    · rw [List.getElem?_range hj] at hg
      simp at hg
      rw [← hg]
      exact hf j hj
    · rw [List.getElem?_eq_none (by simpa using hj)] at hg
      cases hg
end
end Go.Proofs.YtnlcngcilojnkabDoor
