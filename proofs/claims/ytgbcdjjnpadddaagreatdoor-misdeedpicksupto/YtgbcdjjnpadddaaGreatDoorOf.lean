/- What is read: offences with their bounds, a state, a list of pairs of votes. -/
import Derived.Test.YtgbcdjjnpadddaaGreatDoorOq
import Derived.Test.YtgbcdjjnpadddaaGreatDoorPd
namespace Go.Proofs.YtgbcdjjnpadddaaGreatDoor
open Go.ChangeShapes Go.WideShapes Go.ChangeAt Go.RowKit Go.Joins Go.Deep
set_option linter.unusedVariables false
section
variable {H : Type} {enc : TypeId × Value → H} {w : World} {base : Nat} {spare : Nat → Bool} {held : Bool}
set_option maxRecDepth 100000
theorem open_of64 {n : Nat} {L : List Value} {y : DataW H × List MemPlace} (h : DataW.trod enc Tryz.prog w base spare held n 101 L = some y) : ∃ m : Nat × Nat, L = [.int .u64 m.1, .int .u64 m.2] ∧ Off64 m := by
  obtain ⟨xs, m, _, _, hlen, hn, hel⟩ := DataW.trod_struct Tryz.underlying101 h
  rw [cells104] at hlen
  have hx : ∀ i, i < 2 → ∃ x, xs[i]? = some x := fun i hi => ⟨xs[i]'(by rw [hn]; exact hi), List.getElem?_eq_getElem _⟩
  obtain ⟨x0, e0⟩ := hx 0 (by omega)
  obtain ⟨x1, e1⟩ := hx 1 (by omega)
  have h0 : DataW.trod enc Tryz.prog w base spare held m 22 ((L.drop 0).take (Tryz.prog.cellsOf 22)) = some x0 := (hel 0 _ rfl).trans e0
  have h1 : DataW.trod enc Tryz.prog w base spare held m 46 ((L.drop 1).take (Tryz.prog.cellsOf 46)) = some x1 := (hel 1 _ rfl).trans e1
  rw [cells22] at h0
  rw [cells39] at h1
  obtain ⟨k0, c0, _, w0⟩ := DataW.trod_int Tryz.underlying22 h0
  obtain ⟨k1, c1, _, w1⟩ := DataW.trod_int Tryz.underlying46 h1
  obtain ⟨a, rfl, ha⟩ := u64_of w0
  obtain ⟨b, rfl, hb⟩ := u64_of w1
  refine ⟨(a, b), ?_, ha, hb⟩
  have d0 := cut1 c0
  have d1 := cut1 c1
  apply List.ext_getElem?
  intro j
  match j with
  | 0 => simpa using d0
  | 1 => simpa using d1
  | j + 2 => rw [List.getElem?_eq_none (by omega), List.getElem?_eq_none (by simp)]
theorem open_ofs64 {n : Nat} {v : Value} {y : DataW H × List MemPlace} (h : DataW.trod enc Tryz.prog w base spare held n 31 [v] = some y) : ∃ l, Ofs w v l ∧ ∀ m ∈ l, Off64 m := by
  rcases open_slice Tryz.underlying31 h with ⟨hcs, _⟩ | ⟨a, len, cap, m, n', D, Pl, hcs, _, hl, hm, hmm, hx, hel⟩
  · simp at hcs
    exact ⟨[], ⟨none, 0, hcs, (by simp), (by simp [maxLen]), fun j m hm => (by simp at hm)⟩, fun m hm => by simp at hm⟩
  · simp at hcs
    have hlm : len ≤ m := by rw [hmm]; split <;> omega
    have hspot : 0 < len → ∃ b off, a = ⟨b, off, none⟩ := fun h0 => by
      obtain ⟨cs', h1, h2⟩ := hel 0 (by omega)
      rw [cells104] at h1
      obtain ⟨_, hl', hc⟩ := World.cells?_some h1
      obtain ⟨b, off, spot⟩ := a
      have hc0 := World.cell?_spot ((hc 0 (by omega)).trans (List.getElem?_eq_getElem (by omega)))
      have hs : spot = none := by simpa [Addr.add] using hc0
      subst hs
      exact ⟨b, off, rfl⟩
    have hex : ∀ i, i < len → ∃ x : Nat × Nat, Off64 x ∧ ∃ b off, a = ⟨b, off, none⟩ ∧ w.cell? ⟨b, off + i * 2, none⟩ = some (.int .u64 x.1) ∧ w.cell? ⟨b, off + i * 2 + 1, none⟩ = some (.int .u64 x.2) := by
      intro i hi
      obtain ⟨cs', h1, h2⟩ := hel i (by omega)
      rw [cells104] at h1
      obtain ⟨x, rfl, hxo⟩ := open_of64 h2
      obtain ⟨_, hl', hc⟩ := World.cells?_some h1
      obtain ⟨b, off, rfl⟩ := hspot (by omega)
      refine ⟨x, hxo, b, off, rfl, ?_, ?_⟩
      · have := hc 0 (by omega)
        rw [add3, Addr.add_lit] at this
        simpa using this
      · have := hc 1 (by omega)
        rw [add3, Addr.add_lit] at this
        simpa [Nat.add_assoc] using this
    obtain ⟨f, hf⟩ := choose_ltT ((0, 0) : Nat × Nat) hex
    refine ⟨(List.range len).map f, ⟨some a, cap, by rw [hcs]; simp, by simpa using hl, hm, fun j g hg => ?_⟩, fun m hm => ?_⟩
    rotate_left
    · obtain ⟨j, hj, rfl⟩ := List.mem_map.1 hm
      exact (hf j (List.mem_range.1 hj)).1
    rw [List.getElem?_map] at hg
    by_cases hj : j < len
    · rw [List.getElem?_range hj] at hg
      simp at hg
      rw [← hg]
      obtain ⟨_, b, off, rfl, r⟩ := hf j hj
      exact ⟨b, off, rfl, r⟩
    · rw [List.getElem?_eq_none (by simpa using hj)] at hg
      cases hg
theorem open_st64 {n : Nat} {L : List Value} {y : DataW H × List MemPlace} (h : DataW.trod enc Tryz.prog w base spare held n 37 L = some y) : ∃ (c : ByteArray) (age hh : Nat) (pv ov : Value) (P : List Pa) (O : List (Nat × Nat)), L.length = 55 ∧ L[0]? = some (.string c) ∧ L[5]? = some (.int .u64 age) ∧ L[13]? = some (.int .u64 hh) ∧ L[49]? = some pv ∧ L[50]? = some ov ∧ hh < 18446744073709551616 ∧ Pas w pv P ∧ Ofs w ov O ∧ ∀ m ∈ O, Off64 m := by
  obtain ⟨xs, m, _, _, hlen, hn, hel⟩ := DataW.trod_struct Tryz.underlying37 h
  rw [oc37] at hlen
  have hx : ∀ i, i < 10 → ∃ x, xs[i]? = some x := fun i hi => ⟨xs[i]'(by rw [hn]; exact hi), List.getElem?_eq_getElem _⟩
  obtain ⟨x0, e0⟩ := hx 0 (by omega)
  obtain ⟨x1, e1⟩ := hx 1 (by omega)
  obtain ⟨x2, e2⟩ := hx 2 (by omega)
  obtain ⟨x7, e7⟩ := hx 7 (by omega)
  obtain ⟨x8, e8⟩ := hx 8 (by omega)
  have h0 : DataW.trod enc Tryz.prog w base spare held m 9 ((L.drop 0).take (Tryz.prog.cellsOf 9)) = some x0 := (hel 0 _ rfl).trans e0
  have h1 : DataW.trod enc Tryz.prog w base spare held m 24 ((L.drop 1).take (Tryz.prog.cellsOf 24)) = some x1 := (hel 1 _ rfl).trans e1
  have h2 : DataW.trod enc Tryz.prog w base spare held m 22 ((L.drop 13).take (Tryz.prog.cellsOf 22)) = some x2 := (hel 2 _ rfl).trans e2
  have h7 : DataW.trod enc Tryz.prog w base spare held m 30 ((L.drop 49).take (Tryz.prog.cellsOf 30)) = some x7 := (hel 7 _ rfl).trans e7
  have h8 : DataW.trod enc Tryz.prog w base spare held m 31 ((L.drop 50).take (Tryz.prog.cellsOf 31)) = some x8 := (hel 8 _ rfl).trans e8
  rw [oc9] at h0
  rw [oc24] at h1
  rw [oc22] at h2
  rw [oc30] at h7
  rw [oc31] at h8
  obtain ⟨c, c0, _, _⟩ := DataW.trod_string Tryz.underlying9 h0
  obtain ⟨age, ca⟩ := open_age h1
  obtain ⟨k2, c2, _, w2⟩ := DataW.trod_int Tryz.underlying22 h2
  obtain ⟨hh, rfl, hb⟩ := u64_of w2
  have one : ∀ o, o < 55 → (L.drop o).take 1 = [L.getD o (.slice none 0 0)] := fun o ho => by
    have hg : L[o]? = some (L[o]'(by omega)) := List.getElem?_eq_getElem _
    rw [List.getD_eq_getElem?_getD, hg, List.drop_eq_getElem_cons (by omega)]
    rfl
  rw [one 49 (by omega)] at h7
  rw [one 50 (by omega)] at h8
  obtain ⟨P, hP⟩ := open_pas h7
  obtain ⟨O, hO, hO64⟩ := open_ofs64 h8
  refine ⟨c, age, hh, _, _, P, O, hlen, cut1 c0, ?_, cut1 c2, cut1 (one 49 (by omega)), cut1 (one 50 (by omega)), hb, hP, hO, hO64⟩
  simpa [List.getElem?_take, List.getElem?_drop] using ca
theorem open_tws {n : Nat} {v : Value} {y : DataW H × List MemPlace} (h : DataW.trod enc Tryz.prog w base spare held n 39 [v] = some y) : ∃ l, Tws w v l ∧ (l = [] ∨ ∃ es sp, y.1 = .slice es sp ∧ l.length ≤ es.length) := by
  rcases open_slice Tryz.underlying39 h with ⟨hcs, _⟩ | ⟨a, len, cap, m, n', D, Pl, hcs, _, hl, hm, hmm, hx, hel⟩
  · simp at hcs
    exact ⟨[], ⟨none, 0, hcs, (by simp), fun j m hm => (by simp at hm)⟩, .inl rfl⟩
  · simp at hcs
    have hlm : len ≤ m := by rw [hmm]; split <;> omega
    have hspot : 0 < len → ∃ b off, a = ⟨b, off, none⟩ := fun h0 => by
      obtain ⟨cs', h1, h2⟩ := hel 0 (by omega)
      rw [oc46] at h1
      obtain ⟨_, hl', hc⟩ := World.cells?_some h1
      obtain ⟨b, off, spot⟩ := a
      have hc0 := World.cell?_spot ((hc 0 (by omega)).trans (List.getElem?_eq_getElem (by omega)))
      have hs : spot = none := by simpa [Addr.add] using hc0
      subst hs
      exact ⟨b, off, rfl⟩
    have hex : ∀ i, i < len → ∃ t : TwV, (t.a.fits ∧ t.b.fits) ∧ ∃ b off, a = ⟨b, off, none⟩ ∧ w.rangeAt b (off + i * 109) t.cs.toList := by
      intro i hi
      obtain ⟨cs', h1, h2⟩ := hel i (by omega)
      rw [oc46] at h1
      obtain ⟨x1, x2, r0, r1, sw, f1, f2, ee⟩ := open_two h2
      obtain ⟨_, hl', hc⟩ := World.cells?_some h1
      obtain ⟨b, off, rfl⟩ := hspot (by omega)
      have ee' : (⟨x1, x2, r0, r1, sw⟩ : TwV).cs.toList = cs' := by
        rw [TwV.cs, ← ee]
      refine ⟨⟨x1, x2, r0, r1, sw⟩, ⟨f1, f2⟩, b, off, rfl, fun j u hu => ?_⟩
      rw [ee'] at hu
      have hj : j < 109 := by
        have := (List.getElem?_eq_some_iff.1 hu).1
        omega
      have := hc j hj
      rw [add3, Addr.add_lit] at this
      rw [← hu, ← this, Nat.add_assoc]
    obtain ⟨f, hf⟩ := choose_ltT (⟨zvt, zvt, false, false, false⟩ : TwV) hex
    refine ⟨(List.range len).map f, ⟨some a, cap, by rw [hcs]; simp, by simp only [List.length_map, List.length_range]; simp only [maxLen] at hm; omega, fun j g hg => ?_⟩, .inr ⟨_, _, by rw [hx], by simp⟩⟩
    rw [List.getElem?_map] at hg
    by_cases hj : j < len
    · rw [List.getElem?_range hj] at hg
      simp at hg
      rw [← hg]
      obtain ⟨hM, b, off, rfl, r⟩ := hf j hj
      exact ⟨hM, b, off, rfl, r⟩
    · rw [List.getElem?_eq_none (by simpa using hj)] at hg
      cases hg
end
end Go.Proofs.YtgbcdjjnpadddaaGreatDoor
