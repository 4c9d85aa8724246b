/- OpenM, OpenZ in one. -/
import Derived.Test.YtcdogciacchigabOpen
import Derived.Test.YtcdogciacchigabI2
-- What a law's disk is made of, read.
namespace Go.Proofs.Ytcdogciacchigab
open Go.ChangeShapes Go.WideShapes Go.ChangeAt Go.RowKit Go.Joins Go.Deep
set_option linter.unusedVariables false
section
variable {H : Type} {enc : TypeId × Value → H} {w : World} {base : Nat} {spare : Nat → Bool} {held : Bool}
theorem open_file {n : Nat} {L : List Value} {y : DataW H × List MemPlace} (h : DataW.trod enc Try.prog w base spare held n 66 L = some y) : ∃ f : Fx, L = [strV f.nm, f.vb] ∧ f.nm.length ≤ maxLen ∧ Bs w f.vb f.bs ∧ (f.bs ≠ [] → ∀ g, f.vb.ownBlock = some g → g < w.heap.size) := by
  obtain ⟨xs, m, _, _, hlen, hn, hel⟩ := DataW.trod_struct Try.underlying66 h
  rw [cells41] at hlen
  have hx : ∀ i, i < 2 → ∃ x, xs[i]? = some x := fun i hi => ⟨xs[i]'(by rw [hn]; exact hi), List.getElem?_eq_getElem _⟩
  obtain ⟨x0, e0⟩ := hx 0 (by omega)
  obtain ⟨x1, e1⟩ := hx 1 (by omega)
  have h0 : DataW.trod enc Try.prog w base spare held m 9 ((L.drop 0).take (Try.prog.cellsOf 9)) = some x0 := (hel 0 _ rfl).trans e0
  have h1 : DataW.trod enc Try.prog w base spare held m 28 ((L.drop 1).take (Try.prog.cellsOf 28)) = some x1 := (hel 1 _ rfl).trans e1
  rw [cells9, one_drop (by omega)] at h0
  rw [cells31, one_drop (by omega)] at h1
  obtain ⟨s, es, hs⟩ := open_str h0
  obtain ⟨bs, hb, hbo⟩ := open_bytes h1
  refine ⟨⟨s, L[1], bs⟩, ?_, hs, hb, fun hne g hg => ?_⟩
  · apply List.ext_getElem?
    intro j
    match j with
    | 0 =>
      have : L[0]? = some L[0] := List.getElem?_eq_getElem (by omega)
      rw [this, es]; rfl
    | 1 => simp [show 1 < L.length by omega]
    | j + 2 => rw [List.getElem?_eq_none (by omega), List.getElem?_eq_none (by simp)]
  · rcases hbo with q | q
    · exact (hne q).elim
    · exact q g hg
set_option maxRecDepth 100000 in
theorem open_files {n : Nat} {v : Value} {y : DataW H × List MemPlace} (h : DataW.trod enc Try.prog w base spare held n 22 [v] = some y) : ∃ a cap l, v = .slice a l.length cap ∧ Fs w.heap.size w a cap l := by
  rcases open_slice Try.underlying22 h with ⟨hcs, _⟩ | ⟨a, len, cap, m, n', D, Pl, hcs, _, hl, hm, hmm, hx, hel⟩
  · simp at hcs
    exact ⟨none, 0, [], hcs, by simp, by simp [maxLen], (fun f hf => by cases hf), fun j f hj => by simp at hj⟩
  · simp at hcs
    have hlm : len ≤ m := by rw [hmm]; split <;> omega
    have hspot : 0 < len → ∃ b off, a = ⟨b, off, none⟩ := fun h0 => by
      obtain ⟨cs', h1, h2⟩ := hel 0 (by omega)
      rw [cells41] at h1
      obtain ⟨_, hl', hc⟩ := World.cells?_some h1
      obtain ⟨b, off, spot⟩ := a
      have hc0 := World.cell?_spot ((hc 0 (by omega)).trans (List.getElem?_eq_getElem (by omega)))
      have hs : spot = none := by simpa [Addr.add] using hc0
      subst hs
      exact ⟨b, off, rfl⟩
    have hex : ∀ i, i < len → ∃ f : Fx, (f.nm.length ≤ maxLen ∧ Bs w f.vb f.bs ∧ (f.bs ≠ [] → ∀ g, f.vb.ownBlock = some g → g < w.heap.size)) ∧ ∃ b off, a = ⟨b, off, none⟩ ∧ b < w.heap.size ∧ w.cell? ⟨b, off + i * 2, none⟩ = some (strV f.nm) ∧ w.cell? ⟨b, off + i * 2 + 1, none⟩ = some f.vb := by
      intro i hi
      obtain ⟨cs', h1, h2⟩ := hel i (by omega)
      rw [cells41] at h1
      obtain ⟨f, rfl, hO⟩ := open_file h2
      obtain ⟨_, hl', hc⟩ := World.cells?_some h1
      obtain ⟨b, off, rfl⟩ := hspot (by omega)
      have d0 : w.cell? ⟨b, off + i * 2, none⟩ = some (strV f.nm) := by
        have := hc 0 (by omega)
        rw [add3, Addr.add_lit] at this
        simpa using this
      have d1 : w.cell? ⟨b, off + i * 2 + 1, none⟩ = some f.vb := by
        have := hc 1 (by omega)
        rw [add3, Addr.add_lit] at this
        simpa [Nat.add_assoc] using this
      exact ⟨f, hO, b, off, rfl, World.block_lt_of_cell? w _ d0, d0, d1⟩
    haveI : Inhabited Fx := ⟨⟨[], .slice none 0 0, []⟩⟩
    obtain ⟨f, hf⟩ := choose_ltT hex
    refine ⟨some a, cap, (List.range len).map f, by rw [hcs]; simp, by simpa using hl, hm, fun g hg => ?_, fun j g hg => ?_⟩
    · obtain ⟨i, hi, rfl⟩ := List.mem_map.1 hg
      exact (hf i (by simpa using hi)).1
    · rw [List.getElem?_map] at hg
      by_cases hj : j < len
      · rw [List.getElem?_range hj] at hg
        simp at hg
        rw [← hg]
        obtain ⟨_, b, off, rfl, r⟩ := hf j hj
        exact ⟨b, off, rfl, r⟩
      · rw [List.getElem?_eq_none (by simpa using hj)] at hg
        cases hg
theorem open_made {n : Nat} {L : List Value} {y : DataW H × List MemPlace} (h : DataW.trod enc Try.prog w base spare held n 26 L = some y) : ∃ m a cap, L = (mxC m a cap).toList ∧ Fs w.heap.size w a cap m.l := by
  obtain ⟨xs, k, _, _, hlen, hn, hel⟩ := DataW.trod_struct Try.underlying26 h
  rw [cells52] at hlen
  have hx : ∀ i, i < 3 → ∃ x, xs[i]? = some x := fun i hi => ⟨xs[i]'(by rw [hn]; exact hi), List.getElem?_eq_getElem _⟩
  obtain ⟨x0, e0⟩ := hx 0 (by omega)
  obtain ⟨x1, e1⟩ := hx 1 (by omega)
  obtain ⟨x2, e2⟩ := hx 2 (by omega)
  have h0 : DataW.trod enc Try.prog w base spare held k 3 ((L.drop 0).take (Try.prog.cellsOf 3)) = some x0 := (hel 0 _ rfl).trans e0
  have h1 : DataW.trod enc Try.prog w base spare held k 4 ((L.drop 1).take (Try.prog.cellsOf 4)) = some x1 := (hel 1 _ rfl).trans e1
  have h2 : DataW.trod enc Try.prog w base spare held k 24 ((L.drop 2).take (Try.prog.cellsOf 24)) = some x2 := (hel 2 _ rfl).trans e2
  rw [cells3] at h0
  rw [cells4] at h1
  rw [cells36, one_drop (by omega)] at h2
  obtain ⟨k0, c0, _, w0⟩ := DataW.trod_int Try.underlying3 h0
  obtain ⟨k1, c1, _⟩ := DataW.trod_bool Try.underlying4 h1
  obtain ⟨ys, k', _, _, hlen2, hn2, hel2⟩ := DataW.trod_struct Try.underlying24 h2
  obtain ⟨z0, f0⟩ : ∃ z, ys[0]? = some z := ⟨ys[0]'(by rw [hn2]; decide), List.getElem?_eq_getElem _⟩
  have h3 : DataW.trod enc Try.prog w base spare held k' 22 (([L[2]].drop 0).take (Try.prog.cellsOf 22)) = some z0 := (hel2 0 _ rfl).trans f0
  rw [cells34] at h3
  obtain ⟨a, cap, l, ev, hF⟩ := open_files (v := L[2]) (by simpa using h3)
  refine ⟨⟨k0, k1, l⟩, a, cap, ?_, hF⟩
  have d0 := cut1 c0
  have d1 := cut1 c1
  apply List.ext_getElem?
  intro j
  match j with
  | 0 => simpa [mxC] using d0
  | 1 => simpa [mxC] using d1
  | 2 =>
    have : L[2]? = some L[2] := List.getElem?_eq_getElem (by omega)
    rw [this, ev]; simp [mxC]
  | j + 3 => rw [List.getElem?_eq_none (by omega), List.getElem?_eq_none (by simp [mxC])]
end
end Go.Proofs.Ytcdogciacchigab

-- The laws' arguments, read, with their sizes.
namespace Go.Proofs.Ytcdogciacchigab
open Go.ChangeShapes Go.WideShapes Go.ChangeAt Go.RowKit Go.Joins Go.Deep
set_option linter.unusedVariables false

theorem bytes5' : Try.prog.bytesOf 5 = 1 := by kernel_rfl
theorem bytes3' : Try.prog.bytesOf 3 = 8 := by kernel_rfl
theorem weights_all {H : Type} {P : Program} {e : TypeId} : ∀ {ds : List (DataW H)} {d : DataW H} {n : Nat}, d ∈ ds → n ∈ d.weights P e → n ∈ DataW.weightsAll P e ds
  | [], _, _, h, _ => by cases h
  | x :: r, d, n, h, hn => by
    simp only [DataW.weightsAll, List.mem_append]
    rcases List.mem_cons.1 h with rfl | h
    · exact .inl hn
    · exact .inr (weights_all h hn)
theorem sized_of {H : Type} {P : Program} {ts : List TypeId} {ds : List (DataW H)} (hsz : (DataW.weightsEach P ts ds).all (· ≤ reachBytes) = true) {j : Nat} {t : TypeId} {d : DataW H} (ht : ts[j]? = some t) (hd : ds[j]? = some d) : ∀ k ∈ d.weights P t, k ≤ reachBytes := fun k hk => by
  have := List.all_eq_true.1 hsz _ (DataW.weights_mem_each ht hd k hk)
  exact of_decide_eq_true this
section
variable {H : Type} {enc : TypeId × Value → H} {w : World} {base : Nat} {spare : Nat → Bool} {held : Bool}
theorem bytes_sized {d : DataW H} {n : Nat} (hw : ∃ es sp, d = .slice es sp ∧ es.length = n) (hs : ∀ k ∈ d.weights Try.prog 28, k ≤ reachBytes) : n ≤ 140737488351232 := by
  obtain ⟨es, sp, rfl, hl⟩ := hw
  have h1 := hs ((es.length + sp.length) * Try.prog.bytesOf 5) (by
    simp only [DataW.weights, Try.underlying28]
    refine List.mem_cons.2 (.inl ?_)
    simp)
  rw [bytes5'] at h1
  have h2 : (es.length + sp.length) * 1 ≤ 140737488351232 := h1
  omega
theorem keep_sized {d : DataW H} {n : Nat} (hw : ∃ es sp, d = .slice es sp ∧ es.length = n) (hs : ∀ k ∈ d.weights Try.prog 31, k ≤ reachBytes) : n ≤ 17592186043904 := by
  obtain ⟨es, sp, rfl, hl⟩ := hw
  have h1 := hs ((es.length + sp.length) * Try.prog.bytesOf 3) (by
    simp only [DataW.weights, Try.underlying31]
    refine List.mem_cons.2 (.inl ?_)
    simp)
  rw [bytes3'] at h1
  have h2 : (es.length + sp.length) * 8 ≤ 140737488351232 := h1
  omega
theorem open_bytesS {n : Nat} {v : Value} {y : DataW H × List MemPlace} (h : DataW.trod enc Try.prog w base spare held n 28 [v] = some y) (hs : ∀ k ∈ y.1.weights Try.prog 28, k ≤ reachBytes) : ∃ bs, Bs w v bs ∧ (bs = [] ∨ ∀ g, v.ownBlock = some g → g < w.heap.size) ∧ bs.length ≤ 140737488351232 := by
  rcases open_ints Try.underlying28 Try.underlying5 cells5 h with ⟨hcs, hx⟩ | ⟨a, len, cap, zs, hcs, _, hl, hm, hz, hx, hcell, hwz⟩
  · simp at hcs
    exact ⟨[], Or.inl ⟨hcs, rfl⟩, Or.inl rfl, by simp⟩
  · simp at hcs
    have hlen : len ≤ zs.length := by rw [hz]; split <;> omega
    have hbl : ((zs.take len).map fun z => UInt8.ofNat z.toNat).length = len := by simp; omega
    refine ⟨(zs.take len).map fun z => UInt8.ofNat z.toNat, Or.inr ⟨a, cap, by rw [hcs, hbl], by rw [hbl]; exact hl, hm, fun j u hu => ?_⟩, ?_, by rw [hbl]; exact bytes_sized (by rw [hx]; exact ⟨_, _, rfl, by simp [lits]; omega⟩) hs⟩
    · have hj : j < len := by
        have := (List.getElem?_eq_some_iff.1 hu).1
        omega
      rw [hcell j (by omega)]
      rw [List.getElem?_map, List.getElem?_take, if_pos hj, List.getElem?_eq_getElem (by omega)] at hu
      simp only [Option.map_some, Option.some.injEq] at hu
      rw [← hu]
      have hw := u8_wf (hwz zs[j] (List.getElem_mem _))
      have e1 : zs.getD j 0 = zs[j] := by simp [show j < zs.length by omega]
      rw [e1]
      unfold bv
      congr 2
      simp
      omega
    · by_cases h0 : len = 0
      · left; subst h0; simp
      · right
        intro g hg
        rw [hcs] at hg
        cases hg
        have := World.block_lt_of_cell? w _ (hcell 0 (by omega))
        have e : (a.add 0).block = a.block := by unfold Addr.add; split <;> rfl
        rw [e] at this
        exact this
theorem open_keepS {n : Nat} {v : Value} {y : DataW H × List MemPlace} (h : DataW.trod enc Try.prog w base spare held n 31 [v] = some y) (hs : ∀ k ∈ y.1.weights Try.prog 31, k ≤ reachBytes) : ∃ ks : List Int, Vs w v (ks.map iv) ∧ (ks = [] ∨ ∀ g, v.ownBlock = some g → g < w.heap.size) ∧ ks.length ≤ 17592186043904 := by
  rcases open_ints Try.underlying31 Try.underlying3 cells3 h with ⟨hcs, hx⟩ | ⟨a, len, cap, zs, hcs, _, hl, hm, hz, hx, hcell, hwz⟩
  · simp at hcs
    exact ⟨[], Or.inl ⟨hcs, rfl⟩, Or.inl rfl, by simp⟩
  · simp at hcs
    have hlen : len ≤ zs.length := by rw [hz]; split <;> omega
    have hbl : ((zs.take len).map iv).length = len := by simp; omega
    refine ⟨zs.take len, Or.inr ⟨a, cap, by rw [hcs, hbl], by rw [hbl]; exact hl, hm, fun j u hu => ?_⟩, ?_, by rw [show (zs.take len).length = len by simp; omega]; exact keep_sized (by rw [hx]; exact ⟨_, _, rfl, by simp [lits]; omega⟩) hs⟩
    · have hj : j < len := by
        have := (List.getElem?_eq_some_iff.1 hu).1
        omega
      rw [hcell j (by omega)]
      rw [List.getElem?_map, List.getElem?_take, if_pos hj, List.getElem?_eq_getElem (by omega)] at hu
      simp only [Option.map_some, Option.some.injEq] at hu
      rw [← hu]
      have e1 : zs.getD j 0 = zs[j] := by simp [show j < zs.length by omega]
      rw [e1]
      rfl
    · by_cases h0 : len = 0
      · left; subst h0; simp
      · right
        intro g hg
        rw [hcs] at hg
        cases hg
        have := World.block_lt_of_cell? w _ (hcell 0 (by omega))
        have e : (a.add 0).block = a.block := by unfold Addr.add; split <;> rfl
        rw [e] at this
        exact this
theorem open_opS {n : Nat} {L : List Value} {y : DataW H × List MemPlace} (h : DataW.trod enc Try.prog w base spare held n 33 L = some y) (hs : ∀ k ∈ y.1.weights Try.prog 33, k ≤ reachBytes) : ∃ o : Opx, L = (opC o).toList ∧ Ox w.heap.size w o ∧ o.data.length ≤ 140737488351232 ∧ o.keep.length ≤ 17592186043904 := by
  obtain ⟨xs, m, hy1, hy2, hlen, hn, hel⟩ := DataW.trod_struct Try.underlying33 h
  rw [cells44] at hlen
  have hx : ∀ i, i < 8 → ∃ x, xs[i]? = some x := fun i hi => ⟨xs[i]'(by rw [hn]; exact hi), List.getElem?_eq_getElem _⟩
  obtain ⟨x0, e0⟩ := hx 0 (by omega)
  obtain ⟨x1, e1⟩ := hx 1 (by omega)
  obtain ⟨x2, e2⟩ := hx 2 (by omega)
  obtain ⟨x3, e3⟩ := hx 3 (by omega)
  obtain ⟨x4, e4⟩ := hx 4 (by omega)
  obtain ⟨x5, e5⟩ := hx 5 (by omega)
  obtain ⟨x6, e6⟩ := hx 6 (by omega)
  obtain ⟨x7, e7⟩ := hx 7 (by omega)
  have h0 : DataW.trod enc Try.prog w base spare held m 3 ((L.drop 0).take (Try.prog.cellsOf 3)) = some x0 := (hel 0 _ rfl).trans e0
  have h1 : DataW.trod enc Try.prog w base spare held m 3 ((L.drop 1).take (Try.prog.cellsOf 3)) = some x1 := (hel 1 _ rfl).trans e1
  have h2 : DataW.trod enc Try.prog w base spare held m 9 ((L.drop 2).take (Try.prog.cellsOf 9)) = some x2 := (hel 2 _ rfl).trans e2
  have h3 : DataW.trod enc Try.prog w base spare held m 28 ((L.drop 3).take (Try.prog.cellsOf 28)) = some x3 := (hel 3 _ rfl).trans e3
  have h4 : DataW.trod enc Try.prog w base spare held m 3 ((L.drop 4).take (Try.prog.cellsOf 3)) = some x4 := (hel 4 _ rfl).trans e4
  have h5 : DataW.trod enc Try.prog w base spare held m 30 ((L.drop 5).take (Try.prog.cellsOf 30)) = some x5 := (hel 5 _ rfl).trans e5
  have h6 : DataW.trod enc Try.prog w base spare held m 31 ((L.drop 8).take (Try.prog.cellsOf 31)) = some x6 := (hel 6 _ rfl).trans e6
  have h7 : DataW.trod enc Try.prog w base spare held m 5 ((L.drop 9).take (Try.prog.cellsOf 5)) = some x7 := (hel 7 _ rfl).trans e7
  rw [cells3] at h0 h1 h4
  rw [cells9, one_drop (by omega)] at h2
  rw [cells31, one_drop (by omega)] at h3
  rw [cells29] at h5
  rw [cells39, one_drop (by omega)] at h6
  rw [cells5] at h7
  obtain ⟨k0, c0, _, w0⟩ := DataW.trod_int Try.underlying3 h0
  obtain ⟨k1, c1, _, w1⟩ := DataW.trod_int Try.underlying3 h1
  obtain ⟨s, es, hsn⟩ := open_str h2
  obtain ⟨bs, hb, hbo, hbs⟩ := open_bytesS h3 (fun k hk => hs k (by
    rw [hy2]
    simp only [DataW.weights, Try.underlying33]
    exact DataW.weights_mem_each (j := 3) (t := 28) rfl (by simp [e3]) k hk))
  obtain ⟨k4, c4, _, w4⟩ := DataW.trod_int Try.underlying3 h4
  obtain ⟨t, et⟩ := open_tr h5
  obtain ⟨ks, hk, hko, hks⟩ := open_keepS h6 (fun k hk => hs k (by
    rw [hy2]
    simp only [DataW.weights, Try.underlying33]
    exact DataW.weights_mem_each (j := 6) (t := 31) rfl (by simp [e6]) k hk))
  obtain ⟨k7, c7, _, w7⟩ := DataW.trod_int Try.underlying5 h7
  have hb7 := u8_wf w7
  refine ⟨⟨k0, k1, s, L[3], bs, k4, t, L[8], ks, UInt8.ofNat k7.toNat⟩, ?_, ⟨hsn, hb, hk, fun hne g hg => ?_, fun hne g hg => ?_⟩, hbs, hks⟩
  · have d0 := cut1 c0
    have d1 := cut1 c1
    have d4 := cut1 c4
    have d7 := cut1 c7
    have dt : ∀ j, j < 3 → L[5 + j]? = [Value.int .i64 t.when, .int .i64 t.kind, .bool t.done][j]? := fun j hj => by
      rw [← et, List.getElem?_take, if_pos hj, List.getElem?_drop]
    apply List.ext_getElem?
    intro j
    match j with
    | 0 => simpa [opC] using d0
    | 1 => simpa [opC] using d1
    | 2 =>
      have : L[2]? = some L[2] := List.getElem?_eq_getElem (by omega)
      rw [this, es]; simp [opC]
    | 3 => simp [opC, show 3 < L.length by omega]
    | 4 => simpa [opC] using d4
    | 5 => simpa [opC] using dt 0 (by omega)
    | 6 => simpa [opC] using dt 1 (by omega)
    | 7 => simpa [opC] using dt 2 (by omega)
    | 8 => simp [opC, show 8 < L.length by omega]
    | 9 =>
      rw [d7]
      simp [opC]
      omega
    | j + 10 => rw [List.getElem?_eq_none (by omega), List.getElem?_eq_none (by simp [opC])]
  · rcases hbo with q | q
    · exact (hne q).elim
    · exact q g hg
  · rcases hko with q | q
    · exact (hne q).elim
    · exact q g hg
set_option maxRecDepth 100000 in
theorem open_scriptS {n : Nat} {v : Value} {y : DataW H × List MemPlace} (h : DataW.trod enc Try.prog w base spare held n 27 [v] = some y) (hs : ∀ k ∈ y.1.weights Try.prog 27, k ≤ reachBytes) : ∃ l, Sc w.heap.size w v l ∧ l.length ≤ 1172812402926 ∧ ∀ o ∈ l, o.data.length ≤ 140737488351232 ∧ o.keep.length ≤ 17592186043904 := by
  rcases open_slice Try.underlying27 h with ⟨hcs, _⟩ | ⟨a, len, cap, m, n', D, Pl, hcs, _, hl, hm, hmm, hx, hel⟩
  · simp at hcs
    exact ⟨[], ⟨none, 0, hcs, by simp, by simp [maxLen], (fun o ho => by cases ho), fun j o hj => by simp at hj⟩, by simp, fun o ho => by cases ho⟩
  · simp at hcs
    have hlm : len ≤ m := by rw [hmm]; split <;> omega
    have hlenS : len ≤ 1172812402926 := by
      have h1 := hs ((len + (m - len)) * Try.prog.bytesOf 33) (by
        rw [hx]
        simp only [DataW.weights, Try.underlying27]
        refine List.mem_cons.2 (.inl ?_)
        simp)
      rw [bytes44] at h1
      have h2 : (len + (m - len)) * 120 ≤ 140737488351232 := h1
      omega
    have hspot : 0 < len → ∃ b off, a = ⟨b, off, none⟩ := fun h0 => by
      obtain ⟨cs', h1, h2⟩ := hel 0 (by omega)
      rw [cells44] at h1
      obtain ⟨_, hl', hc⟩ := World.cells?_some h1
      obtain ⟨b, off, spot⟩ := a
      have hc0 := World.cell?_spot ((hc 0 (by omega)).trans (List.getElem?_eq_getElem (by omega)))
      have hs : spot = none := by simpa [Addr.add] using hc0
      subst hs
      exact ⟨b, off, rfl⟩
    have hex : ∀ i, i < len → ∃ o : Opx, (Ox w.heap.size w o ∧ o.data.length ≤ 140737488351232 ∧ o.keep.length ≤ 17592186043904) ∧ ∃ b off, a = ⟨b, off, none⟩ ∧ b < w.heap.size ∧ ∀ k u, (opC o)[k]? = some u → w.cell? ⟨b, off + i * 10 + k, none⟩ = some u := by
      intro i hi
      obtain ⟨cs', h1, h2⟩ := hel i (by omega)
      rw [cells44] at h1
      obtain ⟨o, rfl, hO⟩ := open_opS h2 (fun k hk => hs k (by
        rw [hx]
        simp only [DataW.weights, Try.underlying27]
        exact List.mem_cons_of_mem _ (List.mem_append.2 (.inl (weights_all (d := D i) (List.mem_map.2 ⟨i, by simpa using hi, rfl⟩) hk)))))
      obtain ⟨_, hl', hc⟩ := World.cells?_some h1
      obtain ⟨b, off, rfl⟩ := hspot (by omega)
      have hcell : ∀ k u, (opC o)[k]? = some u → w.cell? ⟨b, off + i * 10 + k, none⟩ = some u := fun k u hu => by
        have hk : k < 10 := by
          have := (Array.getElem?_eq_some_iff.1 hu).1
          simpa [opC] using this
        have := hc k (by omega)
        rw [add3, Addr.add_lit] at this
        rw [Nat.add_assoc, this]
        simpa using hu
      exact ⟨o, hO, b, off, rfl, World.block_lt_of_cell? w _ (hcell 0 _ rfl), hcell⟩
    haveI : Inhabited Opx := ⟨⟨0, 0, [], .slice none 0 0, [], 0, ⟨0, 0, false⟩, .slice none 0 0, [], 0⟩⟩
    obtain ⟨f, hf⟩ := choose_ltT hex
    refine ⟨(List.range len).map f, ⟨some a, cap, by rw [hcs]; simp, by simpa using hl, hm, fun o ho => ?_, fun j g hg => ?_⟩, by simpa using hlenS, fun o ho => ?_⟩
    · obtain ⟨i, hi, rfl⟩ := List.mem_map.1 ho
      exact (hf i (by simpa using hi)).1.1
    · rw [List.getElem?_map] at hg
      by_cases hj : j < len
      · rw [List.getElem?_range hj] at hg
        simp at hg
        rw [← hg]
        obtain ⟨_, b, off, rfl, r⟩ := hf j hj
        exact ⟨b, off, rfl, r⟩
      · rw [List.getElem?_eq_none (by simpa using hj)] at hg
        cases hg
    · obtain ⟨i, hi, rfl⟩ := List.mem_map.1 ho
      exact (hf i (by simpa using hi)).1.2
theorem open_fileS {n : Nat} {L : List Value} {y : DataW H × List MemPlace} (h : DataW.trod enc Try.prog w base spare held n 66 L = some y) (hs : ∀ k ∈ y.1.weights Try.prog 66, k ≤ reachBytes) : ∃ f : Fx, L = [strV f.nm, f.vb] ∧ f.nm.length ≤ maxLen ∧ Bs w f.vb f.bs ∧ (f.bs ≠ [] → ∀ g, f.vb.ownBlock = some g → g < w.heap.size) ∧ f.bs.length ≤ 140737488351232 := by
  obtain ⟨xs, m, hy1, hy2, hlen, hn, hel⟩ := DataW.trod_struct Try.underlying66 h
  rw [cells41] at hlen
  have hx : ∀ i, i < 2 → ∃ x, xs[i]? = some x := fun i hi => ⟨xs[i]'(by rw [hn]; exact hi), List.getElem?_eq_getElem _⟩
  obtain ⟨x0, e0⟩ := hx 0 (by omega)
  obtain ⟨x1, e1⟩ := hx 1 (by omega)
  have h0 : DataW.trod enc Try.prog w base spare held m 9 ((L.drop 0).take (Try.prog.cellsOf 9)) = some x0 := (hel 0 _ rfl).trans e0
  have h1 : DataW.trod enc Try.prog w base spare held m 28 ((L.drop 1).take (Try.prog.cellsOf 28)) = some x1 := (hel 1 _ rfl).trans e1
  rw [cells9, one_drop (by omega)] at h0
  rw [cells31, one_drop (by omega)] at h1
  obtain ⟨s, es, hsn⟩ := open_str h0
  obtain ⟨bs, hb, hbo, hbs⟩ := open_bytesS h1 (fun k hk => hs k (by
    rw [hy2]
    simp only [DataW.weights, Try.underlying66]
    exact DataW.weights_mem_each (j := 1) (t := 28) rfl (by simp [e1]) k hk))
  refine ⟨⟨s, L[1], bs⟩, ?_, hsn, hb, fun hne g hg => ?_, hbs⟩
  · apply List.ext_getElem?
    intro j
    match j with
    | 0 =>
      have : L[0]? = some L[0] := List.getElem?_eq_getElem (by omega)
      rw [this, es]; rfl
    | 1 => simp [show 1 < L.length by omega]
    | j + 2 => rw [List.getElem?_eq_none (by omega), List.getElem?_eq_none (by simp)]
  · rcases hbo with q | q
    · exact (hne q).elim
    · exact q g hg
set_option maxRecDepth 100000 in
theorem open_filesS {n : Nat} {v : Value} {y : DataW H × List MemPlace} (h : DataW.trod enc Try.prog w base spare held n 22 [v] = some y) (hs : ∀ k ∈ y.1.weights Try.prog 22, k ≤ reachBytes) : ∃ a cap l, v = .slice a l.length cap ∧ Fs w.heap.size w a cap l ∧ l.length ≤ 3518437208780 ∧ ∀ f ∈ l, f.bs.length ≤ 140737488351232 := by
  rcases open_slice Try.underlying22 h with ⟨hcs, _⟩ | ⟨a, len, cap, m, n', D, Pl, hcs, _, hl, hm, hmm, hx, hel⟩
  · simp at hcs
    exact ⟨none, 0, [], hcs, ⟨by simp, by simp [maxLen], (fun f hf => by cases hf), fun j f hj => by simp at hj⟩, by simp, fun f hf => by cases hf⟩
  · simp at hcs
    have hlm : len ≤ m := by rw [hmm]; split <;> omega
    have hlenS : len ≤ 3518437208780 := by
      have h1 := hs ((len + (m - len)) * Try.prog.bytesOf 66) (by
        rw [hx]
        simp only [DataW.weights, Try.underlying22]
        refine List.mem_cons.2 (.inl ?_)
        simp)
      rw [bytes41] at h1
      have h2 : (len + (m - len)) * 40 ≤ 140737488351232 := h1
      omega
    have hspot : 0 < len → ∃ b off, a = ⟨b, off, none⟩ := fun h0 => by
      obtain ⟨cs', h1, h2⟩ := hel 0 (by omega)
      rw [cells41] at h1
      obtain ⟨_, hl', hc⟩ := World.cells?_some h1
      obtain ⟨b, off, spot⟩ := a
      have hc0 := World.cell?_spot ((hc 0 (by omega)).trans (List.getElem?_eq_getElem (by omega)))
      have hs : spot = none := by simpa [Addr.add] using hc0
      subst hs
      exact ⟨b, off, rfl⟩
    have hex : ∀ i, i < len → ∃ f : Fx, (f.nm.length ≤ maxLen ∧ Bs w f.vb f.bs ∧ (f.bs ≠ [] → ∀ g, f.vb.ownBlock = some g → g < w.heap.size) ∧ f.bs.length ≤ 140737488351232) ∧ ∃ b off, a = ⟨b, off, none⟩ ∧ b < w.heap.size ∧ w.cell? ⟨b, off + i * 2, none⟩ = some (strV f.nm) ∧ w.cell? ⟨b, off + i * 2 + 1, none⟩ = some f.vb := by
      intro i hi
      obtain ⟨cs', h1, h2⟩ := hel i (by omega)
      rw [cells41] at h1
      obtain ⟨f, rfl, hO⟩ := open_fileS h2 (fun k hk => hs k (by
        rw [hx]
        simp only [DataW.weights, Try.underlying22]
        exact List.mem_cons_of_mem _ (List.mem_append.2 (.inl (weights_all (d := D i) (List.mem_map.2 ⟨i, by simpa using hi, rfl⟩) hk)))))
      obtain ⟨_, hl', hc⟩ := World.cells?_some h1
      obtain ⟨b, off, rfl⟩ := hspot (by omega)
      have d0 : w.cell? ⟨b, off + i * 2, none⟩ = some (strV f.nm) := by
        have := hc 0 (by omega)
        rw [add3, Addr.add_lit] at this
        simpa using this
      have d1 : w.cell? ⟨b, off + i * 2 + 1, none⟩ = some f.vb := by
        have := hc 1 (by omega)
        rw [add3, Addr.add_lit] at this
        simpa [Nat.add_assoc] using this
      exact ⟨f, hO, b, off, rfl, World.block_lt_of_cell? w _ d0, d0, d1⟩
    haveI : Inhabited Fx := ⟨⟨[], .slice none 0 0, []⟩⟩
    obtain ⟨f, hf⟩ := choose_ltT hex
    refine ⟨some a, cap, (List.range len).map f, by rw [hcs]; simp, ⟨by simpa using hl, hm, fun g hg => ?_, fun j g hg => ?_⟩, by simpa using hlenS, fun g hg => ?_⟩
    · obtain ⟨i, hi, rfl⟩ := List.mem_map.1 hg
      obtain ⟨q1, q2, q3, _⟩ := (hf i (by simpa using hi)).1
      exact ⟨q1, q2, q3⟩
    · rw [List.getElem?_map] at hg
      by_cases hj : j < len
      · rw [List.getElem?_range hj] at hg
        simp at hg
        rw [← hg]
        obtain ⟨_, b, off, rfl, r⟩ := hf j hj
        exact ⟨b, off, rfl, r⟩
      · rw [List.getElem?_eq_none (by simpa using hj)] at hg
        cases hg
    · obtain ⟨i, hi, rfl⟩ := List.mem_map.1 hg
      exact (hf i (by simpa using hi)).1.2.2.2
theorem open_madeS {n : Nat} {L : List Value} {y : DataW H × List MemPlace} (h : DataW.trod enc Try.prog w base spare held n 26 L = some y) (hs : ∀ k ∈ y.1.weights Try.prog 26, k ≤ reachBytes) : ∃ m a cap, L = (mxC m a cap).toList ∧ Fs w.heap.size w a cap m.l ∧ m.l.length ≤ 3518437208780 ∧ ∀ f ∈ m.l, f.bs.length ≤ 140737488351232 := by
  obtain ⟨xs, k, hy1, hy2, hlen, hn, hel⟩ := DataW.trod_struct Try.underlying26 h
  rw [cells52] at hlen
  have hx : ∀ i, i < 3 → ∃ x, xs[i]? = some x := fun i hi => ⟨xs[i]'(by rw [hn]; exact hi), List.getElem?_eq_getElem _⟩
  obtain ⟨x0, e0⟩ := hx 0 (by omega)
  obtain ⟨x1, e1⟩ := hx 1 (by omega)
  obtain ⟨x2, e2⟩ := hx 2 (by omega)
  have h0 : DataW.trod enc Try.prog w base spare held k 3 ((L.drop 0).take (Try.prog.cellsOf 3)) = some x0 := (hel 0 _ rfl).trans e0
  have h1 : DataW.trod enc Try.prog w base spare held k 4 ((L.drop 1).take (Try.prog.cellsOf 4)) = some x1 := (hel 1 _ rfl).trans e1
  have h2 : DataW.trod enc Try.prog w base spare held k 24 ((L.drop 2).take (Try.prog.cellsOf 24)) = some x2 := (hel 2 _ rfl).trans e2
  rw [cells3] at h0
  rw [cells4] at h1
  rw [cells36, one_drop (by omega)] at h2
  obtain ⟨k0, c0, _, w0⟩ := DataW.trod_int Try.underlying3 h0
  obtain ⟨k1, c1, _⟩ := DataW.trod_bool Try.underlying4 h1
  obtain ⟨ys, k', hz1, hz2, hlen2, hn2, hel2⟩ := DataW.trod_struct Try.underlying24 h2
  obtain ⟨z0, f0⟩ : ∃ z, ys[0]? = some z := ⟨ys[0]'(by rw [hn2]; decide), List.getElem?_eq_getElem _⟩
  have h3 : DataW.trod enc Try.prog w base spare held k' 22 (([L[2]].drop 0).take (Try.prog.cellsOf 22)) = some z0 := (hel2 0 _ rfl).trans f0
  rw [cells34] at h3
  obtain ⟨a, cap, l, ev, hF, hlS, hbS⟩ := open_filesS (v := L[2]) (by simpa using h3) (fun k hk => hs k (by
    rw [hy2]
    simp only [DataW.weights, Try.underlying26]
    refine DataW.weights_mem_each (j := 2) (t := 24) rfl (by simp [e2]; rfl) k ?_
    rw [hz2]
    simp only [DataW.weights, Try.underlying24]
    exact DataW.weights_mem_each (j := 0) (t := 22) rfl (by simp [f0]) k hk))
  refine ⟨⟨k0, k1, l⟩, a, cap, ?_, hF, hlS, hbS⟩
  have d0 := cut1 c0
  have d1 := cut1 c1
  apply List.ext_getElem?
  intro j
  match j with
  | 0 => simpa [mxC] using d0
  | 1 => simpa [mxC] using d1
  | 2 =>
    have : L[2]? = some L[2] := List.getElem?_eq_getElem (by omega)
    rw [this, ev]; simp [mxC]
  | j + 3 => rw [List.getElem?_eq_none (by omega), List.getElem?_eq_none (by simp [mxC])]
end
end Go.Proofs.Ytcdogciacchigab
