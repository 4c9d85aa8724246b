/- Of the document's disk: Remove. -/
import Derived.Test.YtcdogciacchigabR5
import Derived.Test.YtcdogciacchigabM10
namespace Go.Proofs.Ytcdogciacchigab
open Go.RowKit Go.Maps
set_option linter.unusedVariables false

section
variable {w : World} {q : Nat} {K : Nat → Prop} {fv av : Value} {s : St}
theorem tlC_append (l1 l2 : List Pf) (v1 v2 : List Value) (h : v1.length = l1.length) : tlC (l1 ++ l2) (v1 ++ v2) = tlC l1 v1 ++ tlC l2 v2 := by
  unfold tlC
  rw [List.zip_append h.symm, List.flatMap_append]
theorem tlC_len (l : List Pf) (vs : List Value) (h : vs.length = l.length) : (tlC l vs).length = l.length * 3 := by
  induction l generalizing vs with
  | nil => simp [tlC]
  | cons g r ih =>
    cases vs with
    | nil => simp at h
    | cons x us =>
      have := ih us (by simpa using h)
      have e : tlC (g :: r) (x :: us) = strV g.nm :: x :: .int .i64 g.sy :: tlC r us := by simp [tlC]
      rw [e]
      simp only [List.length_cons, this]
      omega
theorem tlC_one (l : List Pf) (vs : List Value) (h : ∀ v ∈ vs, v.oneCell' = true) : ∀ u ∈ tlC l vs, u.oneCell' = true := fun u hu => by
  obtain ⟨x, hx, hu⟩ := List.mem_flatMap.1 hu
  simp at hu
  rcases hu with rfl | rfl | rfl
  · rfl
  · exact h _ (List.of_mem_zip hx).2
  · rfl
/-- A list of files without its k-th, laid down anew. -/
theorem Fl.cut {K : Nat → Prop} {w : World} {gb fc : Nat} {l : List Pf} (h : Fl K w (.slice (some ⟨gb, 0, none⟩) l.length fc) l) (hl : l.length ≤ 65536) (k : Nat) (hk : k < l.length) :
    ∃ a3 n3 c3 w3, (∀ ty, (Builtin.append_ #[90, 90] ty #[.slice none 0 0, .slice (some ⟨gb, 0, none⟩) k fc]).run Try.prog w = .ok (.slice a3 n3 c3) w3) ∧ Turn no w w3 ∧
      ∀ A : Option Addr, (A = some ⟨gb, 0, none⟩ ∧ l.length = k + 1 ∨ A = some ⟨gb, (k + 1) * 3, none⟩) → ∃ a4 n4 c4 w4, (∀ ty, (Builtin.append_ #[90, 90] ty #[.slice a3 n3 c3, .slice A (l.length - (k + 1)) (fc - (k + 1))]).run Try.prog w3 = .ok (.slice a4 n4 c4) w4) ∧ Wk w.heap.size K w w4 (.slice a4 n4 c4) (l.take k ++ l.drop (k + 1)) := by
  obtain ⟨vs, h1, h2, h3, h4⟩ := h
  have hcell : ∀ j x, (tlC l vs)[j]? = some x → w.cell? ⟨gb, j, none⟩ = some x := fun j x hx => by
    have := World.ownsRow.cells h2 (g := gb) rfl j x hx
    simpa [Addr.add_lit] using this
  have hone : ∀ v ∈ vs, v.oneCell' = true := fun v hv => by
    obtain ⟨j, hj⟩ := List.mem_iff_getElem?.1 hv
    have hjl := (List.getElem?_eq_some_iff.1 hj).1
    obtain ⟨f, hf⟩ : ∃ f, l[j]? = some f := ⟨l[j]'(by omega), List.getElem?_eq_getElem _⟩
    obtain ⟨a, c, rfl⟩ := (h4 j f v hf hj).1.bs.slice
    rfl
  have e1 : tlC l vs = tlC (l.take k) (vs.take k) ++ tlC (l.drop k) (vs.drop k) := by
    rw [← tlC_append _ _ _ _ (by rw [List.length_take, List.length_take]; omega), List.take_append_drop, List.take_append_drop]
  have e2 : tlC l vs = tlC (l.take (k + 1)) (vs.take (k + 1)) ++ tlC (l.drop (k + 1)) (vs.drop (k + 1)) := by
    rw [← tlC_append _ _ _ _ (by rw [List.length_take, List.length_take]; omega), List.take_append_drop, List.take_append_drop]
  have l1 : (tlC (l.take k) (vs.take k)).length = k * 3 := by rw [tlC_len _ _ (by rw [List.length_take, List.length_take]; omega), List.length_take]; omega
  have l2 : (tlC (l.take (k + 1)) (vs.take (k + 1))).length = (k + 1) * 3 := by rw [tlC_len _ _ (by rw [List.length_take, List.length_take]; omega), List.length_take]; omega
  have l3 : (tlC (l.drop (k + 1)) (vs.drop (k + 1))).length = (l.length - (k + 1)) * 3 := by rw [tlC_len _ _ (by rw [List.length_drop, List.length_drop]; omega), List.length_drop]
  have src1 : Src Try.prog 3 90 (.slice (some ⟨gb, 0, none⟩) k fc) k (tlC (l.take k) (vs.take k)) w := Src.ofSlice _ Try.underlying90 _ _ _ _ (by rw [l1]) (fun j x hx => by
    have hj := (List.getElem?_eq_some_iff.1 hx).1
    have := hcell j x (by rw [e1, List.getElem?_append_left hj]; exact hx)
    simpa [Addr.add_lit] using this) (tlC_one _ _ (fun v hv => hone v (List.mem_of_mem_take hv)))
  obtain ⟨v3, w3, hr3, ho3, hg3⟩ := run_append_srcN (P := Try.prog) (t := 90) (tx := 90) Try.underlying90 infoFT rfl (by omega) 90 w (.slice none 0 0) 0 [] (OwnN.nil w 102 3) _ k _ src1 (by omega) (by simp only [maxLen]; omega)
  have T3 : Turn no w w3 := hg3.turn.mono (fun k _ e => by cases e)
  have hf3 : ∀ g, v3.ownBlock = some g → w.heap.size ≤ g := hg3.fresh (fun g hg => by cases hg) (Nat.le_refl _)
  rw [List.nil_append, Nat.zero_add] at ho3
  obtain ⟨a3, c3, rfl, _⟩ := ho3.form
  refine ⟨a3, k, c3, w3, fun ty => hr3, T3, fun A hA => ?_⟩
  have src2 : Src Try.prog 3 90 (.slice A (l.length - (k + 1)) (fc - (k + 1))) (l.length - (k + 1)) (tlC (l.drop (k + 1)) (vs.drop (k + 1))) w3 := by
    rcases hA with ⟨rfl, hn⟩ | rfl
    · refine Src.ofSlice _ Try.underlying90 _ _ _ _ (by rw [l3]) (fun j x hx => ?_) (tlC_one _ _ (fun v hv => hone v (List.mem_of_mem_drop hv)))
      have hj := (List.getElem?_eq_some_iff.1 hx).1
      rw [l3] at hj
      omega
    · refine Src.ofSlice _ Try.underlying90 _ _ _ _ (by rw [l3]) (fun j x hx => ?_) (tlC_one _ _ (fun v hv => hone v (List.mem_of_mem_drop hv)))
      have := hcell ((k + 1) * 3 + j) x (by rw [e2, List.getElem?_append_right (by omega), l2, Nat.add_sub_cancel_left]; exact hx)
      rw [Addr.add_lit]
      exact T3.keep this (fun q => q)
  obtain ⟨v4, w4, hr4, ho4, hg4⟩ := run_append_srcN (P := Try.prog) (t := 90) (tx := 90) Try.underlying90 infoFT rfl (by omega) 90 w3 _ k _ ho3 _ (l.length - (k + 1)) _ src2 (by omega) (by simp only [maxLen]; omega)
  have hs3 := T3.size
  have T4 : Turn no w w4 := T3.trans hg4.turn (fun i hi q => by have := hf3 i q; omega)
  have hf4 : ∀ g, v4.ownBlock = some g → w.heap.size ≤ g := hg4.fresh hf3 hs3
  obtain ⟨a4, c4, rfl, _⟩ := ho4.form
  have hlen : (l.take k ++ l.drop (k + 1)).length = k + (l.length - (k + 1)) := by rw [List.length_append, List.length_take, List.length_drop]; omega
  refine ⟨a4, _, c4, w4, fun ty => hr4, ⟨⟨vs.take k ++ vs.drop (k + 1), ?_, ?_, fun g hg => Or.inr ⟨hf4 g hg, ho4.lt hg⟩, fun j f u hf hu => ?_⟩, hf4, T4, rfl⟩⟩
  · rw [hlen, List.length_append, List.length_take, List.length_drop]; omega
  · rw [hlen, tlC_append _ _ _ _ (by rw [List.length_take, List.length_take]; omega)]
    exact ho4
  · have hkl : (l.take k).length = k := by rw [List.length_take]; omega
    have hkv : (vs.take k).length = k := by rw [List.length_take]; omega
    by_cases hj : j < k
    · rw [List.getElem?_append_left (by omega), List.getElem?_take, if_pos hj] at hf
      rw [List.getElem?_append_left (by omega), List.getElem?_take, if_pos hj] at hu
      obtain ⟨a, b⟩ := h4 j f u hf hu
      exact ⟨a.turn_no T4, fun g hg => Or.inl (b g hg)⟩
    · rw [List.getElem?_append_right (by omega), List.getElem?_drop] at hf
      rw [List.getElem?_append_right (by omega), List.getElem?_drop] at hu
      rw [hkl] at hf
      rw [hkv] at hu
      obtain ⟨a, b⟩ := h4 _ f u hf hu
      exact ⟨a.turn_no T4, fun g hg => Or.inl (b g hg)⟩
set_option maxRecDepth 100000 in
set_option maxHeartbeats 16000000 in
theorem rremove82 (hk : Rk w q K s) (hn : s.n < 4611686018427387904) (hm : s.m < 3518437208780) (nm : Nm) (hnm : nm.length ≤ maxLen) :
    Calls Try.prog 82 #[ptr q, strV nm] w (Rns w q K (remS s nm)) := by
  have ha := asked49 hk nm hnm
  have hk0 := hk
  obtain ⟨fv, av, h⟩ := hk
  by_cases hA : asked s nm = 0
  · obtain ⟨a1, a2⟩ := asked_off hA
    rw [hA] at ha
    have hat := at50 h nm
    have hul := h.inv.used
    have hll := h.inv.lim
    have hcount := h.inv.count
    obtain ⟨fa, fc, hfv, hfc1, hfc2⟩ := h.files.slice
    subst hfv
    have c2 := h.c2
    cases hg : getF nm s.fs with
    | none =>
      have hk1 : atI nm s.fs = -1 := atI_none.2 hg
      rw [hk1] at hat
      have hE : foundE s nm = 61 := by simp [foundE, hA, hg]
      have e : remS s nm = (s, 61) := by simp [remS, hE]
      rw [e]
      have FIN := shut (Rns.same (r := (s, 61)) hk0 (Turn.refl no w))
      clear e hE hg hk1 h hk0
      unfold ptr strV at *
      go_enter Try.func82, Try.ntmps82
      go_wp2_with fail
      refine ha.mono ?_
      rintro e w' ⟨rfl, rfl⟩
      go_wp2_with fail
      refine hat.mono ?_
      rintro e w' ⟨rfl, rfl⟩
      go_wp2_with fail
      go_ret
      exact FIN.out
    | some f =>
      obtain ⟨kn, hkn, hfk, _⟩ := atI_some hg
      rw [hkn] at hat
      have hfn := (getF_mem hg).2
      have hkl := (List.getElem?_eq_some_iff.1 hfk).1
      have hkl' : (kn : Int) < (s.fs.length : Int) := by omega
      have hk0' : ¬ (kn : Int) < 0 := by omega
      have hk0c : (0 : Int) ≤ (kn : Int) := by omega
      have hE : foundE s nm = 0 := by simp [foundE, hA, hg]
      have hfo : fileOf s.fs nm = f := by simp [fileOf, hg]
      have hfbl : f.bs.length ≤ 1073741824 := by
        have h1 := lenF_le nm s.fs
        have h2 : lenF nm s.fs = f.bs.length := by simp [lenF, hg]
        omega
      obtain ⟨gb, cw, xa, xc, ew, _, _, _, _, _⟩ := h.files.at kn f hfk
      have ew' : fa = some ⟨gb, 0, none⟩ := by simp at ew; exact ew.1
      clear ew
      subst ew'
      have hKg : K gb := by
        obtain ⟨_, _, _, h3, _⟩ := h.files
        exact h3 gb rfl
      have hset : s.fs.take kn ++ s.fs.drop (kn + 1) = dropF nm s.fs := by
        have := cut_drop h.inv.sorted hfk
        rw [hfn] at this
        exact this
      have e : remS s nm = numb s (dropF nm s.fs) := by simp only [remS, hE]; simp
      have hinv := h.inv.drop nm
      have hinv2 := numb_inv2 h.inv hinv
      rw [e]
      have HH := shut h
      have HI2 := shut hinv2
      have HFK := shut hfk
      have HSET := shut hset
      have hdo := numb_do s (dropF nm s.fs)
      have HDO := shut hdo
      have hbe := befall52 h hn hm
      have HFS := shut (numb_fs s)
      have hkw : IntKind.i64.wrap ((kn : Int) + 1) = ((kn + 1 : Nat) : Int) := by rw [wrap_i64 (by omega) (by omega)]; omega
      have hkc : (kn : Int) ≤ (fc : Int) := by omega
      have hkc2 : ¬ (fc : Int) < (kn : Int) := by omega
      have hkd : ((kn + 1 : Nat) : Int) ≤ (s.fs.length : Int) := by omega
      have hkd2 : ¬ (s.fs.length : Int) < ((kn + 1 : Nat) : Int) := by omega
      have hkd3 : (kn : Int) + 1 ≤ (s.fs.length : Int) := by omega
      have hkd4 : ¬ (s.fs.length : Int) < (kn : Int) + 1 := by omega
      clear e hinv hg hkn hdo hinv2 h hk0 hA a1 a2 hul hll hfk hE hfo hset hKg hfn
      unfold ptr strV at *
      go_enter Try.func82, Try.ntmps82
      go_wp2_with fail
      refine ha.mono ?_
      rintro e w' ⟨rfl, rfl⟩
      go_wp2_with fail
      refine hat.mono ?_
      rintro e w' ⟨rfl, rfl⟩
      go_wp2_with fail
      refine hbe.mono ?_
      rintro e w2 ⟨rfl, K2, av2, h2, hF2, T2⟩
      have HH2 := shut h2
      have HT02 := shut T2
      have HF02 := shut hF2
      clear hbe h2 hF2 T2 ha hat c2
      cases hdb : doB s with
      | false =>
        have e : numb s (dropF nm s.fs) = ((numb s s.fs).1, (numb s s.fs).2) := by rw [HDO.out, hdb]; rfl
        have HE := shut e
        have FN := Rns.undone HH.out.kp HH2.out HT02.out HF02.out (Turn.refl no w2) ((numb s s.fs).1, (numb s s.fs).2) rfl
        have HFN := shut FN
        clear FN e
        go_wp2_with fail
        go_ret
        rw [HE.out]
        exact HFN.out
      | true =>
        have e : numb s (dropF nm s.fs) = ({ (numb s s.fs).1 with fs := dropF nm s.fs }, (numb s s.fs).2) := by rw [HDO.out, hdb]; rfl
        have HE := shut e
        clear e
        have hfl2 : Fl K2 w2 (.slice (some ⟨gb, 0, none⟩) s.fs.length fc) s.fs := by have := HH2.out.files; rw [HFS.out] at this; exact this
        obtain ⟨a3, n3, c3, w3, hap3, T3, hnext⟩ := hfl2.cut hcount kn hkl
        have e2 := HH2.out.c2
        have e3 := T3.keep e2 (fun q => q)
        have hfin : ∀ W v, Wk w2.heap.size K2 w2 W v (s.fs.take kn ++ s.fs.drop (kn + 1)) → Rns w' q K ({ (numb s s.fs).1 with fs := dropF nm s.fs }, (numb s s.fs).2) (.returned (.int .i64 (numb s s.fs).2)) (W.setCell ⟨q, 2, none⟩ v) := fun W v hk => by
          rw [HSET.out] at hk
          obtain ⟨a, b⟩ := HH2.out.setFiles hk HI2.out
          exact ⟨rfl, _, ⟨_, _, a⟩, fun k hk' => by
            rcases hk' with q | q
            · exact HF02.out k q
            · have := HT02.out.size
              exact Or.inr (by omega), ((HT02.out.trans b (fun _ _ q => q)).mono (fun k _ e => by rw [e]; exact HH.out.kp))⟩
        clear hfl2
        by_cases hfc : fc = kn + 1
        · obtain ⟨a4, n4, c4, w4, hap4, hW4⟩ := hnext (some ⟨gb, 0, none⟩) (Or.inl ⟨rfl, by omega⟩)
          subst hfc
          have hz : s.fs.length - (kn + 1) = 0 := by omega
          rw [Nat.sub_self, hz] at hap4
          clear hz
          have FNL := hfin _ _ hW4
          have HFNL := shut FNL
          have g2 := (HH2.out.row.turn hW4.turn (fun q => q)).frozen 2
          have g2c := (HH2.out.row.turn hW4.turn (fun q => q)).cell 2 _ rfl
          have HAP4 := shut hap4
          clear FNL hfin hW4 hap4 hnext
          go_wp2_with (first | (at_builtin; refine wpList_append_run rfl _ _ (t := 90) (tx := 90) rfl _ _ rfl rfl (hap3 _) ?_; clear hap3) | (at_builtin; refine wpList_append_run rfl _ _ (t := 90) (tx := 90) rfl _ _ rfl rfl (HAP4.out _) ?_))
          go_ret
          rw [HE.out]
          exact HFNL.out
        · obtain ⟨a4, n4, c4, w4, hap4, hW4⟩ := hnext (some ⟨gb, (kn + 1) * 3, none⟩) (Or.inr rfl)
          have FNL := hfin _ _ hW4
          have HFNL := shut FNL
          have g2 := (HH2.out.row.turn hW4.turn (fun q => q)).frozen 2
          have g2c := (HH2.out.row.turn hW4.turn (fun q => q)).cell 2 _ rfl
          have HAP4 := shut hap4
          clear FNL hfin hW4 hap4 hnext
          go_wp2_with (first | (at_builtin; refine wpList_append_run rfl _ _ (t := 90) (tx := 90) rfl _ _ rfl rfl (hap3 _) ?_; clear hap3) | (at_builtin; refine wpList_append_run rfl _ _ (t := 90) (tx := 90) rfl _ _ rfl rfl (HAP4.out _) ?_))
          go_ret
          rw [HE.out]
          exact HFNL.out
  · have hE : foundE s nm = asked s nm := by simp [foundE, hA]
    have e : remS s nm = (s, asked s nm) := by simp [remS, hE, hA]
    rw [e]
    have ha' : (asked s nm != 0) = true := by simpa using hA
    have fin : Rns w q K (s, asked s nm) (.returned (.int .i64 (asked s nm))) w := Rns.same (r := (s, asked s nm)) hk0 (Turn.refl no w)
    have FIN := shut fin
    generalize asked s nm = E at *
    clear hk0 h e hA fin hE
    unfold ptr strV at *
    go_enter Try.func82, Try.ntmps82
    go_wp2_with fail
    refine ha.mono ?_
    rintro e w' ⟨rfl, rfl⟩
    go_wp2_with fail
    go_ret
    exact FIN.out
end
end Go.Proofs.Ytcdogciacchigab
