/- Of the document's disk: Read, Size, Names, Arm. -/
import Derived.Test.YtcdogciacchigabR4
import Derived.Test.YtcdogciacchigabM10
namespace Go.Proofs.Ytcdogciacchigab
open Go.RowKit Go.Maps
set_option linter.unusedVariables false

section
variable {w : World} {q : Nat} {K : Nat → Prop} {fv av : Value} {s : St}
theorem Rp.len (h : Rp w q K fv av s) {f : Pf} (hf : f ∈ s.fs) : f.bs.length ≤ 1073741824 := by
  have h1 := lenF_le f.nm s.fs
  have h2 := h.inv.used
  have h3 := h.inv.lim
  have : lenF f.nm s.fs = f.bs.length := by simp [lenF, getF_of_mem h.inv.sorted hf]
  omega

set_option maxRecDepth 100000 in
set_option maxHeartbeats 4000000 in
theorem rread57 (hk : Rk w q K s) (nm : Nm) (hnm : nm.length ≤ maxLen) :
    Calls Try.prog 57 #[ptr q, strV nm] w fun e w' => ∃ a c, e = .returned (.tuple #[.slice a (readS s nm).length c, .int .i64 (foundE s nm)]) ∧ Own w' 5 (.slice a (readS s nm).length c) ((readS s nm).map bv) ∧ (∀ g, (Value.slice a (readS s nm).length c).ownBlock = some g → w.heap.size ≤ g) ∧ Turn no w w' := by
  have ha := asked49 hk nm hnm
  obtain ⟨fv, av, h⟩ := hk
  by_cases hA : asked s nm = 0
  · rw [hA] at ha
    have hat := at50 h nm
    cases hg : getF nm s.fs with
    | none =>
      rw [atI_none.2 hg] at hat
      have hE : foundE s nm = 61 := by simp [foundE, hA, hg]
      have hR : readS s nm = [] := by simp [readS, hE]
      rw [hE, hR]
      have FIN : Shut (Own w 5 (.slice none 0 0) (([] : List UInt8).map bv)) := Own.nil w 5
      clear h hg hA hE hR
      unfold ptr strV at *
      go_enter Try.func57, Try.ntmps57
      go_wp2_with fail
      refine ha.mono ?_
      rintro e w' ⟨rfl, rfl⟩
      go_wp2_with fail
      refine hat.mono ?_
      rintro e w' ⟨rfl, rfl⟩
      go_wp2_with fail
      go_ret2
      exact ⟨none, 0, rfl, FIN.out, (fun g hg => by cases hg), Turn.refl _ _⟩
    | some f =>
      obtain ⟨kn, hkn, hfk, _⟩ := atI_some hg
      rw [hkn] at hat
      have hfm := List.mem_of_getElem? hfk
      have hfl := h.len hfm
      have hE : foundE s nm = 0 := by simp [foundE, hA, hg]
      have hR : readS s nm = f.bs := by simp [readS, hE, fileOf, hg]
      rw [hE, hR]
      have hkl := (List.getElem?_eq_some_iff.1 hfk).1
      have hkl' : (kn : Int) < (s.fs.length : Int) := by omega
      have hk0' : ¬ (kn : Int) < 0 := by omega
      obtain ⟨gb, c, xa, xc, ee, d0, d1, d2, hO, hRb⟩ := h.files.at kn f hfk
      have c2 := h.c2
      rw [ee] at c2
      obtain ⟨v4, w4, hr4, hO4, hG4, _⟩ := run_append_src (P := Try.prog) (t := 28) (tx := 28) (e := 5) Try.underlying28 info5 rfl 28 w (.slice none 0 0) [] (Own.nil _ 5) (.slice xa f.bs.length xc) f.bs.length (f.bs.map bv) (hO.bs.src Try.underlying28) (by simp; omega) (by simp only [maxLen]; simp; omega)
      rw [List.nil_append] at hO4
      obtain ⟨a4, c4, rfl⟩ := hO4.bs.slice
      have T4 : Turn no w w4 := hG4.turn.mono (fun k _ e => by cases e)
      have hb4 : ∀ g, (Value.slice a4 f.bs.length c4).ownBlock = some g → w.heap.size ≤ g := fun g hg => by
        rcases hG4.blk with e | ⟨g', e, e1, _⟩
        · rw [e] at hg; cases hg
        · rw [e] at hg; cases hg; exact e1
      have H1 := shut hO4
      have H2 := shut T4
      have H3 := shut hb4
      have hr4' : ∀ ty, (Builtin.append_ #[28, 28] ty #[.slice none 0 0, .slice xa f.bs.length xc]).run Try.prog w = .ok (.slice a4 f.bs.length c4) w4 := fun ty => hr4
      clear hO4 T4 hb4 hG4 h hg hA hE hR ee hO hRb d0 d2 hfk hfm hkn hr4
      unfold ptr strV at *
      go_enter Try.func57, Try.ntmps57
      go_wp2_with fail
      refine ha.mono ?_
      rintro e w' ⟨rfl, rfl⟩
      go_wp2_with fail
      refine hat.mono ?_
      rintro e w' ⟨rfl, rfl⟩
      go_wp2_with (at_builtin; refine wpList_append_run rfl _ _ (t := 28) (tx := 28) rfl _ _ rfl rfl (hr4' _) ?_)
      go_ret2
      exact ⟨_, _, rfl, H1.out, H3.out, H2.out⟩
  · have hE : foundE s nm = asked s nm := by simp [foundE, hA]
    have hR : readS s nm = [] := by simp only [readS, hE, if_neg hA]
    rw [hE, hR]
    have ha' : (asked s nm != 0) = true := by simpa using hA
    have FIN : Shut (Own w 5 (.slice none 0 0) (([] : List UInt8).map bv)) := Own.nil w 5
    clear hE hR hA h
    generalize asked s nm = E at *
    unfold ptr strV at *
    go_enter Try.func57, Try.ntmps57
    go_wp2_with fail
    refine ha.mono ?_
    rintro e w' ⟨rfl, rfl⟩
    go_wp2_with fail
    go_ret2
    exact ⟨none, 0, rfl, FIN.out, (fun g hg => by cases hg), Turn.refl _ _⟩

set_option maxRecDepth 100000 in
set_option maxHeartbeats 4000000 in
theorem rsize59 (hk : Rk w q K s) (nm : Nm) (hnm : nm.length ≤ maxLen) :
    Calls Try.prog 59 #[ptr q, strV nm] w fun e w' => e = .returned (.tuple #[.int .i64 (sizeS s nm).1, .int .i64 (sizeS s nm).2, .int .i64 (foundE s nm)]) ∧ Turn no w w' := by
  have ha := asked49 hk nm hnm
  obtain ⟨fv, av, h⟩ := hk
  by_cases hA : asked s nm = 0
  · rw [hA] at ha
    have hat := at50 h nm
    cases hg : getF nm s.fs with
    | none =>
      rw [atI_none.2 hg] at hat
      have hE : foundE s nm = 61 := by simp [foundE, hA, hg]
      have hR : sizeS s nm = (0, 0) := by simp [sizeS, hE]
      rw [hE, hR]
      clear h hg hA hE hR
      unfold ptr strV at *
      go_enter Try.func59, Try.ntmps59
      go_wp2_with fail
      refine ha.mono ?_
      rintro e w' ⟨rfl, rfl⟩
      go_wp2_with fail
      refine hat.mono ?_
      rintro e w' ⟨rfl, rfl⟩
      go_wp2_with fail
      refine ⟨rfl, _, results_tmp3 rfl _ _ _, rfl, Turn.refl _ _⟩
    | some f =>
      obtain ⟨kn, hkn, hfk, _⟩ := atI_some hg
      rw [hkn] at hat
      have hE : foundE s nm = 0 := by simp [foundE, hA, hg]
      have hR : sizeS s nm = (f.bs.length, f.sy) := by simp [sizeS, hE, fileOf, hg]
      rw [hE, hR]
      have hkl := (List.getElem?_eq_some_iff.1 hfk).1
      have hkl' : (kn : Int) < (s.fs.length : Int) := by omega
      have hk0' : ¬ (kn : Int) < 0 := by omega
      obtain ⟨gb, c, xa, xc, ee, d0, d1, d2, hO, hRb⟩ := h.files.at kn f hfk
      have c2 := h.c2
      rw [ee] at c2
      clear h hg hA hE hR ee hO hRb d0 hfk hkn
      unfold ptr strV at *
      go_enter Try.func59, Try.ntmps59
      go_wp2_with fail
      refine ha.mono ?_
      rintro e w' ⟨rfl, rfl⟩
      go_wp2_with fail
      refine hat.mono ?_
      rintro e w' ⟨rfl, rfl⟩
      go_wp2_with fail
      go_quiet (fail)
      have TD := shut ((Turn.refl no w').drewN nq)
      generalize w'.drewN nq = wd at *
      go_wp2_with fail
      refine ⟨rfl, _, results_tmp3 rfl _ _ _, rfl, TD.out⟩
  · have hE : foundE s nm = asked s nm := by simp [foundE, hA]
    have hR : sizeS s nm = (0, 0) := by simp only [sizeS, hE, if_neg hA]
    rw [hE, hR]
    have ha' : (asked s nm != 0) = true := by simpa using hA
    clear hE hR hA h
    generalize asked s nm = E at *
    unfold ptr strV at *
    go_enter Try.func59, Try.ntmps59
    go_wp2_with fail
    refine ha.mono ?_
    rintro e w' ⟨rfl, rfl⟩
    go_wp2_with fail
    refine ⟨rfl, _, results_tmp3 rfl _ _ _, rfl, Turn.refl _ _⟩

theorem info9 : (Try.prog.info? 9).map (fun i => (i.zero, i.size, i.bytes)) = some (some (.string ⟨#[]⟩), 1, 16) := by kernel_rfl
set_option maxRecDepth 100000 in
set_option maxHeartbeats 4000000 in
theorem rnames35 (hk : Rk w q K s) :
    Calls Try.prog 35 #[ptr q] w fun e w' => ∃ v, e = .returned v ∧ Own w' 9 v ((if s.off then [] else s.fs.map Pf.nm).map strV) ∧ (∀ g, v.ownBlock = some g → w.heap.size ≤ g) ∧ Turn no w w' := by
  obtain ⟨fv, av, h⟩ := hk
  have hgood := h.good
  have c4 := h.c4
  cases hoff : s.off with
  | true =>
    rw [hoff] at c4
    have FIN : Shut (Own w 9 (.slice none 0 0) (([] : List Nm).map strV)) := Own.nil w 9
    simp only [if_true]
    clear h
    unfold ptr at *
    go_enter Try.func35, Try.ntmps35
    go_wp2_with fail
    refine hgood.mono ?_
    rintro e w' ⟨rfl, rfl⟩
    go_wp2_with fail
    go_ret
    exact ⟨_, rfl, FIN.out, (fun g hg => by cases hg), Turn.refl _ _⟩
  | false =>
    rw [hoff] at c4
    simp only [Bool.false_eq_true, if_false]
    obtain ⟨fa, fc, hfv, _, _⟩ := h.files.slice
    subst hfv
    have hcount := h.inv.count
    have HH := shut h
    have hgl := fun W (t : Turn no w W) => (HH.out.turn t (fun _ _ q => q)).c2
    have HC2 := shut hgl
    have c2 := h.c2
    clear h hgl
    unfold ptr at *
    go_enter Try.func35, Try.ntmps35
    go_wp2_with fail
    refine hgood.mono ?_
    rintro e w' ⟨rfl, rfl⟩
    go_wp2_with fail
    go_loopw [3, 4] (fun x y wr => ∃ (i : Nat) (oa : Option Addr) (on oc : Nat), i ≤ s.fs.length ∧ x = .slice oa on oc ∧ y = .int .i64 i ∧ Shut (Own wr 9 (.slice oa on oc) (((s.fs.take i).map Pf.nm).map strV)) ∧ Shut (∀ g, (Value.slice oa on oc).ownBlock = some g → w'.heap.size ≤ g) ∧ Shut (Turn no w' wr)) (fun _ y _ => s.fs.length - (intOf y).toNat)
    case atStart => exact ⟨0, none, 0, 0, Nat.zero_le _, rfl, rfl, by rw [List.take_zero]; exact Own.nil w' 9, (fun g hg => by cases hg), Turn.refl _ _⟩
    case round =>
      obtain ⟨i, oa, on, oc, hi, rfl, rfl, HO, HN, HT⟩ := hrel
      have e2 := HC2.out wr HT.out
      by_cases hlt : i < s.fs.length
      · have hlt' : (i : Int) < (s.fs.length : Int) := by omega
        obtain ⟨f, hf⟩ : ∃ f, s.fs[i]? = some f := ⟨s.fs[i], List.getElem?_eq_getElem hlt⟩
        obtain ⟨gb, c, xa, xc, ee, d0, d1, d2, hO, hRb⟩ := (HH.out.turn HT.out (fun _ _ q => q)).files.at i f hf
        have ee' : fa = some ⟨gb, 0, none⟩ := by simp at ee; exact ee.1
        subst ee'
        have htk : s.fs.take (i + 1) = s.fs.take i ++ [f] := by rw [List.take_add_one, hf]; rfl
        have TA : Turn no wr (wr.alloc (.cells #[strV f.nm] 9)) := (Turn.refl no wr).alloc _
        have hsrc : Src Try.prog 1 71 (.slice (some ⟨wr.heap.size, 0, none⟩) 1 1) 1 [strV f.nm] (wr.alloc (.cells #[strV f.nm] 9)) :=
          Src.ofSlice _ Try.underlying71 _ _ _ _ rfl (fun j x hx => by
            have := (Row.new wr #[strV f.nm] 9).cell j x (by simpa using hx)
            simpa [Addr.add_lit] using this) (fun x hx => by
            simp at hx
            subst hx
            rfl)
        have hil : (((s.fs.take i).map Pf.nm).map strV).length ≤ 65536 := by simp; omega
        obtain ⟨v6, w6, hr6, hO6, hG6, _⟩ := run_append_src (P := Try.prog) (t := 71) (tx := 71) (e := 9) Try.underlying71 info9 rfl 71 (wr.alloc (.cells #[strV f.nm] 9)) (.slice oa on oc) _ (HO.out.turn_no TA) (.slice (some ⟨wr.heap.size, 0, none⟩) 1 1) 1 [strV f.nm] hsrc (by omega) (by simp only [maxLen]; omega)
        have hO7 : Own w6 9 v6 (((s.fs.take (i + 1)).map Pf.nm).map strV) := by rw [htk]; simpa using hO6
        obtain ⟨ya, yn, yc, hyv⟩ : ∃ a n c, v6 = .slice a n c := by
          rcases hO7.shape with ⟨e, _⟩ | ⟨_, _, _, e, _⟩
          · exact ⟨_, _, _, e⟩
          · exact ⟨_, _, _, e⟩
        subst hyv
        have hsz := HT.out.size
        have hsz2 := TA.size
        have HN6 : Shut (∀ g, (Value.slice ya yn yc).ownBlock = some g → w'.heap.size ≤ g) := hG6.fresh HN.out (by omega)
        have HT6 : Shut (Turn no w' w6) := (HT.out.then_no TA).trans hG6.turn (fun k hk q => by have := HN.out k q; omega)
        have H7 := shut hO7
        have hap : ∀ ty, (Builtin.append_ #[71, 71] ty #[.slice oa on oc, .slice (some ⟨wr.heap.size, 0, none⟩) 1 1]).run Try.prog (wr.alloc (.cells #[strV f.nm] 9)) = .ok (.slice ya yn yc) w6 := fun ty => hr6
        clear hr6 hO6 hO7 hG6 hsrc htk hO hRb ee d1 d2 hil hsz hsz2 TA hf
        unfold strV at hap d0
        go_wp2_with (at_builtin; refine wpList_append_run rfl _ _ (t := 71) (tx := 71) rfl _ _ rfl rfl (hap _) ?_)
        go_roundw
        case rel => exact ⟨i + 1, _, _, _, by omega, rfl, by go_num, H7, HN6, HT6⟩
        case measure => simp [intOf]; omega
      · have hlt' : ¬ (i : Int) < (s.fs.length : Int) := by omega
        have hil : s.fs.take i = s.fs := List.take_of_length_le (by omega)
        rw [hil] at HO
        go_wp2_with fail
        go_ret
        exact ⟨_, rfl, by have h9 := HO.out; rw [List.map_map] at h9; exact h9, HN.out, HT.out⟩
end
end Go.Proofs.Ytcdogciacchigab
