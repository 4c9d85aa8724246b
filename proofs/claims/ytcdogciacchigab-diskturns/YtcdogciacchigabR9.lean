/- Of the document's disk: Sync. -/
import Derived.Test.YtcdogciacchigabR5
import Derived.Test.YtcdogciacchigabM10
namespace Go.Proofs.Ytcdogciacchigab
open Go.RowKit Go.Maps
set_option linter.unusedVariables false

section
variable {w : World} {q : Nat} {K : Nat → Prop} {fv av : Value} {s : St}
theorem tlC_set (l : List Pf) (vs : List Value) (h : vs.length = l.length) (k : Nat) (f : Pf) (m : Nat) (hf : l[k]? = some f) : tlC (l.set k { f with sy := m }) vs = (tlC l vs).set (k * 3 + 2) (.int .i64 m) := by
  induction l generalizing vs k with
  | nil => simp at hf
  | cons g r ih =>
    cases vs with
    | nil => simp at h
    | cons x us =>
      have e : ∀ (g : Pf) (r : List Pf), tlC (g :: r) (x :: us) = strV g.nm :: x :: .int .i64 g.sy :: tlC r us := fun g r => by simp [tlC]
      cases k with
      | zero =>
        simp at hf
        subst hf
        rw [List.set_cons_zero, e, e]
        rfl
      | succ k =>
        have := ih us (by simpa using h) k (by simpa using hf)
        rw [List.set_cons_succ, e, e, this]
        have e1 : (k + 1) * 3 + 2 = (k * 3 + 2) + 1 + 1 + 1 := by omega
        rw [e1]
        rfl
theorem OwnN.setAt {w : World} {t : TypeId} {size g n cap : Nat} {xs : List Value} (h : OwnN w t size (.slice (some ⟨g, 0, none⟩) n cap) n xs) (k : Nat) (u : Value) : OwnN (w.setCell ⟨g, k, none⟩ u) t size (.slice (some ⟨g, 0, none⟩) n cap) n (xs.set k u) := by
  rcases h.2 with ⟨e, _⟩ | ⟨g', cap', cur, e, hb, hg, h1, h2, h3, h4⟩
  · cases e
  · cases e
    refine ⟨by rw [List.length_set]; exact h.1, Or.inr ⟨g, cap, cur.setIfInBounds k u, rfl, hb, heap_setCell_same w g k cur t u hg, h1, h2, by simpa using h3, ?_⟩⟩
    rw [Array.toList_setIfInBounds, List.take_set, h4]
/-- A file's mark of what is synced is set in place. -/
theorem Rp.setSync {w : World} {q : Nat} {K : Nat → Prop} {av : Value} {s : St} {g fc : Nat} (h : Rp w q K (.slice (some ⟨g, 0, none⟩) s.fs.length fc) av s) (k : Nat) (f : Pf) (m : Nat) (hf : s.fs[k]? = some f) (hinv : Inv { s with fs := s.fs.set k { f with sy := m } }) :
    Rp (w.setCell ⟨g, k * 3 + 2, none⟩ (.int .i64 m)) q K (.slice (some ⟨g, 0, none⟩) s.fs.length fc) av { s with fs := s.fs.set k { f with sy := m } } := by
  have T1 := setTurn w g (k * 3 + 2) (.int .i64 m)
  obtain ⟨vs, h1, h2, h3, h4⟩ := h.files
  obtain ⟨cg, hcg⟩ := h2.obj (g := g) rfl
  have ne : ∀ {b : Nat} {c : Array Value} {t : TypeId} {fr : Nat × Nat}, w.heap[b]? = some (.cells c t fr) → t ≠ 102 → b ≠ g := fun hb ht e => by
    subst e
    exact ht (tag_ne hb hcg)
  refine ⟨hinv, h.am, h.row.turn T1 (ne h.row (by decide)), h.kp, fun b hb => Nat.lt_of_lt_of_le (h.klt b hb) T1.size, ⟨vs, by rw [List.length_set]; exact h1, ?_, h3, fun j f' u hf' hu => ?_⟩, h.arms.1.turn T1 (fun b hb e => ?_), h.arms.2⟩
  · show OwnN _ 102 3 _ (s.fs.set k _).length _
    rw [List.length_set, tlC_set s.fs vs h1 k f m hf]
    exact h2.setAt _ _
  · by_cases hj : k = j
    · subst hj
      rw [List.getElem?_set_self (List.getElem?_eq_some_iff.1 hf).1] at hf'
      cases hf'
      obtain ⟨a, b⟩ := h4 k f u hf hu
      exact ⟨a.turn T1 (fun g' hg' e => by obtain ⟨c, ec⟩ := a.obj hg'; exact ne ec (by decide) e), b⟩
    · rw [List.getElem?_set_ne hj] at hf'
      obtain ⟨a, b⟩ := h4 j f' u hf' hu
      exact ⟨a.turn T1 (fun g' hg' e => by obtain ⟨c, ec⟩ := a.obj hg'; exact ne ec (by decide) e), b⟩
  · obtain ⟨c, ec⟩ := h.arms.1.obj hb
    exact ne ec (by decide) e
theorem sync_inv {s : St} (h : Inv s) (nm : Nm) (f : Pf) (hg : getF nm s.fs = some f) (ha : isNm nm = true) : Inv { s with fs := putF ⟨nm, f.bs, f.bs.length⟩ s.fs } := by
  have hL : lenF nm s.fs = f.bs.length := by simp [lenF, hg]
  refine h.put _ ha ?_ ?_ (Or.inl (by simp [hg]))
  · simp
  · have := h.used
    simp only [hL]
    omega
set_option maxRecDepth 100000 in
set_option maxHeartbeats 16000000 in
theorem rsync80 (hk : Rk w q K s) (hn : s.n < 4611686018427387904) (hm : s.m < 3518437208780) (nm : Nm) (hnm : nm.length ≤ maxLen) :
    Calls Try.prog 80 #[ptr q, strV nm] w (Rns w q K (syncS s nm)) := by
  have ha := asked49 hk nm hnm
  have hk0 := hk
  obtain ⟨fv, av, h⟩ := hk
  by_cases hA : asked s nm = 0
  · obtain ⟨a1, a2⟩ := asked_off hA
    rw [hA] at ha
    have hat := at50 h nm
    have hul := h.inv.used
    have hll := h.inv.lim
    have hcount := h.inv.count
    obtain ⟨fa, fc, hfv, hfc1, hfc2⟩ := h.files.slice
    subst hfv
    have c2 := h.c2
    cases hg : getF nm s.fs with
    | none =>
      have hk1 : atI nm s.fs = -1 := atI_none.2 hg
      rw [hk1] at hat
      have hE : foundE s nm = 61 := by simp [foundE, hA, hg]
      have e : syncS s nm = (s, 61) := by simp [syncS, hE]
      rw [e]
      have FIN := shut (Rns.same (r := (s, 61)) hk0 (Turn.refl no w))
      clear e hE hg hk1 h hk0
      unfold ptr strV at *
      go_enter Try.func80, Try.ntmps80
      go_wp2_with fail
      refine ha.mono ?_
      rintro e w' ⟨rfl, rfl⟩
      go_wp2_with fail
      refine hat.mono ?_
      rintro e w' ⟨rfl, rfl⟩
      go_wp2_with fail
      go_ret
      exact FIN.out
    | some f =>
      obtain ⟨kn, hkn, hfk, _⟩ := atI_some hg
      rw [hkn] at hat
      have hfn := (getF_mem hg).2
      have hkl := (List.getElem?_eq_some_iff.1 hfk).1
      have hkl' : (kn : Int) < (s.fs.length : Int) := by omega
      have hk0' : ¬ (kn : Int) < 0 := by omega
      have hk0c : (0 : Int) ≤ (kn : Int) := by omega
      have hE : foundE s nm = 0 := by simp [foundE, hA, hg]
      have hfo : fileOf s.fs nm = f := by simp [fileOf, hg]
      have hfbl : f.bs.length ≤ 1073741824 := by
        have h1 := lenF_le nm s.fs
        have h2 : lenF nm s.fs = f.bs.length := by simp [lenF, hg]
        omega
      obtain ⟨gb, cw, xa, xc, ew, _, _, _, _, _⟩ := h.files.at kn f hfk
      have ew' : fa = some ⟨gb, 0, none⟩ := by simp at ew; exact ew.1
      clear ew
      subst ew'
      have hKg : K gb := by
        obtain ⟨_, _, _, h3, _⟩ := h.files
        exact h3 gb rfl
      have hset : s.fs.set kn { f with sy := f.bs.length } = putF ⟨nm, f.bs, f.bs.length⟩ s.fs := by
        have := set_put h.inv.sorted hfk (f' := ⟨nm, f.bs, f.bs.length⟩) hfn.symm
        rw [← this, ← hfn]
      have e : syncS s nm = numb s (putF ⟨nm, f.bs, f.bs.length⟩ s.fs) := by simp only [syncS, hE, hfo]; simp
      have hinv := sync_inv h.inv nm f hg a2
      have hinv2 := numb_inv2 h.inv hinv
      rw [e]
      have HH := shut h
      have HI2 := shut hinv2
      have HFK := shut hfk
      have HSET := shut hset
      have HKG := shut hKg
      have hdo := numb_do s (putF ⟨nm, f.bs, f.bs.length⟩ s.fs)
      have HDO := shut hdo
      have hbe := befall52 h hn hm
      have HFS := shut (numb_fs s)
      clear e hinv hg hkn hdo hinv2 h hk0 hA a1 a2 hul hll hfk hE hfo hset hKg hfn
      unfold ptr strV at *
      go_enter Try.func80, Try.ntmps80
      go_wp2_with fail
      refine ha.mono ?_
      rintro e w' ⟨rfl, rfl⟩
      go_wp2_with fail
      refine hat.mono ?_
      rintro e w' ⟨rfl, rfl⟩
      go_wp2_with fail
      refine hbe.mono ?_
      rintro e w2 ⟨rfl, K2, av2, h2, hF2, T2⟩
      have HH2 := shut h2
      have HT02 := shut T2
      have HF02 := shut hF2
      clear hbe h2 hF2 T2 ha hat c2
      cases hdb : doB s with
      | false =>
        have e : numb s (putF ⟨nm, f.bs, f.bs.length⟩ s.fs) = ((numb s s.fs).1, (numb s s.fs).2) := by rw [HDO.out, hdb]; rfl
        have HE := shut e
        have FN := Rns.undone HH.out.kp HH2.out HT02.out HF02.out (Turn.refl no w2) ((numb s s.fs).1, (numb s s.fs).2) rfl
        have HFN := shut FN
        clear FN e
        go_wp2_with fail
        go_ret
        rw [HE.out]
        exact HFN.out
      | true =>
        have e : numb s (putF ⟨nm, f.bs, f.bs.length⟩ s.fs) = ({ (numb s s.fs).1 with fs := putF ⟨nm, f.bs, f.bs.length⟩ s.fs }, (numb s s.fs).2) := by rw [HDO.out, hdb]; rfl
        have HE := shut e
        clear e
        have hR2 : Rp w2 q K2 (.slice (some ⟨gb, 0, none⟩) (numb s s.fs).1.fs.length fc) av2 (numb s s.fs).1 := by rw [HFS.out]; exact HH2.out
        have hfl2 : Fl K2 w2 (.slice (some ⟨gb, 0, none⟩) s.fs.length fc) s.fs := by have := HH2.out.files; rw [HFS.out] at this; exact this
        obtain ⟨gb', c, xa, xc, ee, d0, d1, d2, hO, hRb⟩ := hfl2.at kn f HFK.out
        have ee' : gb' = gb := by simp at ee; exact ee.1.symm
        subst ee'
        have e2 := HH2.out.c2
        obtain ⟨cg, hcg⟩ : ∃ cur, w2.heap[gb']? = some (.cells cur 102 (0, 0)) := by
          obtain ⟨vs, _, h2', _, _⟩ := hfl2
          exact h2'.obj rfl
        have hqg : q ≠ gb' := fun e => by
          subst e
          exact absurd (tag_ne HH2.out.row hcg) (by decide)
        have ff2 : w2.drew.frozen? ⟨gb', kn * 3 + 2, none⟩ = false := frozen_of_row w2.drew gb' _ _ 102 hcg
        have dd2 : w2.drew.cell? ⟨gb', kn * 3 + 2, none⟩ = some (.int .i64 f.sy) := d2
        have cq : ∀ W, Turn (fun k => k = gb') w2 W → W.cell? ⟨q, 2, none⟩ = some (.slice (some ⟨gb', 0, none⟩) s.fs.length fc) := fun W t => t.keep e2 (fun e => hqg e)
        have CQ := shut cq
        have hinv3 : Inv { (numb s s.fs).1 with fs := (numb s s.fs).1.fs.set kn { f with sy := f.bs.length } } := by rw [HFS.out, HSET.out]; exact HI2.out
        have hR3 := (hR2.turn ((Turn.refl no w2).drew) (fun _ _ q => q)).setSync kn f f.bs.length (by rw [HFS.out]; exact HFK.out) hinv3
        have hst3 : ({ (numb s s.fs).1 with fs := (numb s s.fs).1.fs.set kn { f with sy := f.bs.length } } : St) = { (numb s s.fs).1 with fs := putF ⟨nm, f.bs, f.bs.length⟩ s.fs } := by rw [HFS.out, HSET.out]
        rw [hst3] at hR3
        have S5 : Turn (fun k => k = gb') w2 (w2.drew.setCell ⟨gb', kn * 3 + 2, none⟩ (.int .i64 f.bs.length)) := ((Turn.refl _ w2).drew).trans (setTurn _ gb' _ _) (fun _ _ q => q)
        have S5c : (w2.drew.setCell ⟨gb', kn * 3 + 2, none⟩ (.int .i64 f.bs.length)).cell? ⟨gb', kn * 3 + 1, none⟩ = some (.slice xa f.bs.length xc) := by
          have r0 : Row w2.drew gb' cg 102 := hcg
          have c1' : cg[kn * 3 + 1]? = some (.slice xa f.bs.length xc) := by
            have := cell_of_row w2 gb' (kn * 3 + 1) cg 102 (0, 0) hcg
            rw [← this]; exact d1
          refine (r0.set (kn * 3 + 2) _).cell (kn * 3 + 1) _ ?_
          rw [Array.getElem?_setIfInBounds_ne (by omega)]
          exact c1'
        have FNL : Rns w' q K ({ (numb s s.fs).1 with fs := putF ⟨nm, f.bs, f.bs.length⟩ s.fs }, (numb s s.fs).2) (.returned (.int .i64 (numb s s.fs).2)) (w2.drew.setCell ⟨gb', kn * 3 + 2, none⟩ (.int .i64 f.bs.length)) :=
          ⟨rfl, K2, ⟨_, _, hR3⟩, HF02.out, ((HT02.out.mono (fun k _ e => by rw [e]; exact HH.out.kp)).trans S5 (fun k _ e => by rw [e]; exact HKG.out))⟩
        have HFNL := shut FNL
        have HS5 : Shut (Turn (fun k => k = gb') w2 (w2.drew.setCell ⟨gb', kn * 3 + 2, none⟩ (.int .i64 f.bs.length)) ∧ (w2.drew.setCell ⟨gb', kn * 3 + 2, none⟩ (.int .i64 f.bs.length)).cell? ⟨gb', kn * 3 + 1, none⟩ = some (.slice xa f.bs.length xc)) := ⟨S5, S5c⟩
        have HD1 := shut d1
        clear FNL S5 S5c hR3 hst3 hinv3 cq hfl2 hR2 hO hRb ee d0 d2 d1 hcg e2
        go_wp2_with fail
        refine wp_region_noPanic ?_
        refine wp_region_held_drew (S := fun W => Turn (fun k => k = gb') w2 W ∧ W.cell? ⟨gb', kn * 3 + 1, none⟩ = some (.slice xa f.bs.length xc)) (by kernel_rfl) ⟨(Turn.refl _ w2).drew, HD1.out⟩ (fun hHeld => ?_)
        refine' wpAnyH_take (i := 0) (v := .pointer (some ⟨q, 0, none⟩)) rfl (by kernel_rfl) (by kernel_rfl) (by kernel_rfl) (fun _ _ _ h => h) (Or.inl ⟨by kernel_rfl, fun W hW => ?y1⟩) hHeld ?r1
        · go_simp
        refine' wpAnyH_take (i := 1) (v := .pointer (some ⟨q, 0, none⟩)) rfl (by kernel_rfl) (by kernel_rfl) (by kernel_rfl) (fun _ _ _ h => h) (Or.inl ⟨by kernel_rfl, fun W hW => ?y2⟩) hHeld ?r2
        · go_simp
        refine' wpAnyH_take (i := 2) (v := .pointer (some ⟨q, 2, none⟩)) rfl (by kernel_rfl) (by kernel_rfl) (by kernel_rfl) (fun _ _ _ h => h) (Or.inl ⟨by kernel_rfl, fun W hW => ?y3⟩) hHeld ?r3
        · go_simp
        refine' wpAnyH_take (i := 3) (v := .slice (some ⟨gb', 0, none⟩) s.fs.length fc) rfl (by kernel_rfl) (by kernel_rfl) (by kernel_rfl) (fun _ _ _ h => h) (Or.inl ⟨by kernel_rfl, fun W hW => ?y4⟩) hHeld ?r4
        · have cc := CQ.out W hW.1
          go_simp
        refine' wpAnyH_take (i := 4) (v := .int .i64 kn) rfl (by kernel_rfl) (by kernel_rfl) (by kernel_rfl) (fun _ _ _ h => h) (Or.inl ⟨by kernel_rfl, fun W hW => ?y5⟩) hHeld ?r5
        · go_simp
        refine' wpAnyH_take (i := 5) (v := .pointer (some ⟨q, 0, none⟩)) rfl (by kernel_rfl) (by kernel_rfl) (by kernel_rfl) (fun _ _ _ h => h) (Or.inl ⟨by kernel_rfl, fun W hW => ?y6⟩) hHeld ?r6
        · go_simp
        refine' wpAnyH_take (i := 6) (v := .pointer (some ⟨q, 0, none⟩)) rfl (by kernel_rfl) (by kernel_rfl) (by kernel_rfl) (fun _ _ _ h => h) (Or.inl ⟨by kernel_rfl, fun W hW => ?y7⟩) hHeld ?r7
        · go_simp
        refine' wpAnyH_take (i := 7) (v := .pointer (some ⟨q, 2, none⟩)) rfl (by kernel_rfl) (by kernel_rfl) (by kernel_rfl) (fun _ _ _ h => h) (Or.inl ⟨by kernel_rfl, fun W hW => ?y8⟩) hHeld ?r8
        · go_simp
        refine' wpAnyH_take (i := 8) (v := .slice (some ⟨gb', 0, none⟩) s.fs.length fc) rfl (by kernel_rfl) (by kernel_rfl) (by kernel_rfl) (fun _ _ _ h => h) (Or.inl ⟨by kernel_rfl, fun W hW => ?y9⟩) hHeld ?r9
        · have cc := CQ.out W hW.1
          go_simp
        refine' wpAnyH_take (i := 9) (v := .int .i64 kn) rfl (by kernel_rfl) (by kernel_rfl) (by kernel_rfl) (fun _ _ _ h => h) (Or.inl ⟨by kernel_rfl, fun W hW => ?y10⟩) hHeld ?r10
        · go_simp
        refine' wpAnyH_take (i := 10) (v := .pointer (some ⟨gb', kn * 3, none⟩)) rfl (by kernel_rfl) (by kernel_rfl) (by kernel_rfl) (fun _ _ _ h => h) (Or.inl ⟨by kernel_rfl, fun W hW => ?y11⟩) hHeld ?r11
        · go_simp
        refine' wpAnyH_take (i := 11) (v := .pointer (some ⟨gb', kn * 3 + 1, none⟩)) rfl (by kernel_rfl) (by kernel_rfl) (by kernel_rfl) (fun _ _ _ h => h) (Or.inl ⟨by kernel_rfl, fun W hW => ?y12⟩) hHeld ?r12
        · go_simp
        refine' wpAnyH_take (i := 12) (v := .slice xa f.bs.length xc) rfl (by kernel_rfl) (by kernel_rfl) (by kernel_rfl) (fun _ _ _ h => h) (Or.inl ⟨by kernel_rfl, fun W hW => ?y13⟩) hHeld ?r13
        · have cc := hW.2
          go_simp
        refine' wpAnyH_take (i := 13) (v := .int .i64 f.bs.length) rfl (by kernel_rfl) (by kernel_rfl) (by kernel_rfl) (fun _ _ _ h => h) (Or.inl ⟨by kernel_rfl, fun W hW => ?y14⟩) hHeld ?r14
        · go_simp
        refine' wpAnyH_take (i := 14) (v := .pointer (some ⟨gb', kn * 3, none⟩)) rfl (by kernel_rfl) (by kernel_rfl) (by kernel_rfl) (fun _ _ _ h => h) (Or.inl ⟨by kernel_rfl, fun W hW => ?y15⟩) hHeld ?r15
        · go_simp
        refine' wpAnyH_take (i := 15) (v := .pointer (some ⟨gb', kn * 3 + 2, none⟩)) rfl (by kernel_rfl) (by kernel_rfl) (by kernel_rfl) (fun _ _ _ h => h) (Or.inl ⟨by kernel_rfl, fun W hW => ?y16⟩) hHeld ?r16
        · go_simp
        refine wpAnyH_ready (rs := [16]) (by kernel_rfl) (by simp) ?_
        refine AllReadyH.cons rfl (fun K hK => ?_) AllReadyH.nil
        go_simp
        refine hK.out _ _ HS5.out (fun hHeld => ?_)
        clear hK
        refine wpAnyH_done (by kernel_rfl) ?_ _
        refine NoPanic.normal ?_
        have FN2 := HFNL
        go_wp2_with fail
        go_ret
        rw [HE.out]
        exact HFNL.out
  · have hE : foundE s nm = asked s nm := by simp [foundE, hA]
    have e : syncS s nm = (s, asked s nm) := by simp [syncS, hE, hA]
    rw [e]
    have ha' : (asked s nm != 0) = true := by simpa using hA
    have fin : Rns w q K (s, asked s nm) (.returned (.int .i64 (asked s nm))) w := Rns.same (r := (s, asked s nm)) hk0 (Turn.refl no w)
    have FIN := shut fin
    generalize asked s nm = E at *
    clear hk0 h e hA fin hE
    unfold ptr strV at *
    go_enter Try.func80, Try.ntmps80
    go_wp2_with fail
    refine ha.mono ?_
    rintro e w' ⟨rfl, rfl⟩
    go_wp2_with fail
    go_ret
    exact FIN.out
end
end Go.Proofs.Ytcdogciacchigab
