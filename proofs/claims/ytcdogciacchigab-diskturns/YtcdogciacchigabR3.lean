/- Of the document's disk: put. -/
import Derived.Test.YtcdogciacchigabR2
namespace Go.Proofs.Ytcdogciacchigab
open Go.RowKit Go.Maps
set_option linter.unusedVariables false

theorem Rp.mono {w : World} {q : Nat} {K K' : Nat → Prop} {fv av : Value} {s : St} (h : Rp w q K fv av s) (hK : ∀ k, K k → K' k) (hl : ∀ k, K' k → k < w.heap.size) : Rp w q K' fv av s :=
  ⟨h.inv, h.am, h.row, hK _ h.kp, hl, h.files.mono hK, h.arms.mono hK⟩
/-- The list of the files is exchanged. -/
theorem Rp.setFiles {w wr : World} {q : Nat} {K : Nat → Prop} {fv av : Value} {s : St} (h : Rp w q K fv av s) {v : Value} {l : List Pf} (hk : Wk w.heap.size K w wr v l) (hinv : Inv { s with fs := l }) :
    Rp (wr.setCell ⟨q, 2, none⟩ v) q (grownK w wr K) v av { s with fs := l } ∧ Turn (fun k => k = q) w (wr.setCell ⟨q, 2, none⟩ v) := by
  have hr := h.row.turn hk.turn (fun q => q)
  have T1 : Turn (fun k => k = q) wr (wr.setCell ⟨q, 2, none⟩ v) := Turn.setCell (S := fun k => k = q) (Turn.refl _ _) (p := ⟨q, 2, none⟩) (fun _ => rfl) _
  have hqf : ∀ g, v.ownBlock = some g → g ≠ q := fun g hg e => by
    have := hk.new g hg
    have := h.klt q h.kp
    omega
  have hq5 : ∀ {u xs}, Own wr 5 u xs → ∀ g, u.ownBlock = some g → g ≠ q := fun hu g hg e => by
    subst e
    obtain ⟨c, ec⟩ := hu.obj hg
    exact absurd (tag_ne hr ec) (by decide)
  have ha := h.arms.turn_no hk.turn
  refine ⟨⟨hinv, h.am, hr.set 2 v, Or.inl h.kp, fun k hk' => ?_, ?_, ?_⟩, (hk.turn.of_no).trans T1 (fun _ _ q => q)⟩
  · have h1 := T1.size
    have h2 := hk.turn.size
    rcases hk' with q | q
    · have := h.klt k q; omega
    · omega
  · obtain ⟨vs, h1, h2, h3, h4⟩ := hk.fl
    refine ⟨vs, h1, h2.turn T1 (fun g hg e => hqf g hg e), h3, fun j f u hf hu => ?_⟩
    obtain ⟨a, b⟩ := h4 j f u hf hu
    exact ⟨a.turn T1 (fun g hg e => hq5 a g hg e), b⟩
  · refine ⟨ha.1.turn T1 (fun g hg e => ?_), fun g hg => Or.inl (ha.2 g hg)⟩
    subst e
    obtain ⟨c, ec⟩ := ha.1.obj hg
    exact absurd (tag_ne hr ec) (by decide)

section
variable {w : World} {q : Nat} {K : Nat → Prop} {fv av : Value} {s : St}
set_option maxRecDepth 100000 in
set_option maxHeartbeats 8000000 in
theorem put53 (h0 : Rp w q K fv av s) (f : Pf) (ua : Option Addr) (uc : Nat) (hu0 : Own w 5 (.slice ua f.bs.length uc) (f.bs.map bv)) (hub : ∀ g, (Value.slice ua f.bs.length uc).ownBlock = some g → K g) (hinv : Inv { s with fs := putF f s.fs }) :
    Calls Try.prog 53 #[ptr q, .agg #[strV f.nm, .slice ua f.bs.length uc, .int .i64 f.sy]] w fun e w' => e = .returned (.tuple #[]) ∧ ∃ K' fv', Rp w' q K' fv' av { s with fs := putF f s.fs } ∧ From w K K' ∧ Turn (fun k => k = q) w w' := by
  have T0 : Turn no w (w.alloc (.cells #[strV f.nm, .slice ua f.bs.length uc, .int .i64 f.sy] 102)) := (Turn.refl no w).alloc _
  have RB : Row (w.alloc (.cells #[strV f.nm, .slice ua f.bs.length uc, .int .i64 f.sy] 102)) w.heap.size #[strV f.nm, .slice ua f.bs.length uc, .int .i64 f.sy] 102 := Row.new w _ 102
  have h := h0.turn T0 (fun _ _ q => q)
  have hu := hu0.turn_no T0
  have hs0 := T0.size
  obtain ⟨fa, fc, rfl, _, _⟩ := h.files.slice
  have hcount := h.inv.count
  have hsort := h.inv.sorted
  obtain ⟨b0, hb0⟩ : ∃ b0, b0 = w.heap.size := ⟨_, rfl⟩
  rw [← hb0] at RB
  have hfin : ∀ wr v, Wk (w.alloc (.cells #[strV f.nm, .slice ua f.bs.length uc, .int .i64 f.sy] 102)).heap.size K (w.alloc (.cells #[strV f.nm, .slice ua f.bs.length uc, .int .i64 f.sy] 102)) wr v (putF f s.fs) → ∃ K' fv', Rp (wr.setCell ⟨q, 2, none⟩ v) q K' fv' av { s with fs := putF f s.fs } ∧ From w K K' ∧ Turn (fun k => k = q) w (wr.setCell ⟨q, 2, none⟩ v) := fun wr v hk => by
    obtain ⟨a, b⟩ := h.setFiles hk hinv
    exact ⟨_, _, a, fun k hk' => hk'.imp id (fun q => Nat.le_trans hs0 q.1), (T0.of_no).trans b (fun _ _ q => q)⟩
  have HFIN := shut hfin
  have hc2 : ∀ W, Turn no (w.alloc (.cells #[strV f.nm, .slice ua f.bs.length uc, .int .i64 f.sy] 102)) W → W.cell? ⟨q, 2, none⟩ = some (.slice fa s.fs.length fc) ∧ W.frozen? ⟨q, 2, none⟩ = false ∧ W.cell? ⟨b0, 0, none⟩ = some (strV f.nm) ∧ W.cell? ⟨b0, 1, none⟩ = some (.slice ua f.bs.length uc) ∧ W.cell? ⟨b0, 2, none⟩ = some (.int .i64 f.sy) := fun W t =>
    ⟨(h.row.turn t (fun q => q)).cell 2 _ rfl, (h.row.turn t (fun q => q)).frozen 2, (RB.turn t (fun q => q)).cell 0 _ rfl, (RB.turn t (fun q => q)).cell 1 _ rfl, (RB.turn t (fun q => q)).cell 2 _ rfl⟩
  have HC := shut hc2
  have HF := shut h.files
  have HU := shut hu
  have HUB := shut hub
  have HSO := shut hsort
  obtain ⟨B, hB⟩ : ∃ B, B = (w.alloc (.cells #[strV f.nm, .slice ua f.bs.length uc, .int .i64 f.sy] 102)).heap.size := ⟨_, rfl⟩
  have hst := Wk.start K (w.alloc (.cells #[strV f.nm, .slice ua f.bs.length uc, .int .i64 f.sy] 102))
  rw [← hB] at hst HFIN
  have HST := shut hst
  have HB0 := shut hb0
  clear h0 h hu hfin hc2 hsort hinv RB T0 hu0 hub hst hB hs0
  obtain ⟨w1, hw1⟩ : ∃ w1, w1 = w.alloc (.cells #[strV f.nm, .slice ua f.bs.length uc, .int .i64 f.sy] 102) := ⟨_, rfl⟩
  rw [← hw1] at HFIN HC HF HU HST
  have HW1 := shut hw1
  unfold ptr strV at *
  go_enter Try.func53, Try.ntmps53
  go_wp2_with fail
  rw [← hb0]
  rw [← hw1]
  clear hw1 hb0
  obtain ⟨e2, e2f, e3, e4, e5⟩ := HC.out w1 (Turn.refl _ _)
  go_loopw [4, 5, 6] (fun x z y wr => ∃ (i : Nat) (oa : Option Addr) (on oc : Nat), i ≤ s.fs.length ∧ x = .slice oa on oc ∧ z = .bool (putP f (s.fs.take i)).2 ∧ y = .int .i64 i ∧ Shut (Wk B K w1 wr (.slice oa on oc) (putP f (s.fs.take i)).1)) (fun _ _ y _ => s.fs.length - (intOf y).toNat)
  case atStart => exact ⟨0, none, 0, 0, Nat.zero_le _, rfl, rfl, rfl, HST⟩
  case round =>
    clear e2 e2f e3 e4 e5
    obtain ⟨i, oa, on, oc, hi, rfl, rfl, rfl, HW⟩ := hrel
    obtain ⟨e2, e2f, e3, e4, e5⟩ := HC.out wr HW.out.turn
    by_cases hlt : i < s.fs.length
    · have hlt' : (i : Int) < (s.fs.length : Int) := by omega
      obtain ⟨g, hg⟩ : ∃ g, s.fs[i]? = some g := ⟨s.fs[i], List.getElem?_eq_getElem hlt⟩
      have hpt := putP_take (f := f) hg
      have hpl := putP_len f (s.fs.take i)
      have htl : (s.fs.take i).length ≤ 65536 := by rw [List.length_take]; omega
      have HPL : Shut ((putP f (s.fs.take i)).1.length ≤ 131072) := by show _ ≤ 131072; omega
      obtain ⟨gb, c, xa, xc, ee, d0, d1, d2, hO, hR⟩ := HF.out.at i g hg
      have ee' : fa = some ⟨gb, 0, none⟩ := by simp at ee; exact ee.1
      subst ee'
      have hat : ∀ W, Turn no w1 W → W.cell? ⟨gb, i * 3, none⟩ = some (strV g.nm) ∧ W.cell? ⟨gb, i * 3 + 1, none⟩ = some (.slice xa g.bs.length xc) ∧ W.cell? ⟨gb, i * 3 + 2, none⟩ = some (.int .i64 g.sy) ∧ Own W 5 (.slice xa g.bs.length xc) (g.bs.map bv) := fun W t => ⟨t.keep d0 (fun q => q), t.keep d1 (fun q => q), t.keep d2 (fun q => q), hO.turn_no t⟩
      have HAT := shut hat
      have HR := shut hR
      have HPT := shut hpt
      have HG := shut hg
      clear hat hR hpt hg hO ee hpl htl d0 d1 d2
      generalize hst : putP f (s.fs.take i) = st at *
      obtain ⟨ol, dn⟩ := st
      simp only at *
      have h1f : ∀ W v l, Wk B K w1 W v l → l.length ≤ 131073 → ∃ v' w6, (∀ ty, (Builtin.append_ #[90, 90] ty #[v, .slice (some ⟨W.heap.size, 0, none⟩) 1 1]).run Try.prog (W.alloc (.cells #[strV f.nm, .slice ua f.bs.length uc, .int .i64 f.sy] 102)) = .ok v' w6) ∧ Wk B K w1 w6 v' (l ++ [f]) := fun W v l hk hl => hk.step (Turn.refl no W) (by omega) f _ (HU.out.turn_no hk.turn) (fun g hg => Or.inl (HUB.out g hg)) rfl
      have h1g : ∀ W v l, Wk B K w1 W v l → l.length ≤ 131073 → ∃ v' w6, (∀ ty, (Builtin.append_ #[90, 90] ty #[v, .slice (some ⟨W.heap.size, 0, none⟩) 1 1]).run Try.prog (W.alloc (.cells #[strV g.nm, .slice xa g.bs.length xc, .int .i64 g.sy] 102)) = .ok v' w6) ∧ Wk B K w1 w6 v' (l ++ [g]) := fun W v l hk hl => hk.step (Turn.refl no W) (by omega) g _ (HAT.out W hk.turn).2.2.2 (fun g hg => Or.inl (HR.out g hg)) rfl
      have H1F := shut h1f
      have H1G := shut h1g
      clear h1f h1g
      unfold strV at *
      obtain ⟨d0, d1, d2, _⟩ := HAT.out wr HW.out.turn
      cases dn with
      | true =>
        by_cases hnm : g.nm = f.nm
        · have HS : Shut (stepP f (ol, true) g = (ol, true)) := by show stepP f (ol, true) g = _; simp [stepP, hnm]
          have HNM := shut hnm
          have hb2 : (g.nm == f.nm) = true := by simp [hnm]
          have hb3 : g.nm = f.nm := hnm
          clear hnm
          go_wp2_with fail
          go_quiet (fail)
          have HW2 := shut (HW.out.then_no ((Turn.refl no wr).drewN nq))
          generalize wr.drewN nq = wd at *
          obtain ⟨k2, k2f, k3, k4, k5⟩ := HC.out wd HW2.out.turn
          obtain ⟨g0, g1, g2, _⟩ := HAT.out wd HW2.out.turn
          go_wp2_with fail
          go_quiet (fail)
          have HW7 := shut (HW2.out.then_no ((Turn.refl no wd).drewN nq))
          generalize wd.drewN nq = w7 at *
          obtain ⟨p2, p2f, p3, p4, p5⟩ := HC.out w7 HW7.out.turn
          obtain ⟨q0, q1, q2, _⟩ := HAT.out w7 HW7.out.turn
          go_wp2_with fail
          go_roundw
          case rel => exact ⟨i + 1, _, _, _, by omega, rfl, by rw [HPT.out, HS.out], by go_num, by show Wk _ _ _ _ _ _; rw [HPT.out, HS.out]; exact HW7.out⟩
          case measure => simp [intOf]; omega
        · have HS : Shut (stepP f (ol, true) g = (ol ++ [g], true)) := by show stepP f (ol, true) g = _; simp [stepP, hnm]
          have HNM := shut hnm
          have hb2 : (g.nm == f.nm) = false := by simp [hnm]
          have hb3 : ¬ g.nm = f.nm := hnm
          clear hnm
          go_wp2_with fail
          go_quiet (fail)
          have HW2 := shut (HW.out.then_no ((Turn.refl no wr).drewN nq))
          generalize wr.drewN nq = wd at *
          obtain ⟨k2, k2f, k3, k4, k5⟩ := HC.out wd HW2.out.turn
          obtain ⟨g0, g1, g2, _⟩ := HAT.out wd HW2.out.turn
          go_wp2_with fail
          go_quiet (fail)
          have HW7 := shut (HW2.out.then_no ((Turn.refl no wd).drewN nq))
          generalize wd.drewN nq = w7 at *
          obtain ⟨p2, p2f, p3, p4, p5⟩ := HC.out w7 HW7.out.turn
          obtain ⟨q0, q1, q2, _⟩ := HAT.out w7 HW7.out.turn
          obtain ⟨v8, w8, hap8, hW8⟩ := H1G.out w7 _ _ HW7.out (by have := HPL.out; simp; omega)
          obtain ⟨za, zn, zc, hzv⟩ : ∃ a n c, v8 = .slice a n c := by obtain ⟨a, c, e, _⟩ := hW8.fl.slice; exact ⟨_, _, _, e⟩
          subst hzv
          have HW8 := shut hW8
          clear hW8
          go_wp2_with (at_builtin; refine wpList_append_run rfl _ _ (t := 90) (tx := 90) rfl _ _ rfl rfl (hap8 _) ?_)
          go_roundw
          case rel => exact ⟨i + 1, _, _, _, by omega, rfl, by rw [HPT.out, HS.out], by go_num, by show Wk _ _ _ _ _ _; rw [HPT.out, HS.out]; exact HW8.out⟩
          case measure => simp [intOf]; omega
      | false =>
        by_cases hle : f.nm ≤ g.nm
        · have hbl : Op.bytesLess g.nm f.nm = false := by
            rw [bytesLess_eq]
            simp only [decide_eq_false_iff_not]
            exact List.not_lt.2 hle
          by_cases hnm : g.nm = f.nm
          · have HS : Shut (stepP f (ol, false) g = (ol ++ [f], true)) := by show stepP f (ol, false) g = _; simp [stepP, hnm]
            clear hle
            have HNM := shut hnm
            have hb2 : (g.nm == f.nm) = true := by simp [hnm]
            have hb3 : g.nm = f.nm := hnm
            have hbl2 : Op.bytesLess f.nm f.nm = false := by rw [bytesLess_eq]; simp only [decide_eq_false_iff_not]; exact List.lt_irrefl _
            clear hnm
            go_wp2_with fail
            go_quiet (fail)
            have HW2 := shut (HW.out.then_no ((Turn.refl no wr).drewN nq))
            generalize wr.drewN nq = wd at *
            obtain ⟨k2, k2f, k3, k4, k5⟩ := HC.out wd HW2.out.turn
            obtain ⟨g0, g1, g2, _⟩ := HAT.out wd HW2.out.turn
            obtain ⟨v6, w6, hap, hW6⟩ := H1F.out wd _ _ HW2.out (by have := HPL.out; omega)
            obtain ⟨ya, yn, yc, hyv⟩ : ∃ a n c, v6 = .slice a n c := by obtain ⟨a, c, e, _⟩ := hW6.fl.slice; exact ⟨_, _, _, e⟩
            subst hyv
            have HW6 := shut hW6
            clear hW6
            obtain ⟨m2, m2f, m3, m4, m5⟩ := HC.out w6 HW6.out.turn
            obtain ⟨n0, n1, n2, _⟩ := HAT.out w6 HW6.out.turn
            go_wp2_with (at_builtin; refine wpList_append_run rfl _ _ (t := 90) (tx := 90) rfl _ _ rfl rfl (hap _) ?_)
            clear hap k2 k2f k3 k4 k5 g0 g1 g2
            go_quiet (fail)
            have HW7 := shut (HW6.out.then_no ((Turn.refl no w6).drewN nq))
            generalize w6.drewN nq = w7 at *
            obtain ⟨p2, p2f, p3, p4, p5⟩ := HC.out w7 HW7.out.turn
            obtain ⟨q0, q1, q2, _⟩ := HAT.out w7 HW7.out.turn
            go_wp2_with fail
            go_roundw
            case rel => exact ⟨i + 1, _, _, _, by omega, rfl, by rw [HPT.out, HS.out], by go_num, by show Wk _ _ _ _ _ _; rw [HPT.out, HS.out]; exact HW7.out⟩
            case measure => simp [intOf]; omega
          · have HS : Shut (stepP f (ol, false) g = (ol ++ [f] ++ [g], true)) := by show stepP f (ol, false) g = _; simp [stepP, hle, hnm]
            clear hle
            have HNM := shut hnm
            have hb2 : (g.nm == f.nm) = false := by simp [hnm]
            have hb3 : ¬ g.nm = f.nm := hnm
            clear hnm
            go_wp2_with fail
            go_quiet (fail)
            have HW2 := shut (HW.out.then_no ((Turn.refl no wr).drewN nq))
            generalize wr.drewN nq = wd at *
            obtain ⟨k2, k2f, k3, k4, k5⟩ := HC.out wd HW2.out.turn
            obtain ⟨g0, g1, g2, _⟩ := HAT.out wd HW2.out.turn
            obtain ⟨v6, w6, hap, hW6⟩ := H1F.out wd _ _ HW2.out (by have := HPL.out; omega)
            obtain ⟨ya, yn, yc, hyv⟩ : ∃ a n c, v6 = .slice a n c := by obtain ⟨a, c, e, _⟩ := hW6.fl.slice; exact ⟨_, _, _, e⟩
            subst hyv
            have HW6 := shut hW6
            clear hW6
            obtain ⟨m2, m2f, m3, m4, m5⟩ := HC.out w6 HW6.out.turn
            obtain ⟨n0, n1, n2, _⟩ := HAT.out w6 HW6.out.turn
            go_wp2_with (at_builtin; refine wpList_append_run rfl _ _ (t := 90) (tx := 90) rfl _ _ rfl rfl (hap _) ?_)
            clear hap k2 k2f k3 k4 k5 g0 g1 g2
            go_quiet (fail)
            have HW7 := shut (HW6.out.then_no ((Turn.refl no w6).drewN nq))
            generalize w6.drewN nq = w7 at *
            obtain ⟨p2, p2f, p3, p4, p5⟩ := HC.out w7 HW7.out.turn
            obtain ⟨q0, q1, q2, _⟩ := HAT.out w7 HW7.out.turn
            obtain ⟨v8, w8, hap8, hW8⟩ := H1G.out w7 _ _ HW7.out (by have := HPL.out; simp; omega)
            obtain ⟨za, zn, zc, hzv⟩ : ∃ a n c, v8 = .slice a n c := by obtain ⟨a, c, e, _⟩ := hW8.fl.slice; exact ⟨_, _, _, e⟩
            subst hzv
            have HW8 := shut hW8
            clear hW8
            go_wp2_with (at_builtin; refine wpList_append_run rfl _ _ (t := 90) (tx := 90) rfl _ _ rfl rfl (hap8 _) ?_)
            go_roundw
            case rel => exact ⟨i + 1, _, _, _, by omega, rfl, by rw [HPT.out, HS.out], by go_num, by show Wk _ _ _ _ _ _; rw [HPT.out, HS.out]; exact HW8.out⟩
            case measure => simp [intOf]; omega
        · have hbl : Op.bytesLess g.nm f.nm = true := by
            rw [bytesLess_eq]
            simp only [decide_eq_true_eq]
            exact List.not_le.1 hle
          have hnm : ¬ g.nm = f.nm := fun q => hle (by rw [q]; exact List.le_refl _)
          have HS : Shut (stepP f (ol, false) g = (ol ++ [g], false)) := by show stepP f (ol, false) g = _; simp [stepP, hle, hnm]
          clear hle
          have HNM := shut hnm
          have hb2 : (g.nm == f.nm) = false := by simp [hnm]
          have hb3 : ¬ g.nm = f.nm := hnm
          clear hnm
          go_wp2_with fail
          go_quiet (fail)
          have HW2 := shut (HW.out.then_no ((Turn.refl no wr).drewN nq))
          generalize wr.drewN nq = wd at *
          obtain ⟨k2, k2f, k3, k4, k5⟩ := HC.out wd HW2.out.turn
          obtain ⟨g0, g1, g2, _⟩ := HAT.out wd HW2.out.turn
          go_wp2_with fail
          go_quiet (fail)
          have HW7 := shut (HW2.out.then_no ((Turn.refl no wd).drewN nq))
          generalize wd.drewN nq = w7 at *
          obtain ⟨p2, p2f, p3, p4, p5⟩ := HC.out w7 HW7.out.turn
          obtain ⟨q0, q1, q2, _⟩ := HAT.out w7 HW7.out.turn
          obtain ⟨v8, w8, hap8, hW8⟩ := H1G.out w7 _ _ HW7.out (by have := HPL.out; simp; omega)
          obtain ⟨za, zn, zc, hzv⟩ : ∃ a n c, v8 = .slice a n c := by obtain ⟨a, c, e, _⟩ := hW8.fl.slice; exact ⟨_, _, _, e⟩
          subst hzv
          have HW8 := shut hW8
          clear hW8
          go_wp2_with (at_builtin; refine wpList_append_run rfl _ _ (t := 90) (tx := 90) rfl _ _ rfl rfl (hap8 _) ?_)
          go_roundw
          case rel => exact ⟨i + 1, _, _, _, by omega, rfl, by rw [HPT.out, HS.out], by go_num, by show Wk _ _ _ _ _ _; rw [HPT.out, HS.out]; exact HW8.out⟩
          case measure => simp [intOf]; omega
    · have hlt' : ¬ (i : Int) < (s.fs.length : Int) := by omega
      have hil : s.fs.take i = s.fs := List.take_of_length_le (by omega)
      rw [hil] at HW
      rw [hil]
      have hpl := putP_len f s.fs
      have heq := putP_eq (f := f) HSO.out
      generalize hst : putP f s.fs = st at *
      obtain ⟨ol, dn⟩ := st
      simp only at *
      cases dn with
      | true =>
        simp only [finP, if_true] at heq
        rw [heq] at HW
        have HX := shut (HFIN.out _ _ HW.out)
        clear heq
        go_wp2_with fail
        obtain ⟨K', fv', x1, x2, x3⟩ := HX.out
        exact ⟨rfl, _, results_none rfl _ _ _, rfl, K', ⟨fv', x1⟩, x2, x3⟩
      | false =>
        have heq' : ol ++ [f] = putF f s.fs := by simpa [finP] using heq
        obtain ⟨v6, w6, hap, hW6⟩ := HW.out.step (Turn.refl no wr) (by omega) f _ (HU.out.turn_no HW.out.turn) (fun g hg => Or.inl (HUB.out g hg)) rfl
        rw [heq'] at hW6
        obtain ⟨ya, yn, yc, hyv⟩ : ∃ a n c, v6 = .slice a n c := by obtain ⟨a, c, e, _⟩ := hW6.fl.slice; exact ⟨_, _, _, e⟩
        subst hyv
        have HX := shut (HFIN.out _ _ hW6)
        obtain ⟨m2, m2f, m3, m4, m5⟩ := HC.out w6 hW6.turn
        clear heq heq' hW6
        unfold strV at hap
        go_wp2_with (at_builtin; refine wpList_append_run rfl _ _ (t := 90) (tx := 90) rfl _ _ rfl rfl (hap _) ?_)
        obtain ⟨K', fv', x1, x2, x3⟩ := HX.out
        exact ⟨rfl, _, results_none rfl _ _ _, rfl, K', ⟨fv', x1⟩, x2, x3⟩
end
end Go.Proofs.Ytcdogciacchigab
