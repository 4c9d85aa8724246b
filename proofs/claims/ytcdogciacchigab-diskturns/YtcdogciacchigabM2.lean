/- put, drop, losePower. -/
import Derived.Test.YtcdogciacchigabM1
import Derived.Deep.RegionHeld3
namespace Go.Proofs.Ytcdogciacchigab
open Go.RowKit Go.Maps
set_option linter.unusedVariables false
section
variable {w : World} {p : Nat} {K : Nat → Prop} {bf bt : Option Nat} {V : Nm → Value} {s : St}

/-- What stands in the map at a name. -/
theorem Dp.oldV (h : Dp w p K bf bt V s) (nm : Nm) : ∃ a cap m, stood V s.fs nm = .agg #[.slice a (lenF nm s.fs) cap, .int .i64 m] := by
  unfold lenF stood
  cases hg : getF nm s.fs with
  | none => exact ⟨_, _, _, rfl⟩
  | some f =>
    obtain ⟨hf1, hf2⟩ := getF_mem hg
    have hb := h.bytes f hf1
    rw [hf2] at hb
    rcases hb.shape with ⟨e, e2⟩ | ⟨g, cap, cur, e, _⟩
    · have : f.bs = [] := List.map_eq_nil_iff.1 e2
      exact ⟨none, 0, f.sy, by simp [fileV, e, this]⟩
    · exact ⟨some ⟨g, 0, none⟩, cap, f.sy, by simp [fileV, e]⟩

theorem field86 (a : Option Addr) (n cap : Nat) (m : Int) (W : World) : (Instr.field 97 (.agg #[.slice a n cap, .int .i64 m]) 0).run Try.prog W = .ok (.slice a n cap) W := by
  simp [Instr.field, run_underlying Try.underlying97, asAgg, part]

set_option maxRecDepth 100000 in
set_option maxHeartbeats 4000000 in
theorem put36 (h : Dp w p K bf bt V s) (ho : s.out = false) (f : Pf) (v : Value) (hv : Own w 5 v (f.bs.map bv)) (hi : Inv { s with fs := putF f s.fs })
    (hown : ∀ g, v.ownBlock = some g → g ≠ p ∧ ∀ f' ∈ s.fs, f'.nm ≠ f.nm → (V f'.nm).ownBlock ≠ some g) :
    Calls Try.prog 48 #[ptr p, strV f.nm, fileV v f.sy] w fun e w' => e = .returned (.tuple #[]) ∧
      Dp w' p (fun k => K k ∨ v.ownBlock = some k) bf bt (setV V f.nm v) { s with fs := putF f s.fs } ∧ Turn (fun k => k = p ∨ bf = some k) w w' := by
  have hnm : isNm f.nm = true := hi.names f (by
    have := getF_mem (getF_put_same f s.fs h.inv.sorted)
    exact this.1)
  have hn32 := isNm_len hnm
  have hn : f.nm.length ≤ maxLen := by simp only [maxLen]; omega
  obtain ⟨b, D, rfl, kb, o, fm⟩ := h.on_files ho
  obtain ⟨oa, ocap, om, hold⟩ := h.oldV f.nm
  have hu := used_putF f s.fs h.inv.sorted
  have hul := h.inv.used
  have hul2 := hi.used
  have hL := h.inv.lim
  have hle := lenF_le f.nm s.fs
  have hlim : ({ s with fs := putF f s.fs } : St).lim = s.lim := rfl
  have e1 : IntKind.i64.wrap ((f.bs.length : Int) - (lenF f.nm s.fs : Int)) = (f.bs.length : Int) - (lenF f.nm s.fs : Int) := wrap_i64 (by simp only at hul2; omega) (by simp only at hul2; omega)
  have e2 : IntKind.i64.wrap ((usedF s.fs : Int) + ((f.bs.length : Int) - (lenF f.nm s.fs : Int))) = (usedF (putF f s.fs) : Int) := by
    rw [wrap_i64 (by simp only at hul2; omega) (by simp only at hul2; omega)]
    omega
  obtain ⟨va, vn, vcap, hvs, hvl⟩ : ∃ va vn vcap, v = .slice va vn vcap ∧ vn = f.bs.length := by
    rcases hv.shape with ⟨e, q⟩ | ⟨g, cap, cur, e, _⟩
    · exact ⟨_, _, _, e, by have := List.map_eq_nil_iff.1 q; simp [this]⟩
    · exact ⟨_, _, _, e, by simp⟩
  subst hvl
  -- the box
  obtain ⟨g, hg⟩ : ∃ g, g = w.heap.size := ⟨_, rfl⟩
  have T0 : Turn no w (w.alloc (.cells #[v, .int .i64 f.sy] 97)) := (Turn.refl no w).alloc _
  have B0 : Row (w.alloc (.cells #[v, .int .i64 f.sy] 97)) g #[v, .int .i64 f.sy] 97 := Row.newAt w _ 97 g hg
  have R0 := h.row.turn T0 (fun q => q)
  have hpg : p ≠ g := by have := h.row.lt; omega
  have hbg : b ≠ g := by have := o.lt; omega
  have hbp : b ≠ p := row_not_map h.row o
  have o0 := ownsMap_turn o T0 (fun q => q)
  have hfl : ({ s with fs := putF f s.fs } : St).fs = putF f s.fs := rfl
  have hcount := hi.count
  -- behind the first store
  have T1 : Turn (fun k => k = p) w ((w.alloc (.cells #[v, .int .i64 f.sy] 97)).drew.setCell ⟨p, 3, none⟩ (.int .i64 (usedF (putF f s.fs)))) := Turn.setCell (S := fun k => k = p) (T0.drew.of_no) (p := ⟨p, 3, none⟩) (fun _ => rfl) _
  have R1 : Row ((w.alloc (.cells #[v, .int .i64 f.sy] 97)).drew.setCell ⟨p, 3, none⟩ (.int .i64 (usedF (putF f s.fs)))) p (dkC p s.lim (usedF (putF f s.fs)) s.n (some b) bt s.off s.out) 82 := R0.drew.set 3 _
  have B1 : Row ((w.alloc (.cells #[v, .int .i64 f.sy] 97)).drew.setCell ⟨p, 3, none⟩ (.int .i64 (usedF (putF f s.fs)))) g #[v, .int .i64 f.sy] 97 := B0.drew.other (p := ⟨p, 3, none⟩) hpg _
  have S1 : Turn (fun k => k = p) (w.alloc (.cells #[v, .int .i64 f.sy] 97)) ((w.alloc (.cells #[v, .int .i64 f.sy] 97)).drew.setCell ⟨p, 3, none⟩ (.int .i64 (usedF (putF f s.fs)))) := Turn.setCell (S := fun k => k = p) ((Turn.refl no _).drew.of_no) (p := ⟨p, 3, none⟩) (fun _ => rfl) _
  have o1 := ownsMap_turn o T1 (fun q => hbp q)
  have hsz1 := T1.size
  have hb0 := Nat.lt_of_lt_of_le o.lt T0.size
  generalize hw0 : w.alloc (.cells #[v, .int .i64 f.sy] 97) = w0 at *
  have S0 : Turn no w0 w0.drew := (Turn.refl no w0).drew
  generalize hw1 : w0.drew.setCell ⟨p, 3, none⟩ (.int .i64 (usedF (putF f s.fs))) = w1 at *
  obtain ⟨w2, hst, o2, mt⟩ := (o1.drew).store law9 Try.underlying79 (Nat.lt_of_le_of_lt h.inv.count (by simp [maxLen])) (sKey_of f.nm hn) (val := fileV v f.sy) (d := .held (fileV v f.sy)) (ps := []) rfl
  have t2 : Turn (fun k => k = b) w1 w2 := ((Turn.refl no w1).drew.of_no).trans (mapTurn mt) (fun _ _ q => q)
  have T2 : Turn (fun k => k = p ∨ some b = some k) w w2 := (T1.mono (fun _ _ q => Or.inl q)).trans t2 (fun _ _ q => Or.inr (by rw [q]))
  have hEnd : Dp w2 p (fun k => K k ∨ v.ownBlock = some k) (some b) bt (setV V f.nm v) { s with fs := putF f s.fs } := by
    have hmem : ∀ f' ∈ putF f s.fs, f'.nm = f.nm → f' = f := fun f' hf' e => by
      have h1 := getF_of_mem (sorted_putF h.inv.sorted f) hf'
      rw [e, getF_put_same f s.fs h.inv.sorted] at h1
      exact (Option.some.inj h1).symm
    have hmem2 : ∀ f' ∈ putF f s.fs, f'.nm ≠ f.nm → f' ∈ s.fs := fun f' hf' e => by
      rcases mem_putF hf' with q | q
      · exact (e (by rw [q])).elim
      · exact q
    have hvlt : ∀ k, v.ownBlock = some k → k < w.heap.size := fun k hk => hv.lt hk
    have hne : ∀ k e xs u, Own w e u xs → u.ownBlock = some k → k ≠ b := fun k e xs u hu hk q => by
      subst q
      rcases hu.shape with ⟨rfl, _⟩ | ⟨g', cap, cur, rfl, ho', _⟩
      · cases hk
      · cases hk
        exact row_not_map ho' o rfl
    have hneP : ∀ f' ∈ s.fs, ∀ k, (V f'.nm).ownBlock = some k → k ≠ p := fun f' hf' k hk q => by
      subst q
      rcases (h.bytes f' hf').shape with ⟨e, _⟩ | ⟨g', cap, cur, e, ho', _⟩
      · rw [e] at hk; cases hk
      · rw [e] at hk; cases hk
        have := h.row
        unfold Row at this
        rw [ho'] at this
        simp at this
    refine ⟨hi, (R1.turn t2 (fun q => hbp q.symm)), Or.inl h.kp, fun k hk => ?_, ?_, ?_, fun f' hf' => ?_, fun f' hf' k hk => ?_, fun f' hf' f'' hf'' hne' k hk => ?_⟩
    · rcases hk with q | q
      · exact Nat.lt_of_lt_of_le (h.klt k q) T2.size
      · exact Nat.lt_of_lt_of_le (hvlt k q) T2.size
    · have fm' := fm.put h.inv.sorted f v hn
      exact Or.inr ⟨ho, b, _, rfl, Or.inl kb, ownsMap_tight o2 (by rw [fm'.size]; exact Nat.le_refl _), fm'⟩
    · rcases h.troubles with q | ⟨q, b', D', e, kb', ne', o', tm⟩
      · exact Or.inl q
      · exact Or.inr ⟨q, b', D', e, Or.inl kb', ne', ownsMap_turn o' T2 (fun q => by
          rcases q with q | q
          · exact row_not_map h.row o' q
          · exact ne' q), tm⟩
    · by_cases e : f'.nm = f.nm
      · rw [hmem f' hf' e]
        simp only [setV, if_true]
        refine hv.turn T2 (fun k hk q => ?_)
        rcases q with q | q
        · exact (hown k hk).1 q
        · exact hne k _ _ _ hv hk (by simpa using q.symm)
      · simp only [setV, if_neg e]
        have hm := hmem2 f' hf' e
        refine (h.bytes f' hm).turn T2 (fun k hk q => ?_)
        rcases q with q | q
        · exact hneP f' hm k hk q
        · exact hne k _ _ _ (h.bytes f' hm) hk (by simpa using q.symm)
    · by_cases e : f'.nm = f.nm
      · simp only [setV, if_pos e] at hk
        exact Or.inr hk
      · simp only [setV, if_neg e] at hk
        exact Or.inl (h.owned f' (hmem2 f' hf' e) k hk)
    · by_cases e : f'.nm = f.nm
      · have e'' : f''.nm ≠ f.nm := fun q => hne' (e.trans q.symm)
        simp only [setV, if_pos e] at hk
        simp only [setV, if_neg e'']
        exact (hown k hk).2 f'' (hmem2 f'' hf'' e'') e''
      · simp only [setV, if_neg e] at hk
        by_cases e'' : f''.nm = f.nm
        · simp only [setV, if_pos e'']
          intro q
          exact (hown k q).2 f' (hmem2 f' hf' e) e hk
        · simp only [setV, if_neg e'']
          exact h.apart f' (hmem2 f' hf' e) f'' (hmem2 f'' hf'' e'') hne' k hk
  have hl := fun W (t : Turn (fun k => k = p) w0 W) => (files_look (ownsMap_turn o0 t (fun q => hbp q)) fm f.nm hn).2
  rw [hold] at hl
  have R0' : ∀ W, Turn no w0 W → W.cell? ⟨p, 3, none⟩ = some (.int .i64 (usedF s.fs)) ∧ W.cell? ⟨p, 2, none⟩ = some (.map (some b)) := fun W t => ⟨(R0.turn t (fun q => q)).cell 3 _ rfl, (R0.turn t (fun q => q)).cell 2 _ rfl⟩
  have R0f : w0.drew.frozen? ⟨p, 3, none⟩ = false := R0.drew.frozen 3
  have R0c : w0.drew.cell? ⟨p, 3, none⟩ = some (.int .i64 (usedF s.fs)) := R0.drew.cell 3 _ rfl
  clear h hi hold hul hul2 hle hlim hu hL hown kb fm o o0 o2 mt T0 T1 hfl hcount
  generalize usedF s.fs = U at *
  generalize lenF f.nm s.fs = LF at *
  generalize hU2 : usedF (putF f s.fs) = U2 at *
  unfold ptr strV fileV at *
  subst hvs
  go_enter Try.func48, Try.ntmps48
  go_wp2_with fail
  subst hg
  try rw [hw0]
  refine wp_region_noPanic ?_
  refine wp_region_held_drew (S := fun W => Turn (fun k => k = p) w0 W ∧ W.cell? ⟨p, 2, none⟩ = some (.map (some b))) (by kernel_rfl) ⟨(Turn.refl _ w0).drew, (R0' _ (Turn.refl _ w0).drew).2⟩ (fun hHeld => ?_)
  refine' wpAnyH_take (i := 0) (v := .pointer (some ⟨p, 0, none⟩)) rfl (by kernel_rfl) (by kernel_rfl) (by kernel_rfl) (fun _ _ _ h => h) (Or.inl ⟨by kernel_rfl, fun W hW => ?y1⟩) hHeld ?r1
  · go_simp
  refine' wpAnyH_take (i := 1) (v := .pointer (some ⟨p, 0, none⟩)) rfl (by kernel_rfl) (by kernel_rfl) (by kernel_rfl) (fun _ _ _ h => h) (Or.inl ⟨by kernel_rfl, fun W hW => ?y2⟩) hHeld ?r2
  · go_simp
  refine' wpAnyH_take (i := 2) (v := .pointer (some ⟨p, 3, none⟩)) rfl (by kernel_rfl) (by kernel_rfl) (by kernel_rfl) (fun _ _ _ h => h) (Or.inl ⟨by kernel_rfl, fun W hW => ?y3⟩) hHeld ?r3
  · go_simp
  refine' wpAnyH_take (i := 4) (v := .pointer (some ⟨w.heap.size, 0, none⟩)) rfl (by kernel_rfl) (by kernel_rfl) (by kernel_rfl) (fun _ _ _ h => h) (Or.inl ⟨by kernel_rfl, fun W hW => ?y4⟩) hHeld ?r4
  · go_simp
  refine' wpAnyH_take (i := 5) (v := .slice va f.bs.length vcap) rfl (by kernel_rfl) (by kernel_rfl) (by kernel_rfl) (fun _ _ _ h => h) (Or.inl ⟨by kernel_rfl, fun W hW => ?y5⟩) hHeld ?r5
  · have c : W.cell? ⟨w.heap.size, 0, none⟩ = some (.slice va f.bs.length vcap) := (B0.turn hW.1 (fun q => hpg q.symm)).cell 0 _ rfl
    go_simp
  refine' wpAnyH_take (i := 6) (v := .int .i64 f.bs.length) rfl (by kernel_rfl) (by kernel_rfl) (by kernel_rfl) (fun _ _ _ h => h) (Or.inl ⟨by kernel_rfl, fun W hW => ?y6⟩) hHeld ?r6
  · go_simp
  refine' wpAnyH_take (i := 7) (v := .pointer (some ⟨p, 0, none⟩)) rfl (by kernel_rfl) (by kernel_rfl) (by kernel_rfl) (fun _ _ _ h => h) (Or.inl ⟨by kernel_rfl, fun W hW => ?y7⟩) hHeld ?r7
  · go_simp
  refine' wpAnyH_take (i := 8) (v := .pointer (some ⟨p, 0, none⟩)) rfl (by kernel_rfl) (by kernel_rfl) (by kernel_rfl) (fun _ _ _ h => h) (Or.inl ⟨by kernel_rfl, fun W hW => ?y8⟩) hHeld ?r8
  · go_simp
  refine' wpAnyH_take (i := 9) (v := .pointer (some ⟨p, 2, none⟩)) rfl (by kernel_rfl) (by kernel_rfl) (by kernel_rfl) (fun _ _ _ h => h) (Or.inl ⟨by kernel_rfl, fun W hW => ?y9⟩) hHeld ?r9
  · go_simp
  refine' wpAnyH_take (i := 10) (v := .map (some b)) rfl (by kernel_rfl) (by kernel_rfl) (by kernel_rfl) (fun _ _ _ h => h) (Or.inl ⟨by kernel_rfl, fun W hW => ?y10⟩) hHeld ?r10
  · have c := hW.2
    go_simp
  refine' wpAnyH_take (i := 11) (v := .string ⟨f.nm.toArray⟩) rfl (by kernel_rfl) (by kernel_rfl) (by kernel_rfl) (fun _ _ _ h => h) (Or.inl ⟨by kernel_rfl, fun W hW => ?y11⟩) hHeld ?r11
  · go_simp
  refine' wpAnyH_take (i := 12) (v := .agg #[.slice oa LF ocap, .int .i64 om]) rfl (by kernel_rfl) (by kernel_rfl) (by kernel_rfl) (fun _ _ _ h => h) (Or.inl ⟨by kernel_rfl, fun W hW => ?y12⟩) hHeld ?r12
  · have c := hl W hW.1
    go_simp
  refine' wpAnyH_take (i := 13) (v := .slice oa LF ocap) rfl (by kernel_rfl) (by kernel_rfl) (by kernel_rfl) (fun _ _ _ h => h) (Or.inl ⟨by kernel_rfl, fun W hW => ?y13⟩) hHeld ?r13
  · have c := field86 oa LF ocap om W
    go_simp
  refine' wpAnyH_take (i := 14) (v := .int .i64 LF) rfl (by kernel_rfl) (by kernel_rfl) (by kernel_rfl) (fun _ _ _ h => h) (Or.inl ⟨by kernel_rfl, fun W hW => ?y14⟩) hHeld ?r14
  · go_simp
  refine' wpAnyH_take (i := 15) (v := .int .i64 ((f.bs.length : Int) - (LF : Int))) rfl (by kernel_rfl) (by kernel_rfl) (by kernel_rfl) (fun _ _ _ h => h) (Or.inl ⟨by kernel_rfl, fun W hW => ?y15⟩) hHeld ?r15
  · go_simp
  refine wpAnyH_ready (rs := [3]) (by kernel_rfl) (by simp) ?_
  refine AllReadyH.cons rfl (fun K hK => ?_) AllReadyH.nil
  go_simp
  refine hK.out _ _ hHeld (fun hHeld => ?_)
  clear hK
  refine' wpAnyH_take (i := 16) (v := .int .i64 U2) rfl (by kernel_rfl) (by kernel_rfl) (by kernel_rfl) (fun _ _ _ h => h) (Or.inl ⟨by kernel_rfl, fun W hW => ?y16⟩) hHeld ?r16
  · go_simp
  refine' wpAnyH_take (i := 17) (v := .pointer (some ⟨p, 0, none⟩)) rfl (by kernel_rfl) (by kernel_rfl) (by kernel_rfl) (fun _ _ _ h => h) (Or.inl ⟨by kernel_rfl, fun W hW => ?y17⟩) hHeld ?r17
  · go_simp
  refine' wpAnyH_take (i := 18) (v := .pointer (some ⟨p, 3, none⟩)) rfl (by kernel_rfl) (by kernel_rfl) (by kernel_rfl) (fun _ _ _ h => h) (Or.inl ⟨by kernel_rfl, fun W hW => ?y18⟩) hHeld ?r18
  · go_simp
  refine wpAnyH_ready (rs := [19]) (by kernel_rfl) (by simp) ?_
  refine AllReadyH.cons rfl (fun K hK => ?_) AllReadyH.nil
  go_simp
  refine hK.out _ _ ⟨S1, R1.cell 2 _ rfl⟩ (fun hHeld => ?_)
  clear hK
  refine wpAnyH_done (by kernel_rfl) ?_ _
  refine NoPanic.normal ?_
  go_wp2_with fail
  refine wp_region_noPanic ?_
  refine wp_region_held_drew (S := fun W => Turn (fun k => k = b) w1 W) (by kernel_rfl) (Turn.refl _ w1).drew (fun hHeld => ?_)
  refine' wpAnyH_take (i := 0) (v := .pointer (some ⟨p, 0, none⟩)) rfl (by kernel_rfl) (by kernel_rfl) (by kernel_rfl) (fun _ _ _ h => h) (Or.inl ⟨by kernel_rfl, fun W hW => ?y19⟩) hHeld ?r19
  · go_simp
  refine' wpAnyH_take (i := 1) (v := .pointer (some ⟨p, 0, none⟩)) rfl (by kernel_rfl) (by kernel_rfl) (by kernel_rfl) (fun _ _ _ h => h) (Or.inl ⟨by kernel_rfl, fun W hW => ?y20⟩) hHeld ?r20
  · go_simp
  refine' wpAnyH_take (i := 2) (v := .pointer (some ⟨p, 2, none⟩)) rfl (by kernel_rfl) (by kernel_rfl) (by kernel_rfl) (fun _ _ _ h => h) (Or.inl ⟨by kernel_rfl, fun W hW => ?y21⟩) hHeld ?r21
  · go_simp
  refine' wpAnyH_take (i := 3) (v := .map (some b)) rfl (by kernel_rfl) (by kernel_rfl) (by kernel_rfl) (fun _ _ _ h => h) (Or.inl ⟨by kernel_rfl, fun W hW => ?y22⟩) hHeld ?r22
  · have c : W.cell? ⟨p, 2, none⟩ = some (.map (some b)) := (R1.turn hW (fun q => hbp q.symm)).cell 2 _ rfl
    go_simp
  refine' wpAnyH_take (i := 4) (v := .string ⟨f.nm.toArray⟩) rfl (by kernel_rfl) (by kernel_rfl) (by kernel_rfl) (fun _ _ _ h => h) (Or.inl ⟨by kernel_rfl, fun W hW => ?y23⟩) hHeld ?r23
  · go_simp
  refine' wpAnyH_take (i := 5) (v := .agg #[.slice va f.bs.length vcap, .int .i64 f.sy]) rfl (by kernel_rfl) (by kernel_rfl) (by kernel_rfl) (fun _ _ _ h => h) (Or.inl ⟨by kernel_rfl, fun W hW => ?y24⟩) hHeld ?r24
  · have c : W.cell? ⟨w.heap.size, 0, none⟩ = some (.slice va f.bs.length vcap) := (B1.turn hW (fun q => hbg q.symm)).cell 0 _ rfl
    have c' : W.cell? ⟨w.heap.size, 1, none⟩ = some (.int .i64 f.sy) := (B1.turn hW (fun q => hbg q.symm)).cell 1 _ rfl
    go_simp
  refine wpAnyH_ready (rs := [6]) (by kernel_rfl) (by simp) ?_
  refine AllReadyH.cons rfl (fun K hK => ?_) AllReadyH.nil
  go_simp
  refine hK.out _ _ t2 (fun hHeld => ?_)
  clear hK
  refine wpAnyH_done (by kernel_rfl) ?_ _
  refine NoPanic.normal ?_
  go_wp2_with fail
  exact ⟨rfl, _, results_none rfl _ _ _, rfl, hEnd, T2⟩
end
end Go.Proofs.Ytcdogciacchigab
