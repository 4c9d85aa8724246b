/- drop, losePower. -/
import Derived.Test.YtcdogciacchigabM2
namespace Go.Proofs.Ytcdogciacchigab
open Go.RowKit Go.Maps
set_option linter.unusedVariables false
section
variable {w : World} {p : Nat} {K : Nat → Prop} {bf bt : Option Nat} {V : Nm → Value} {s : St}

theorem Inv.drop (h : Inv s) (nm : Nm) : Inv { s with fs := dropF nm s.fs } := by
  have hu := used_dropF nm s.fs h.sorted
  refine ⟨sorted_dropF h.sorted nm, fun f hf => h.names f (List.mem_filter.1 hf).1, fun f hf => h.sy f (List.mem_filter.1 hf).1, ?_, h.lim, ?_, h.arms, h.out⟩
  · have := h.used
    simp only
    omega
  · have := h.count
    have := List.length_filter_le (fun f : Pf => decide (f.nm ≠ nm)) s.fs
    simp only [dropF]
    omega

set_option maxRecDepth 100000 in
set_option maxHeartbeats 4000000 in
theorem drop57 (h : Dp w p K bf bt V s) (ho : s.out = false) (nm : Nm) (hin : getF nm s.fs ≠ none) (hn : nm.length ≤ maxLen) :
    Calls Try.prog 77 #[ptr p, strV nm] w fun e w' => e = .returned (.tuple #[]) ∧
      Dp w' p K bf bt V { s with fs := dropF nm s.fs } ∧ Turn (fun k => k = p ∨ bf = some k) w w' := by
  obtain ⟨b, D, rfl, kb, o, fm⟩ := h.on_files ho
  obtain ⟨oa, ocap, om, hold⟩ := h.oldV nm
  have hu := used_dropF nm s.fs h.inv.sorted
  have hul := h.inv.used
  have hL := h.inv.lim
  have e1 : IntKind.i64.wrap ((usedF s.fs : Int) - (lenF nm s.fs : Int)) = (usedF (dropF nm s.fs) : Int) := by
    rw [wrap_i64 (by omega) (by omega)]
    omega
  have hbp : b ≠ p := row_not_map h.row o
  have R0 := h.row
  have T1 : Turn (fun k => k = p) w (w.drew.setCell ⟨p, 3, none⟩ (.int .i64 (usedF (dropF nm s.fs)))) := Turn.setCell (S := fun k => k = p) ((Turn.refl no w).drew.of_no) (p := ⟨p, 3, none⟩) (fun _ => rfl) _
  have R1 : Row (w.drew.setCell ⟨p, 3, none⟩ (.int .i64 (usedF (dropF nm s.fs)))) p (dkC p s.lim (usedF (dropF nm s.fs)) s.n (some b) bt s.off s.out) 82 := R0.drew.set 3 _
  have o1 := ownsMap_turn o T1 (fun q => hbp q)
  generalize hw1 : w.drew.setCell ⟨p, 3, none⟩ (.int .i64 (usedF (dropF nm s.fs))) = w1 at *
  obtain ⟨w2, hst, o2, mt⟩ := o1.drop law9 Try.underlying79 (sKey_of nm hn) 0
  have hst' : ∀ ty, (Builtin.delete_ #[79, 9] ty #[.map (some b), strV nm]).run Try.prog w1 = .ok (.tuple #[]) w2 := fun ty => hst
  have t2 : Turn (fun k => k = b) w1 w2 := mapTurn mt
  have T2 : Turn (fun k => k = p ∨ some b = some k) w w2 := (T1.mono (fun _ _ q => Or.inl q)).trans t2 (fun _ _ q => Or.inr (by rw [q]))
  have hEnd : Dp w2 p K (some b) bt V { s with fs := dropF nm s.fs } := by
    have hmem : ∀ f' ∈ dropF nm s.fs, f' ∈ s.fs := fun f' hf' => (List.mem_filter.1 hf').1
    have hne : ∀ k e xs u, Own w e u xs → u.ownBlock = some k → k ≠ b := fun k e xs u hu hk q => by
      subst q
      rcases hu.shape with ⟨rfl, _⟩ | ⟨g', cap, cur, rfl, ho', _⟩
      · cases hk
      · cases hk
        exact row_not_map ho' o rfl
    have hneP : ∀ f' ∈ s.fs, ∀ k, (V f'.nm).ownBlock = some k → k ≠ p := fun f' hf' k hk q => by
      subst q
      rcases (h.bytes f' hf').shape with ⟨e, _⟩ | ⟨g', cap, cur, e, ho', _⟩
      · rw [e] at hk; cases hk
      · rw [e] at hk; cases hk
        have := h.row
        unfold Row at this
        rw [ho'] at this
        simp at this
    refine ⟨h.inv.drop nm, (R1.turn t2 (fun q => hbp q.symm)), h.kp, fun k hk => Nat.lt_of_lt_of_le (h.klt k hk) T2.size, ?_, ?_, fun f' hf' => ?_, fun f' hf' k hk => h.owned f' (hmem f' hf') k hk, fun f' hf' f'' hf'' hne' k hk => h.apart f' (hmem f' hf') f'' (hmem f'' hf'') hne' k hk⟩
    · have fm' := fm.drop nm hin h.inv.sorted
      exact Or.inr ⟨ho, b, _, rfl, kb, ownsMap_tight o2 (by rw [fm'.size]; exact Nat.le_refl _), fm'⟩
    · rcases h.troubles with q | ⟨q, b', D', e, kb', ne', o', tm⟩
      · exact Or.inl q
      · exact Or.inr ⟨q, b', D', e, kb', ne', ownsMap_turn o' T2 (fun q => by
          rcases q with q | q
          · exact row_not_map h.row o' q
          · exact ne' q), tm⟩
    · have hm := hmem f' hf'
      refine (h.bytes f' hm).turn T2 (fun k hk q => ?_)
      rcases q with q | q
      · exact hneP f' hm k hk q
      · exact hne k _ _ _ (h.bytes f' hm) hk (by simpa using q.symm)
  have hl := fun W (t : Turn (fun k => k = p) w W) => (files_look (ownsMap_turn o t (fun q => hbp q)) fm nm hn).2
  rw [hold] at hl
  have R0' : ∀ W, Turn no w W → W.cell? ⟨p, 3, none⟩ = some (.int .i64 (usedF s.fs)) ∧ W.cell? ⟨p, 2, none⟩ = some (.map (some b)) := fun W t => ⟨(R0.turn t (fun q => q)).cell 3 _ rfl, (R0.turn t (fun q => q)).cell 2 _ rfl⟩
  have R0f : w.drew.frozen? ⟨p, 3, none⟩ = false := R0.drew.frozen 3
  have R0c : w.drew.cell? ⟨p, 3, none⟩ = some (.int .i64 (usedF s.fs)) := R0.drew.cell 3 _ rfl
  have R1c : w1.cell? ⟨p, 2, none⟩ = some (.map (some b)) := R1.cell 2 _ rfl
  clear h hold hul hu hL kb fm o o2 mt hst
  generalize usedF s.fs = U at *
  generalize lenF nm s.fs = LF at *
  generalize hU2 : usedF (dropF nm s.fs) = U2 at *
  unfold ptr strV at *
  go_enter Try.func77, Try.ntmps77
  go_wp2_with fail
  refine wp_region_noPanic ?_
  refine wp_region_held_drew (S := fun W => Turn (fun k => k = p) w W ∧ W.cell? ⟨p, 2, none⟩ = some (.map (some b))) (by kernel_rfl) ⟨(Turn.refl _ w).drew, (R0' _ (Turn.refl _ w).drew).2⟩ (fun hHeld => ?_)
  refine' wpAnyH_take (i := 0) (v := .pointer (some ⟨p, 0, none⟩)) rfl (by kernel_rfl) (by kernel_rfl) (by kernel_rfl) (fun _ _ _ h => h) (Or.inl ⟨by kernel_rfl, fun W hW => ?y1⟩) hHeld ?r1
  · go_simp
  refine' wpAnyH_take (i := 1) (v := .pointer (some ⟨p, 0, none⟩)) rfl (by kernel_rfl) (by kernel_rfl) (by kernel_rfl) (fun _ _ _ h => h) (Or.inl ⟨by kernel_rfl, fun W hW => ?y2⟩) hHeld ?r2
  · go_simp
  refine' wpAnyH_take (i := 2) (v := .pointer (some ⟨p, 3, none⟩)) rfl (by kernel_rfl) (by kernel_rfl) (by kernel_rfl) (fun _ _ _ h => h) (Or.inl ⟨by kernel_rfl, fun W hW => ?y3⟩) hHeld ?r3
  · go_simp
  refine' wpAnyH_take (i := 4) (v := .pointer (some ⟨p, 0, none⟩)) rfl (by kernel_rfl) (by kernel_rfl) (by kernel_rfl) (fun _ _ _ h => h) (Or.inl ⟨by kernel_rfl, fun W hW => ?y4⟩) hHeld ?r4
  · go_simp
  refine' wpAnyH_take (i := 5) (v := .pointer (some ⟨p, 0, none⟩)) rfl (by kernel_rfl) (by kernel_rfl) (by kernel_rfl) (fun _ _ _ h => h) (Or.inl ⟨by kernel_rfl, fun W hW => ?y5⟩) hHeld ?r5
  · go_simp
  refine' wpAnyH_take (i := 6) (v := .pointer (some ⟨p, 2, none⟩)) rfl (by kernel_rfl) (by kernel_rfl) (by kernel_rfl) (fun _ _ _ h => h) (Or.inl ⟨by kernel_rfl, fun W hW => ?y6⟩) hHeld ?r6
  · go_simp
  refine' wpAnyH_take (i := 7) (v := .map (some b)) rfl (by kernel_rfl) (by kernel_rfl) (by kernel_rfl) (fun _ _ _ h => h) (Or.inl ⟨by kernel_rfl, fun W hW => ?y7⟩) hHeld ?r7
  · have c := hW.2
    go_simp
  refine' wpAnyH_take (i := 8) (v := .string ⟨nm.toArray⟩) rfl (by kernel_rfl) (by kernel_rfl) (by kernel_rfl) (fun _ _ _ h => h) (Or.inl ⟨by kernel_rfl, fun W hW => ?y8⟩) hHeld ?r8
  · go_simp
  refine' wpAnyH_take (i := 9) (v := .agg #[.slice oa LF ocap, .int .i64 om]) rfl (by kernel_rfl) (by kernel_rfl) (by kernel_rfl) (fun _ _ _ h => h) (Or.inl ⟨by kernel_rfl, fun W hW => ?y9⟩) hHeld ?r9
  · have c := hl W hW.1
    go_simp
  refine' wpAnyH_take (i := 10) (v := .slice oa LF ocap) rfl (by kernel_rfl) (by kernel_rfl) (by kernel_rfl) (fun _ _ _ h => h) (Or.inl ⟨by kernel_rfl, fun W hW => ?y10⟩) hHeld ?r10
  · have c := field86 oa LF ocap om W
    go_simp
  refine' wpAnyH_take (i := 11) (v := .int .i64 LF) rfl (by kernel_rfl) (by kernel_rfl) (by kernel_rfl) (fun _ _ _ h => h) (Or.inl ⟨by kernel_rfl, fun W hW => ?y11⟩) hHeld ?r11
  · go_simp
  refine wpAnyH_ready (rs := [3]) (by kernel_rfl) (by simp) ?_
  refine AllReadyH.cons rfl (fun K hK => ?_) AllReadyH.nil
  go_simp
  refine hK.out _ _ hHeld (fun hHeld => ?_)
  clear hK
  refine' wpAnyH_take (i := 12) (v := .int .i64 U2) rfl (by kernel_rfl) (by kernel_rfl) (by kernel_rfl) (fun _ _ _ h => h) (Or.inl ⟨by kernel_rfl, fun W hW => ?y12⟩) hHeld ?r12
  · go_simp
  refine' wpAnyH_take (i := 13) (v := .pointer (some ⟨p, 0, none⟩)) rfl (by kernel_rfl) (by kernel_rfl) (by kernel_rfl) (fun _ _ _ h => h) (Or.inl ⟨by kernel_rfl, fun W hW => ?y13⟩) hHeld ?r13
  · go_simp
  refine' wpAnyH_take (i := 14) (v := .pointer (some ⟨p, 3, none⟩)) rfl (by kernel_rfl) (by kernel_rfl) (by kernel_rfl) (fun _ _ _ h => h) (Or.inl ⟨by kernel_rfl, fun W hW => ?y14⟩) hHeld ?r14
  · go_simp
  refine wpAnyH_ready (rs := [15]) (by kernel_rfl) (by simp) ?_
  refine AllReadyH.cons rfl (fun K hK => ?_) AllReadyH.nil
  go_simp
  refine hK.out _ _ ⟨T1, R1.cell 2 _ rfl⟩ (fun hHeld => ?_)
  clear hK
  refine wpAnyH_done (by kernel_rfl) ?_ _
  refine NoPanic.normal ?_
  go_wp2_with fail
  exact ⟨rfl, _, results_none rfl _ _ _, rfl, hEnd, T2⟩

set_option maxRecDepth 100000 in
set_option maxHeartbeats 1000000 in
theorem losePower39 (h : Dp w p K bf bt V s) : Calls Try.prog 66 #[ptr p] w fun e w' => e = .returned (.tuple #[]) ∧ Dp w' p K bf none V { s with off := true } ∧ Turn (fun k => k = p) w w' := by
  have R0 := h.row
  have R1 := (R0.set 6 (.bool false)).set 5 (.map none)
  have T1 : Turn (fun k => k = p) w ((w.setCell ⟨p, 6, none⟩ (.bool false)).setCell ⟨p, 5, none⟩ (.map none)) := Turn.setCell (S := fun k => k = p) (Turn.setCell (S := fun k => k = p) (Turn.refl _ w) (p := ⟨p, 6, none⟩) (fun _ => rfl) _) (p := ⟨p, 5, none⟩) (fun _ => rfl) _
  have hEnd : Dp ((w.setCell ⟨p, 6, none⟩ (.bool false)).setCell ⟨p, 5, none⟩ (.map none)) p K bf none V { s with off := true } := by
    have hneP : ∀ f' ∈ s.fs, ∀ k, (V f'.nm).ownBlock = some k → k ≠ p := fun f' hf' k hk q => by
      subst q
      rcases (h.bytes f' hf').shape with ⟨e, _⟩ | ⟨g', cap, cur, e, ho', _⟩
      · rw [e] at hk; cases hk
      · rw [e] at hk; cases hk
        have := h.row
        unfold Row at this
        rw [ho'] at this
        simp at this
    refine ⟨⟨h.inv.sorted, h.inv.names, h.inv.sy, h.inv.used, h.inv.lim, h.inv.count, h.inv.arms, fun q => by cases q⟩, R1, h.kp, fun k hk => Nat.lt_of_lt_of_le (h.klt k hk) T1.size, ?_, Or.inl ⟨rfl, rfl⟩, fun f hf => (h.bytes f hf).turn T1 (fun g hg q => hneP f hf g hg q), h.owned, h.apart⟩
    rcases h.files with q | ⟨q, b, D, e, kb, o, fm⟩
    · exact Or.inl q
    · exact Or.inr ⟨q, b, D, e, kb, ownsMap_turn o T1 (fun q => row_not_map h.row o q), fm⟩
  have c6 := h.c6
  have f6 := R0.frozen 6
  have c5 : (w.setCell ⟨p, 6, none⟩ (.bool false)).cell? ⟨p, 5, none⟩ = some (.map bt) := (R0.set 6 (.bool false)).cell 5 _ rfl
  have f5 := (R0.set 6 (.bool false)).frozen 5
  clear h R0 R1
  unfold ptr at *
  go_enter Try.func66, Try.ntmps66
  go_wp2_with fail
  exact ⟨rfl, _, results_none rfl _ _ _, rfl, hEnd, T1⟩
end
end Go.Proofs.Ytcdogciacchigab
