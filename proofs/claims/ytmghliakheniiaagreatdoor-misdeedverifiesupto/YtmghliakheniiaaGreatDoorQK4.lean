/- What is signed, by the document. -/
import Derived.Test.YtmghliakheniiaaGreatDoorQK3
import Derived.Test.YtmghliakheniiaaGreatDoorQY
import Derived.Test.YtmghliakheniiaaGreatDoorQU
import Derived.Deep.RegionHeld
namespace Go.Proofs.YtmghliakheniiaaGreatDoor
open Go.RowKit
set_option linter.unusedVariables false

theorem voB_len {x : Vt} (h : x.id.length = 32) : (voB x).length ≤ 100 := by
  have b1 := varE_le x.h.toNat; have b2 := varE_le x.r.toNat; have b3 := varE_le x.t.toNat; have b4 := varE_le x.f.toNat
  simp only [voB, List.length_append, leB_length]
  omega
set_option maxRecDepth 100000 in
set_option maxHeartbeats 8000000 in
theorem rvoteBytes11 (w : World) (ch : ByteArray) (x : Vt) (ho : x.fits) : Calls Tryz.prog 9 #[.string ch, .agg x.cs.toArray] w (Told w (plainSv ch x) (sBv ch x)) := by
  have P := fun W => plain12 W x ho.1
  have hz : (Tryz.prog.info? 43).map (·.size) = some x.cs.length := by rw [Vt.len ho.1]; exact qsize29
  have cr := Row.rangeQ (Row.new w x.cs.toArray 43)
  have t0 : Turn no w (w.alloc (.cells x.cs.toArray 43)) := (Turn.refl no w).alloc _
  unfold sBv
  by_cases he : plainSv ch x = 0
  · rw [if_pos he, he]
    have hz0 := plainSv_zero he
    have hch := hz0.1
    have hcB : cB ch = true ∧ plainE x = 0 := by
      unfold plainSv at he
      cases hc : cB ch
      · rw [hc] at he; cases he
      · rw [hc] at he; exact ⟨rfl, he⟩
    obtain ⟨hc, hpe⟩ := hcB
    rw [hpe] at P
    have TX := fun W => vote40 W x ho hz0.2.1 hz0.2.2.1 hz0.2.2.2.1 hz0.2.2.2.2
    have HT := shutX (And.intro TX (fun W => text37 W ch hch))
    have hSB : stBv ch x = [86] ++ (varE ch.size ++ ch.data.toList) ++ voB x := by simp [stBv, leB, List.append_assoc]
    have hlen : (varE ch.size ++ ch.data.toList).length + (voB x).length + 10 ≤ 140737488355328 := by
      have a1 := varE_le ch.size
      have a2 : ch.data.toList.length = ch.size := by rw [Array.length_toList]; rfl
      have a3 := voB_len ho.1.1
      rw [List.length_append]
      omega
    rw [hSB]
    clear TX he hpe hch hSB hz0
    generalize voB x = TB at *
    generalize varE ch.size ++ ch.data.toList = CB at *
    generalize x.cs = D at *
    obtain ⟨w1, hw1⟩ : ∃ W, w.alloc (.cells D.toArray 43) = W := ⟨_, rfl⟩
    rw [hw1] at t0 cr
    have Hr := shutX (fun W (t : Turn no w1 W) => (fun j u hu => t.keep (cr j u hu) (fun q => q) : W.rangeAt w.heap.size 0 D))
    go_enter Tryz.func9, Tryz.ntmps9
    go_upto_region 1 with fail
    try rw [hw1]
    go_upto_region 6 with (first | (guard_target =~ wpList _ _ _ ({ dst := _, op := Op.load 43 _, .. } :: _) _ _; refine wpList_load_mid rfl 43 (.tmp 3) rfl w.heap.size 0 rfl D _ cr Tryz.underlying43 rfl hz ?_) | (go_at_call 34; refine (named35 _ ch).mono ?_; rintro e w2 ⟨rfl, rfl⟩; rw [hc]) | (go_at_call 35; refine (P _).mono ?_; rintro e w2 ⟨rfl, t2⟩))
    have t02 := t0.then_no t2
    refine wp_region_held_drew (S := fun W => Turn no w2 W) (by kernel_rfl) (Turn.refl no w2).drew (fun hHeld => ?_)
    refine' wpAnyH_take (i := 1) (v := .string ch) rfl (by kernel_rfl) (by kernel_rfl) (by kernel_rfl) (fun _ _ _ h => h) (Or.inl ⟨by kernel_rfl, fun W hW => ?y1⟩) hHeld ?r1
    · go_simp
    refine' wpAnyH_take (i := 4) (v := .agg D.toArray) rfl (by kernel_rfl) (by kernel_rfl) (by kernel_rfl) (fun _ _ _ h => h) (yieldsIf_load_mid (by kernel_rfl) 43 (.tmp 3) rfl w.heap.size 0 (by kernel_rfl) D _ (fun W h => Hr.out W (t2.then_no h)) Tryz.underlying43 rfl hz) hHeld ?s4
    obtain ⟨X0, hX0⟩ : ∃ X, w2.drew = X := ⟨_, rfl⟩
    rw [hX0] at hHeld ⊢
    clear hX0
    refine wpAnyH_ready (rs := [0, 2]) (by kernel_rfl) (by simp) ?_
    refine AllReadyH.cons rfl (fun K hK => ?_) (AllReadyH.cons rfl (fun K hK => ?_) AllReadyH.nil)
    · go_simp
      have o0 := (fr_one X0 86).pre hHeld
      obtain ⟨XA, eXA⟩ : ∃ X, World.alloc X0 (.cells #[.int .u8 86] 5) = X := ⟨_, rfl⟩
      have o0' : Fr w2 XA (.slice (some ⟨X0.heap.size, 0, none⟩) 1 1) [86] := by rw [← eXA]; exact o0
      try rw [eXA]
      refine hK.out _ _ o0'.turn (fun hHeld => ?_)
      clear hK eXA o0
      obtain ⟨z, ez⟩ : ∃ z, X0.heap.size = z := ⟨_, rfl⟩
      rw [ez] at o0'
      try rw [ez]
      clear ez
      refine wpAnyH_ready (rs := [2]) (by kernel_rfl) (by simp) ?_
      refine AllReadyH.cons rfl (fun K hK => ?_) AllReadyH.nil
      go_simp
      refine (HT.out.2 XA).mono ?_
      rintro e XB ⟨vt, rfl, FT⟩
      obtain ⟨ta, tl, tc, rfl⟩ := FT.form
      refine hK.out _ _ (hHeld.then_no FT.turn) (fun hHeld => ?_)
      clear hK
      have oB : Fr w2 XB (.slice (some ⟨z, 0, none⟩) 1 1) [86] := ⟨o0'.own.turn_no FT.turn, o0'.new, hHeld⟩
      have bB := FT.own.bs
      refine wpAnyH_ready (rs := [3]) (by kernel_rfl) (by simp) ?_
      refine AllReadyH.cons rfl (fun K hK => ?_) AllReadyH.nil
      refine step_append_src rfl (.tmp 15) (.tmp 17) rfl Tryz.underlying75 Tryz.info5q rfl (.slice (some ⟨z, 0, none⟩) 1 1) ([86].map bv) (by simp [Act.eval]) oB.own _ CB.length (CB.map bv) (by simp [Act.eval]) (bB.src (P := Tryz.prog) Tryz.underlying75) (by simp; omega) (by simp [maxLen]; omega) ?_
      intro v3XB w3XB o3XB g3XB
      have F3XB := oB.append (ys := CB) (Turn.refl _ _) (by simpa using o3XB) g3XB
      obtain ⟨a3XB, l3XB, c3XB, rfl⟩ := o3XB.form
      have HH3XB := F3XB.turn
      refine hK.out _ _ HH3XB (fun hHeld => ?_)
      clear hK
      refine wpAnyH_ready (rs := [5]) (by kernel_rfl) (by simp) ?_
      refine AllReadyH.cons rfl (fun K hK => ?_) AllReadyH.nil
      go_simp
      refine (HT.out.1 w3XB).mono ?_
      rintro e w5XB ⟨v5XB, rfl, F5XB⟩
      obtain ⟨a5XB, l5XB, c5XB, rfl⟩ := F5XB.form
      refine hK.out _ _ (hHeld.then_no F5XB.turn) (fun hHeld => ?_)
      clear hK
      have F6XB : Fr w2 w5XB (.slice a3XB l3XB c3XB) ([86] ++ CB) := ⟨F3XB.own.turn_no F5XB.turn, F3XB.new, hHeld⟩
      refine wpAnyH_ready (rs := [6]) (by kernel_rfl) (by simp) ?_
      refine AllReadyH.cons rfl (fun K hK => ?_) AllReadyH.nil
      refine step_append_src rfl (.tmp 18) (.tmp 20) rfl Tryz.underlying75 Tryz.info5q rfl (.slice a3XB l3XB c3XB) (([86] ++ CB).map bv) (by simp [Act.eval]) F6XB.own _ TB.length (TB.map bv) (by simp [Act.eval]) (F5XB.own.bs.src (P := Tryz.prog) Tryz.underlying75) (by simp; omega) (by simp [maxLen]; omega) ?_
      intro v7XB w7XB o7XB g7XB
      have F7XB := F6XB.append (ys := TB) (Turn.refl _ _) o7XB g7XB
      obtain ⟨a7XB, l7XB, c7XB, rfl⟩ := o7XB.form
      refine hK.out _ _ F7XB.turn (fun hHeld => ?_)
      clear hK
      refine wpAnyH_ready (rs := [7]) (by kernel_rfl) (by simp) ?_
      refine AllReadyH.cons rfl (fun K hK => ?_) AllReadyH.nil
      go_simp
      refine hK.out _ _ hHeld (fun hHeld => ?_)
      clear hK
      refine wpAnyH_ready (rs := [8]) (by kernel_rfl) (by simp) ?_
      refine AllReadyH.cons rfl (fun K hK => ?_) AllReadyH.nil
      go_simp
      refine hK.out _ _ hHeld (fun hHeld => ?_)
      clear hK
      refine wpAnyH_done (by kernel_rfl) ?_ _
      go_simp
      go_wp2_with fail
      go_ret2
      exact ⟨_, rfl, by simpa [List.append_assoc] using F7XB.own, fun g hg => Nat.le_trans t02.size (F7XB.new g hg), t02.then_no F7XB.turn⟩
    · go_simp
      refine (HT.out.2 X0).mono ?_
      rintro e XC ⟨vt, rfl, FT⟩
      obtain ⟨ta, tl, tc, rfl⟩ := FT.form
      refine hK.out _ _ (hHeld.then_no FT.turn) (fun hHeld => ?_)
      clear hK
      refine wpAnyH_ready (rs := [0]) (by kernel_rfl) (by simp) ?_
      refine AllReadyH.cons rfl (fun K hK => ?_) AllReadyH.nil
      go_simp
      have o0 := (fr_one XC 86).pre hHeld
      obtain ⟨XD, eXD⟩ : ∃ X, World.alloc XC (.cells #[.int .u8 86] 5) = X := ⟨_, rfl⟩
      have o0' : Fr w2 XD (.slice (some ⟨XC.heap.size, 0, none⟩) 1 1) [86] := by rw [← eXD]; exact o0
      have tD : Turn no XC XD := by rw [← eXD]; exact (Turn.refl no XC).alloc _
      try rw [eXD]
      refine hK.out _ _ o0'.turn (fun hHeld => ?_)
      clear hK eXD o0
      obtain ⟨z, ez⟩ : ∃ z, XC.heap.size = z := ⟨_, rfl⟩
      rw [ez] at o0'
      try rw [ez]
      clear ez
      have bB := FT.own.bs.turn_no tD
      refine wpAnyH_ready (rs := [3]) (by kernel_rfl) (by simp) ?_
      refine AllReadyH.cons rfl (fun K hK => ?_) AllReadyH.nil
      refine step_append_src rfl (.tmp 15) (.tmp 17) rfl Tryz.underlying75 Tryz.info5q rfl (.slice (some ⟨z, 0, none⟩) 1 1) ([86].map bv) (by simp [Act.eval]) o0'.own _ CB.length (CB.map bv) (by simp [Act.eval]) (bB.src (P := Tryz.prog) Tryz.underlying75) (by simp; omega) (by simp [maxLen]; omega) ?_
      intro v3XD w3XD o3XD g3XD
      have F3XD := o0'.append (ys := CB) (Turn.refl _ _) (by simpa using o3XD) g3XD
      obtain ⟨a3XD, l3XD, c3XD, rfl⟩ := o3XD.form
      have HH3XD := F3XD.turn
      refine hK.out _ _ HH3XD (fun hHeld => ?_)
      clear hK
      refine wpAnyH_ready (rs := [5]) (by kernel_rfl) (by simp) ?_
      refine AllReadyH.cons rfl (fun K hK => ?_) AllReadyH.nil
      go_simp
      refine (HT.out.1 w3XD).mono ?_
      rintro e w5XD ⟨v5XD, rfl, F5XD⟩
      obtain ⟨a5XD, l5XD, c5XD, rfl⟩ := F5XD.form
      refine hK.out _ _ (hHeld.then_no F5XD.turn) (fun hHeld => ?_)
      clear hK
      have F6XD : Fr w2 w5XD (.slice a3XD l3XD c3XD) ([86] ++ CB) := ⟨F3XD.own.turn_no F5XD.turn, F3XD.new, hHeld⟩
      refine wpAnyH_ready (rs := [6]) (by kernel_rfl) (by simp) ?_
      refine AllReadyH.cons rfl (fun K hK => ?_) AllReadyH.nil
      refine step_append_src rfl (.tmp 18) (.tmp 20) rfl Tryz.underlying75 Tryz.info5q rfl (.slice a3XD l3XD c3XD) (([86] ++ CB).map bv) (by simp [Act.eval]) F6XD.own _ TB.length (TB.map bv) (by simp [Act.eval]) (F5XD.own.bs.src (P := Tryz.prog) Tryz.underlying75) (by simp; omega) (by simp [maxLen]; omega) ?_
      intro v7XD w7XD o7XD g7XD
      have F7XD := F6XD.append (ys := TB) (Turn.refl _ _) o7XD g7XD
      obtain ⟨a7XD, l7XD, c7XD, rfl⟩ := o7XD.form
      refine hK.out _ _ F7XD.turn (fun hHeld => ?_)
      clear hK
      refine wpAnyH_ready (rs := [7]) (by kernel_rfl) (by simp) ?_
      refine AllReadyH.cons rfl (fun K hK => ?_) AllReadyH.nil
      go_simp
      refine hK.out _ _ hHeld (fun hHeld => ?_)
      clear hK
      refine wpAnyH_ready (rs := [8]) (by kernel_rfl) (by simp) ?_
      refine AllReadyH.cons rfl (fun K hK => ?_) AllReadyH.nil
      go_simp
      refine hK.out _ _ hHeld (fun hHeld => ?_)
      clear hK
      refine wpAnyH_done (by kernel_rfl) ?_ _
      go_simp
      go_wp2_with fail
      go_ret2
      exact ⟨_, rfl, by simpa [List.append_assoc] using F7XD.own, fun g hg => Nat.le_trans t02.size (F7XD.new g hg), t02.then_no F7XD.turn⟩
  · rw [if_neg he]
    have he' : (plainSv ch x != 0) = true := by simpa using he
    cases hc : cB ch
    · have e1 : plainSv ch x = 41 := by unfold plainSv; rw [hc]; rfl
      rw [e1]
      generalize x.cs.toArray = C at *
      go_enter Tryz.func9, Tryz.ntmps9
      go_wp2_with (go_at_call 34; refine (named35 _ ch).mono ?_; rintro e w2 ⟨rfl, rfl⟩; rw [hc])
      go_ret2
      exact ⟨_, rfl, Own.nil _ _, fun g q => (by cases q), t0⟩
    · have e1 : plainSv ch x = plainE x := by unfold plainSv; rw [hc]; rfl
      rw [e1] at he' ⊢
      generalize plainE x = pe at *
      generalize x.cs = D at *
      go_enter Tryz.func9, Tryz.ntmps9
      go_wp2_with (first | (guard_target =~ wpList _ _ _ ({ dst := _, op := Op.load 43 _, .. } :: _) _ _; refine wpList_load_mid rfl 43 (.tmp 3) rfl w.heap.size 0 rfl D _ cr Tryz.underlying43 rfl hz ?_) | (go_at_call 34; refine (named35 _ ch).mono ?_; rintro e w2 ⟨rfl, rfl⟩; rw [hc]) | (go_at_call 35; refine (P _).mono ?_; rintro e w2 ⟨rfl, t2⟩))
      go_ret2
      exact ⟨_, rfl, Own.nil _ _, fun g q => (by cases q), t0.then_no t2⟩
end Go.Proofs.YtmghliakheniiaaGreatDoor

