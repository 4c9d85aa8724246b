/- Images: copied. -/
import Derived.Test.YtcdogciacchigaaB1
namespace Go.Proofs.Ytcdogciacchigaa
open Go.RowKit Go.Maps
set_option linter.unusedVariables false

set_option maxRecDepth 100000 in
set_option maxHeartbeats 8000000 in
theorem copied24 {B : Nat} {w : World} {v : Value} {fl : List Fi} (h : Im B w v fl) (hl : fl.length ≤ 65536) (hb : ∀ f ∈ fl, f.2.length ≤ 1073741824) : Calls Try.prog 24 #[.agg #[v]] w fun e w' => ∃ v', e = .returned (.agg #[v']) ∧ Im w.heap.size w' v' fl ∧ Turn no w w' := by
  obtain ⟨a1, c1, rfl, k1, m1⟩ := h.form
  obtain ⟨w3, hw3⟩ : ∃ w3, w3 = ((w.alloc (.cells #[.slice a1 fl.length c1] 36)).alloc (.cells #[.slice none 0 0] 36)).alloc (.cells #[.slice none 0 0] 36) := ⟨_, rfl⟩
  have t3 : Turn no w w3 := by rw [hw3]; exact (((Turn.refl no w).alloc _).alloc _).alloc _
  have hs3 : w3.heap.size = w.heap.size + 3 := by rw [hw3]; simp
  have R1 : Row w3 w.heap.size #[.slice a1 fl.length c1] 36 := by rw [hw3]; exact ((Row.new w _ 36).alloc _).alloc _
  have R2 : Row w3 (w.heap.size + 1) #[.slice none 0 0] 36 := by rw [hw3]; exact (Row.newAt _ _ _ _ (by simp)).alloc _
  have R3 : Row w3 (w.heap.size + 2) #[.slice none 0 0] 36 := by rw [hw3]; exact Row.newAt _ _ _ _ (by simp)
  have hsrc : ∀ W, Turn (fun k => w.heap.size ≤ k) w3 W → Im B W (.slice a1 fl.length c1) fl := fun W t => h.turn_no (t3.trans t (fun k hk q => by omega))
  have HS := shut hsrc
  have hbox : ∀ W, Turn (fun k => w.heap.size + 2 ≤ k) w3 W → W.cell? ⟨w.heap.size, 0, none⟩ = some (.slice a1 fl.length c1) := fun W t => (R1.turn t (fun q => by omega)).cell 0 _ rfl
  have HBX := shut hbox
  have HR2 := shut R2
  have hcount : fl.length ≤ 9223372036854775807 := by omega
  have hold : ∀ g, (Value.slice a1 fl.length c1).ownBlock = some g → g < w.heap.size := by
    obtain ⟨vs, h1, h2, h3, h4⟩ := h
    exact fun g hg => h2.lt hg
  clear hsrc hbox h R1 R2
  go_enter Try.func24, Try.ntmps24
  go_wp2_with fail
  try rw [← hw3]
  go_loopw [4] (fun x wr => ∃ (i : Nat) (iw : Value), i ≤ fl.length ∧ x = .int .i64 i ∧ Row wr (w.heap.size + 2) #[iw] 36 ∧ Im (w.heap.size + 3) wr iw (fl.take i) ∧ Turn (fun k => k = w.heap.size + 2) w3 wr) (fun x _ => fl.length - (intOf x).toNat)
  case atStart => exact ⟨0, .slice none 0 0, Nat.zero_le _, rfl, R3, by rw [List.take_zero]; exact Im.nil _ w3, Turn.refl _ _⟩
  case round =>
    obtain ⟨i, iw, hi, rfl, RI, hIm, TI⟩ := hrel
    have y1 := HBX.out wr (TI.mono (fun k _ q => by omega))
    have hIB : ∀ g, iw.ownBlock = some g → w.heap.size + 3 ≤ g := by
      obtain ⟨_, _, _, h3, _⟩ := id hIm
      exact h3
    obtain ⟨ia, ic, eiw, _⟩ := hIm.form
    rw [List.length_take, Nat.min_eq_left hi] at eiw
    subst eiw
    have hszr : w.heap.size + 3 ≤ wr.heap.size := by have := TI.size; omega
    by_cases hlt : i < fl.length
    · have hlt' : (i : Int) < (fl.length : Int) := by omega
      obtain ⟨f, hf⟩ : ∃ f, fl[i]? = some f := ⟨fl[i], List.getElem?_eq_getElem hlt⟩
      obtain ⟨g1, d1, b1, n1, x1, e1, p1, p2, p4⟩ := (HS.out wr (TI.mono (fun k _ q => by omega))).at27 i f hf
      have e1' : a1 = some ⟨g1, 0, none⟩ := by simp at e1; exact e1.1
      subst e1'
      have hbf := hb f (List.mem_of_getElem? hf)
      have hcl : fl.take (i + 1) = fl.take i ++ [(f.1, f.2)] := by rw [List.take_add_one, hf]; rfl
      have hg1 : g1 < w.heap.size := hold g1 rfl
      clear e1
      go_wp2_with (at_builtin; go_loud (refine wpList_append_src rfl (.tmp 13) (.tmp 19) rfl Try.underlying31 info5 rfl _ [] rfl (Own.nil _ 5) _ f.2.length _ rfl (p4.bs.src Try.underlying31) ?b ?m ?_))
      case b => simp; omega
      case m => unfold maxLen; simp; omega
      intro v5 w5 O5 g5 _
      have t5 : Turn no wr w5 := (Turn.refl no wr).fresh g5 (fun g hg => by cases hg)
      have f5 := g5.fresh (B := wr.heap.size) (fun g hg => by cases hg) (Nat.le_refl _)
      obtain ⟨xa, xn, xc, rfl⟩ := O5.slice
      have hIm5 := hIm.turn_no t5
      have RI5 := RI.turn t5 (fun q => q)
      have bx := RI5.cell 0 _ rfl
      have y5 : w5.cell? ⟨w.heap.size, 0, none⟩ = some (.slice (some ⟨g1, 0, none⟩) fl.length c1) := t5.keep y1 (fun q => q)
      have p5 : w5.cell? ⟨g1, i * 2, none⟩ = some (strV f.1) := t5.keep p1 (fun q => q)
      have happ : ∃ iw' w6, (∀ ty, (Builtin.append_ #[34, 34] ty #[.slice ia i ic, .slice (some ⟨w5.heap.size, 0, none⟩) 1 1]).run Try.prog (w5.drew.alloc (.cells #[strV f.1, .slice xa xn xc] 41)) = .ok iw' w6) ∧ Im (w.heap.size + 3) w6 iw' (fl.take (i + 1)) ∧ Turn (fun q => q = w.heap.size + 2 ∨ (Value.slice ia i ic).ownBlock = some q) w5 w6 ∧ Row w6 (w.heap.size + 2) #[.slice ia i ic] 36 ∧ ∃ a n c, iw' = .slice a n c := by
        have ta : Turn no w5 (w5.drew.alloc (.cells #[strV f.1, .slice xa xn xc] 41)) := ((Turn.refl no w5).drew).alloc _
        have s5 := t5.size
        obtain ⟨iw', w6, hr, hI6, hG6, hs6⟩ := (hIm5.turn_no ta).push (by rw [List.length_take]; omega) f.1 (.slice xa xn xc) f.2 (O5.turn_no ta) (fun g hg => by have := f5 g hg; omega) (by have := ta.size; omega) _ (src_file w5.drew f.1 (.slice xa xn xc) rfl)
        rw [← hcl] at hI6
        exact ⟨iw', w6, hr, hI6, ta.of_no.trans hG6.turn (fun k _ q => Or.inr q), (RI5.turn ta (fun q => q)).turn hG6.turn (fun q => by have := hIB _ q; omega), hs6⟩
      have HAPP : Shut (∃ iw' w6, (∀ ty, (Builtin.append_ #[34, 34] ty #[.slice ia i ic, .slice (some ⟨w5.heap.size, 0, none⟩) 1 1]).run Try.prog (w5.alloc (.cells #[strV f.1, .slice xa xn xc] 41)).drew = .ok iw' w6) ∧ Im (w.heap.size + 3) w6 iw' (fl.take (i + 1)) ∧ Turn (fun q => q = w.heap.size + 2 ∨ (Value.slice ia i ic).ownBlock = some q) w5 w6 ∧ Row w6 (w.heap.size + 2) #[.slice ia i ic] 36 ∧ ∃ a n c, iw' = .slice a n c) := happ
      have hS1 : ∀ W, Turn (fun q => q = w.heap.size + 2 ∨ (Value.slice ia i ic).ownBlock = some q) w5 W → W.cell? ⟨w.heap.size, 0, none⟩ = some (.slice (some ⟨g1, 0, none⟩) fl.length c1) := fun W t => t.keep y5 (fun q => by
        simp only at q
        rcases q with q | q
        · omega
        · have := hIB _ q; omega)
      have hS2 : ∀ W, Turn (fun q => q = w.heap.size + 2 ∨ (Value.slice ia i ic).ownBlock = some q) w5 W → W.cell? ⟨g1, i * 2, none⟩ = some (strV f.1) := fun W t => t.keep p5 (fun q => by
        simp only at q
        rcases q with q | q
        · omega
        · have := hIB _ q; omega)
      have bx' : (w5.alloc (.cells #[strV f.1, .slice xa xn xc] 41)).drew.cell? ⟨w.heap.size + 2, 0, none⟩ = some (.slice ia i ic) := (((Turn.refl no w5).alloc _).drew).keep bx (fun q => q)
      clear happ hIm5 hIm O5 y1 p1 p2 p4 g5
      unfold strV at *
      go_wp2_with fail
      refine wp_region_held_drew (S := fun W => Turn (fun q => q = w.heap.size + 2 ∨ (Value.slice ia i ic).ownBlock = some q) w5 W) (by kernel_rfl) (Turn.refl _ w5).drew (fun hHeld => ?_)
      refine' wpAnyH_take (i := 0) (v := .pointer (some ⟨w.heap.size + 2, 0, none⟩)) rfl (by kernel_rfl) (by kernel_rfl) (by kernel_rfl) (fun _ _ _ h => h) (Or.inl ⟨by kernel_rfl, fun W hW => ?y1⟩) hHeld ?r1
      · go_simp
      refine' wpAnyH_take (i := 2) (v := .pointer (some ⟨w.heap.size, 0, none⟩)) rfl (by kernel_rfl) (by kernel_rfl) (by kernel_rfl) (fun _ _ _ h => h) (Or.inl ⟨by kernel_rfl, fun W hW => ?y2⟩) hHeld ?r2
      · go_simp
      refine' wpAnyH_take (i := 3) (v := .slice (some ⟨g1, 0, none⟩) fl.length c1) rfl (by kernel_rfl) (by kernel_rfl) (by kernel_rfl) (fun _ _ _ h => h) (Or.inl ⟨by kernel_rfl, fun W hW => ?y3⟩) hHeld ?r3
      · have z := hS1 W hW
        go_simp
      refine' wpAnyH_take (i := 4) (v := .int .i64 i) rfl (by kernel_rfl) (by kernel_rfl) (by kernel_rfl) (fun _ _ _ h => h) (Or.inl ⟨by kernel_rfl, fun W hW => ?y4⟩) hHeld ?r4
      · go_simp
      refine' wpAnyH_take (i := 5) (v := .pointer (some ⟨g1, i * 2, none⟩)) rfl (by kernel_rfl) (by kernel_rfl) (by kernel_rfl) (fun _ _ _ h => h) (Or.inl ⟨by kernel_rfl, fun W hW => ?y5⟩) hHeld ?r5
      · go_simp
      refine' wpAnyH_take (i := 6) (v := .pointer (some ⟨g1, i * 2, none⟩)) rfl (by kernel_rfl) (by kernel_rfl) (by kernel_rfl) (fun _ _ _ h => h) (Or.inl ⟨by kernel_rfl, fun W hW => ?y6⟩) hHeld ?r6
      · go_simp
      refine' wpAnyH_take (i := 7) (v := .string ⟨f.1.toArray⟩) rfl (by kernel_rfl) (by kernel_rfl) (by kernel_rfl) (fun _ _ _ h => h) (Or.inl ⟨by kernel_rfl, fun W hW => ?y7⟩) hHeld ?r7
      · have z := hS2 W hW
        go_simp
      refine' wpAnyH_take (i := 8) (v := .slice xa xn xc) rfl (by kernel_rfl) (by kernel_rfl) (by kernel_rfl) (fun _ _ _ h => h) (Or.inl ⟨by kernel_rfl, fun W hW => ?y8⟩) hHeld ?r8
      · go_simp
      refine' wpAnyH_take (i := 9) (v := .agg #[.string ⟨f.1.toArray⟩, .slice xa xn xc]) rfl (by kernel_rfl) (by kernel_rfl) (by kernel_rfl) (fun _ _ _ h => h) (Or.inl ⟨by kernel_rfl, fun W hW => ?y9⟩) hHeld ?r9
      · go_simp
      refine wpAnyH_ready (rs := [1, 10]) (by kernel_rfl) (by simp) ?_
      refine AllReadyH.cons rfl (fun K hK => ?_) (AllReadyH.cons rfl (fun K hK => ?_) AllReadyH.nil)
      · go_simp
        refine hK.out _ _ hHeld (fun hHeld => ?_)
        clear hK
        refine wpAnyH_ready (rs := [10]) (by kernel_rfl) (by simp) ?_
        refine AllReadyH.cons rfl (fun K hK => ?_) AllReadyH.nil
        go_simp
        refine hK.out _ _ ((Turn.refl _ w5).alloc _).drew (fun hHeld => ?_)
        clear hK
        obtain ⟨iw', w6, hap6, hIm6, S6, RI6, ya, yn, yc, rfl⟩ := HAPP.out
        have bc := RI6.cell 0 _ rfl
        have bz := RI6.frozen 0
        refine wpAnyH_ready (rs := [11]) (by kernel_rfl) (by simp) ?_
        refine AllReadyH.cons rfl (fun K hK => ?_) AllReadyH.nil
        rw [if_pos (by rfl)]
        refine wp_append_run _ _ rfl _ _ rfl rfl (hap6 _) ?_
        refine hK.out _ _ S6 (fun hHeld => ?_)
        clear hK
        refine' wpAnyH_take (i := 12) (v := .pointer (some ⟨w.heap.size + 2, 0, none⟩)) rfl (by kernel_rfl) (by kernel_rfl) (by kernel_rfl) (fun _ _ _ h => h) (Or.inl ⟨by kernel_rfl, fun W hW => ?y10⟩) hHeld ?r10
        · go_simp
        refine wpAnyH_ready (rs := [13]) (by kernel_rfl) (by simp) ?_
        refine AllReadyH.cons rfl (fun K hK => ?_) AllReadyH.nil
        go_simp
        refine hK.out _ _ (S6.setCell (p := ⟨w.heap.size + 2, 0, none⟩) (fun _ => Or.inl rfl) _) (fun hHeld => ?_)
        clear hK
        refine wpAnyH_done (by kernel_rfl) ?_ _
        go_wp2_with fail
        go_roundw
        case rel => exact ⟨i + 1, _, by omega, by go_num, RI6.set 0 _, hIm6.other RI6 0 _, ((TI.then_no t5).trans S6 (fun k hk q => by
          rcases q with q | q
          · exact q
          · have := hIB k q; omega)).setCell (p := ⟨w.heap.size + 2, 0, none⟩) (fun _ => rfl) _⟩
        case measure => simp [intOf]; omega
      · go_simp
        refine hK.out _ _ ((Turn.refl _ w5).alloc _).drew (fun hHeld => ?_)
        clear hK
        refine wpAnyH_ready (rs := [1]) (by kernel_rfl) (by simp) ?_
        refine AllReadyH.cons rfl (fun K hK => ?_) AllReadyH.nil
        go_simp
        refine hK.out _ _ ((Turn.refl _ w5).alloc _).drew (fun hHeld => ?_)
        clear hK
        obtain ⟨iw', w6, hap6, hIm6, S6, RI6, ya, yn, yc, rfl⟩ := HAPP.out
        have bc := RI6.cell 0 _ rfl
        have bz := RI6.frozen 0
        refine wpAnyH_ready (rs := [11]) (by kernel_rfl) (by simp) ?_
        refine AllReadyH.cons rfl (fun K hK => ?_) AllReadyH.nil
        rw [if_pos (by rfl)]
        refine wp_append_run _ _ rfl _ _ rfl rfl (hap6 _) ?_
        refine hK.out _ _ S6 (fun hHeld => ?_)
        clear hK
        refine' wpAnyH_take (i := 12) (v := .pointer (some ⟨w.heap.size + 2, 0, none⟩)) rfl (by kernel_rfl) (by kernel_rfl) (by kernel_rfl) (fun _ _ _ h => h) (Or.inl ⟨by kernel_rfl, fun W hW => ?y11⟩) hHeld ?r11
        · go_simp
        refine wpAnyH_ready (rs := [13]) (by kernel_rfl) (by simp) ?_
        refine AllReadyH.cons rfl (fun K hK => ?_) AllReadyH.nil
        go_simp
        refine hK.out _ _ (S6.setCell (p := ⟨w.heap.size + 2, 0, none⟩) (fun _ => Or.inl rfl) _) (fun hHeld => ?_)
        clear hK
        refine wpAnyH_done (by kernel_rfl) ?_ _
        go_wp2_with fail
        go_roundw
        case rel => exact ⟨i + 1, _, by omega, by go_num, RI6.set 0 _, hIm6.other RI6 0 _, ((TI.then_no t5).trans S6 (fun k hk q => by
          rcases q with q | q
          · exact q
          · have := hIB k q; omega)).setCell (p := ⟨w.heap.size + 2, 0, none⟩) (fun _ => rfl) _⟩
        case measure => simp [intOf]; omega
    · have hlt' : ¬ (i : Int) < (fl.length : Int) := by omega
      obtain rfl : i = fl.length := by omega
      rw [List.take_length] at *
      have R2 := HR2.out.turn TI (fun q => by omega)
      have bx := RI.cell 0 _ rfl
      have b2 := R2.cell 0 _ rfl
      have b3 := R2.frozen 0
      have RF := R2.set 0 (.slice ia fl.length ic)
      have IF := hIm.other R2 0 (.slice ia fl.length ic)
      have TF : Turn no w (wr.setCell ⟨w.heap.size + 1, 0, none⟩ (.slice ia fl.length ic)) := (t3.trans TI (fun k hk q => by omega)).setCell (p := ⟨w.heap.size + 1, 0, none⟩) (fun q => by simp only at q; omega) _
      have HIF := shut IF
      have HRF := shut RF
      have HTF := shut TF
      clear IF RF TF hIm RI TI R2
      go_wp2_with fail
      refine ⟨rfl, _, results_cell_row (g := w.heap.size + 1) (cs := #[.slice ia fl.length ic]) (t := 36) rfl _ _ _ _ rfl HRF.out Try.underlying36 rfl (by kernel_rfl), _, rfl, ?_, HTF.out⟩
      obtain ⟨vs, i1, i2, i3, i4⟩ := HIF.out
      exact ⟨vs, i1, i2, fun g hg => by have := i3 g hg; omega, fun j f u hf hu => ⟨(i4 j f u hf hu).1, fun g hg => by have := (i4 j f u hf hu).2 g hg; omega⟩⟩
end Go.Proofs.Ytcdogciacchigaa
