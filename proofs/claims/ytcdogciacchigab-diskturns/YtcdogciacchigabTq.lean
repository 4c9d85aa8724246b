/- B2, Tu0, Tu1 in one. -/
import Derived.Test.YtcdogciacchigabBb
import Derived.Test.YtcdogciacchigabRq
-- Images: copied.
namespace Go.Proofs.Ytcdogciacchigab
open Go.RowKit Go.Maps
set_option linter.unusedVariables false

set_option maxRecDepth 100000 in
set_option maxHeartbeats 8000000 in
theorem copied24 {B : Nat} {w : World} {v : Value} {fl : List Fi} (h : Im B w v fl) (hl : fl.length ≤ 65536) (hb : ∀ f ∈ fl, f.2.length ≤ 1073741824) : Calls Try.prog 29 #[.agg #[v]] w fun e w' => ∃ v', e = .returned (.agg #[v']) ∧ Im w.heap.size w' v' fl ∧ Turn no w w' := by
  obtain ⟨a1, c1, rfl, k1, m1⟩ := h.form
  obtain ⟨w3, hw3⟩ : ∃ w3, w3 = ((w.alloc (.cells #[.slice a1 fl.length c1] 24)).alloc (.cells #[.slice none 0 0] 24)).alloc (.cells #[.slice none 0 0] 24) := ⟨_, rfl⟩
  have t3 : Turn no w w3 := by rw [hw3]; exact (((Turn.refl no w).alloc _).alloc _).alloc _
  have hs3 : w3.heap.size = w.heap.size + 3 := by rw [hw3]; simp
  have R1 : Row w3 w.heap.size #[.slice a1 fl.length c1] 24 := by rw [hw3]; exact ((Row.new w _ 24).alloc _).alloc _
  have R2 : Row w3 (w.heap.size + 1) #[.slice none 0 0] 24 := by rw [hw3]; exact (Row.newAt _ _ _ _ (by simp)).alloc _
  have R3 : Row w3 (w.heap.size + 2) #[.slice none 0 0] 24 := by rw [hw3]; exact Row.newAt _ _ _ _ (by simp)
  have hsrc : ∀ W, Turn (fun k => w.heap.size ≤ k) w3 W → Im B W (.slice a1 fl.length c1) fl := fun W t => h.turn_no (t3.trans t (fun k hk q => by omega))
  have HS := shut hsrc
  have hbox : ∀ W, Turn (fun k => w.heap.size + 2 ≤ k) w3 W → W.cell? ⟨w.heap.size, 0, none⟩ = some (.slice a1 fl.length c1) := fun W t => (R1.turn t (fun q => by omega)).cell 0 _ rfl
  have HBX := shut hbox
  have HR2 := shut R2
  have hcount : fl.length ≤ 9223372036854775807 := by omega
  have hold : ∀ g, (Value.slice a1 fl.length c1).ownBlock = some g → g < w.heap.size := by
    obtain ⟨vs, h1, h2, h3, h4⟩ := h
    exact fun g hg => h2.lt hg
  clear hsrc hbox h R1 R2
  go_enter Try.func29, Try.ntmps29
  go_wp2_with fail
  try rw [← hw3]
  go_loopw [4] (fun x wr => ∃ (i : Nat) (iw : Value), i ≤ fl.length ∧ x = .int .i64 i ∧ Row wr (w.heap.size + 2) #[iw] 24 ∧ Im (w.heap.size + 3) wr iw (fl.take i) ∧ Turn (fun k => k = w.heap.size + 2) w3 wr) (fun x _ => fl.length - (intOf x).toNat)
  case atStart => exact ⟨0, .slice none 0 0, Nat.zero_le _, rfl, R3, by rw [List.take_zero]; exact Im.nil _ w3, Turn.refl _ _⟩
  case round =>
    obtain ⟨i, iw, hi, rfl, RI, hIm, TI⟩ := hrel
    have y1 := HBX.out wr (TI.mono (fun k _ q => by omega))
    have hIB : ∀ g, iw.ownBlock = some g → w.heap.size + 3 ≤ g := by
      obtain ⟨_, _, _, h3, _⟩ := id hIm
      exact h3
    obtain ⟨ia, ic, eiw, _⟩ := hIm.form
    rw [List.length_take, Nat.min_eq_left hi] at eiw
    subst eiw
    have hszr : w.heap.size + 3 ≤ wr.heap.size := by have := TI.size; omega
    by_cases hlt : i < fl.length
    · have hlt' : (i : Int) < (fl.length : Int) := by omega
      obtain ⟨f, hf⟩ : ∃ f, fl[i]? = some f := ⟨fl[i], List.getElem?_eq_getElem hlt⟩
      obtain ⟨g1, d1, b1, n1, x1, e1, p1, p2, p4⟩ := (HS.out wr (TI.mono (fun k _ q => by omega))).at27 i f hf
      have e1' : a1 = some ⟨g1, 0, none⟩ := by simp at e1; exact e1.1
      subst e1'
      have hbf := hb f (List.mem_of_getElem? hf)
      have hcl : fl.take (i + 1) = fl.take i ++ [(f.1, f.2)] := by rw [List.take_add_one, hf]; rfl
      have hg1 : g1 < w.heap.size := hold g1 rfl
      clear e1
      go_wp2_with (at_builtin; go_loud (refine wpList_append_src rfl (.tmp 13) (.tmp 19) rfl Try.underlying28 info5 rfl _ [] rfl (Own.nil _ 5) _ f.2.length _ rfl (p4.bs.src Try.underlying28) ?b ?m ?_))
      case b => simp; omega
      case m => unfold maxLen; simp; omega
      intro v5 w5 O5 g5 _
      have t5 : Turn no wr w5 := (Turn.refl no wr).fresh g5 (fun g hg => by cases hg)
      have f5 := g5.fresh (B := wr.heap.size) (fun g hg => by cases hg) (Nat.le_refl _)
      obtain ⟨xa, xn, xc, rfl⟩ := O5.slice
      have hIm5 := hIm.turn_no t5
      have RI5 := RI.turn t5 (fun q => q)
      have bx := RI5.cell 0 _ rfl
      have y5 : w5.cell? ⟨w.heap.size, 0, none⟩ = some (.slice (some ⟨g1, 0, none⟩) fl.length c1) := t5.keep y1 (fun q => q)
      have p5 : w5.cell? ⟨g1, i * 2, none⟩ = some (strV f.1) := t5.keep p1 (fun q => q)
      have happ : ∃ iw' w6, (∀ ty, (Builtin.append_ #[22, 22] ty #[.slice ia i ic, .slice (some ⟨w5.heap.size, 0, none⟩) 1 1]).run Try.prog (w5.drew.alloc (.cells #[strV f.1, .slice xa xn xc] 66)) = .ok iw' w6) ∧ Im (w.heap.size + 3) w6 iw' (fl.take (i + 1)) ∧ Turn (fun q => q = w.heap.size + 2 ∨ (Value.slice ia i ic).ownBlock = some q) w5 w6 ∧ Row w6 (w.heap.size + 2) #[.slice ia i ic] 24 ∧ ∃ a n c, iw' = .slice a n c := by
        have ta : Turn no w5 (w5.drew.alloc (.cells #[strV f.1, .slice xa xn xc] 66)) := ((Turn.refl no w5).drew).alloc _
        have s5 := t5.size
        obtain ⟨iw', w6, hr, hI6, hG6, hs6⟩ := (hIm5.turn_no ta).push (by rw [List.length_take]; omega) f.1 (.slice xa xn xc) f.2 (O5.turn_no ta) (fun g hg => by have := f5 g hg; omega) (by have := ta.size; omega) _ (src_file w5.drew f.1 (.slice xa xn xc) rfl)
        rw [← hcl] at hI6
        exact ⟨iw', w6, hr, hI6, ta.of_no.trans hG6.turn (fun k _ q => Or.inr q), (RI5.turn ta (fun q => q)).turn hG6.turn (fun q => by have := hIB _ q; omega), hs6⟩
      have HAPP : Shut (∃ iw' w6, (∀ ty, (Builtin.append_ #[22, 22] ty #[.slice ia i ic, .slice (some ⟨w5.heap.size, 0, none⟩) 1 1]).run Try.prog (w5.alloc (.cells #[strV f.1, .slice xa xn xc] 66)).drew = .ok iw' w6) ∧ Im (w.heap.size + 3) w6 iw' (fl.take (i + 1)) ∧ Turn (fun q => q = w.heap.size + 2 ∨ (Value.slice ia i ic).ownBlock = some q) w5 w6 ∧ Row w6 (w.heap.size + 2) #[.slice ia i ic] 24 ∧ ∃ a n c, iw' = .slice a n c) := happ
      have hS1 : ∀ W, Turn (fun q => q = w.heap.size + 2 ∨ (Value.slice ia i ic).ownBlock = some q) w5 W → W.cell? ⟨w.heap.size, 0, none⟩ = some (.slice (some ⟨g1, 0, none⟩) fl.length c1) := fun W t => t.keep y5 (fun q => by
        simp only at q
        rcases q with q | q
        · omega
        · have := hIB _ q; omega)
      have hS2 : ∀ W, Turn (fun q => q = w.heap.size + 2 ∨ (Value.slice ia i ic).ownBlock = some q) w5 W → W.cell? ⟨g1, i * 2, none⟩ = some (strV f.1) := fun W t => t.keep p5 (fun q => by
        simp only at q
        rcases q with q | q
        · omega
        · have := hIB _ q; omega)
      have bx' : (w5.alloc (.cells #[strV f.1, .slice xa xn xc] 66)).drew.cell? ⟨w.heap.size + 2, 0, none⟩ = some (.slice ia i ic) := (((Turn.refl no w5).alloc _).drew).keep bx (fun q => q)
      clear happ hIm5 hIm O5 y1 p1 p2 p4 g5
      unfold strV at *
      go_wp2_with fail
      refine wp_region_held_drew (S := fun W => Turn (fun q => q = w.heap.size + 2 ∨ (Value.slice ia i ic).ownBlock = some q) w5 W) (by kernel_rfl) (Turn.refl _ w5).drew (fun hHeld => ?_)
      refine' wpAnyH_take (i := 0) (v := .pointer (some ⟨w.heap.size + 2, 0, none⟩)) rfl (by kernel_rfl) (by kernel_rfl) (by kernel_rfl) (fun _ _ _ h => h) (Or.inl ⟨by kernel_rfl, fun W hW => ?y1⟩) hHeld ?r1
      · go_simp
      refine' wpAnyH_take (i := 2) (v := .pointer (some ⟨w.heap.size, 0, none⟩)) rfl (by kernel_rfl) (by kernel_rfl) (by kernel_rfl) (fun _ _ _ h => h) (Or.inl ⟨by kernel_rfl, fun W hW => ?y2⟩) hHeld ?r2
      · go_simp
      refine' wpAnyH_take (i := 3) (v := .slice (some ⟨g1, 0, none⟩) fl.length c1) rfl (by kernel_rfl) (by kernel_rfl) (by kernel_rfl) (fun _ _ _ h => h) (Or.inl ⟨by kernel_rfl, fun W hW => ?y3⟩) hHeld ?r3
      · have z := hS1 W hW
        go_simp
      refine' wpAnyH_take (i := 4) (v := .int .i64 i) rfl (by kernel_rfl) (by kernel_rfl) (by kernel_rfl) (fun _ _ _ h => h) (Or.inl ⟨by kernel_rfl, fun W hW => ?y4⟩) hHeld ?r4
      · go_simp
      refine' wpAnyH_take (i := 5) (v := .pointer (some ⟨g1, i * 2, none⟩)) rfl (by kernel_rfl) (by kernel_rfl) (by kernel_rfl) (fun _ _ _ h => h) (Or.inl ⟨by kernel_rfl, fun W hW => ?y5⟩) hHeld ?r5
      · go_simp
      refine' wpAnyH_take (i := 6) (v := .pointer (some ⟨g1, i * 2, none⟩)) rfl (by kernel_rfl) (by kernel_rfl) (by kernel_rfl) (fun _ _ _ h => h) (Or.inl ⟨by kernel_rfl, fun W hW => ?y6⟩) hHeld ?r6
      · go_simp
      refine' wpAnyH_take (i := 7) (v := .string ⟨f.1.toArray⟩) rfl (by kernel_rfl) (by kernel_rfl) (by kernel_rfl) (fun _ _ _ h => h) (Or.inl ⟨by kernel_rfl, fun W hW => ?y7⟩) hHeld ?r7
      · have z := hS2 W hW
        go_simp
      refine' wpAnyH_take (i := 8) (v := .slice xa xn xc) rfl (by kernel_rfl) (by kernel_rfl) (by kernel_rfl) (fun _ _ _ h => h) (Or.inl ⟨by kernel_rfl, fun W hW => ?y8⟩) hHeld ?r8
      · go_simp
      refine' wpAnyH_take (i := 9) (v := .agg #[.string ⟨f.1.toArray⟩, .slice xa xn xc]) rfl (by kernel_rfl) (by kernel_rfl) (by kernel_rfl) (fun _ _ _ h => h) (Or.inl ⟨by kernel_rfl, fun W hW => ?y9⟩) hHeld ?r9
      · go_simp
      refine wpAnyH_ready (rs := [1, 10]) (by kernel_rfl) (by simp) ?_
      refine AllReadyH.cons rfl (fun K hK => ?_) (AllReadyH.cons rfl (fun K hK => ?_) AllReadyH.nil)
      · go_simp
        refine hK.out _ _ hHeld (fun hHeld => ?_)
        clear hK
        refine wpAnyH_ready (rs := [10]) (by kernel_rfl) (by simp) ?_
        refine AllReadyH.cons rfl (fun K hK => ?_) AllReadyH.nil
        go_simp
        refine hK.out _ _ ((Turn.refl _ w5).alloc _).drew (fun hHeld => ?_)
        clear hK
        obtain ⟨iw', w6, hap6, hIm6, S6, RI6, ya, yn, yc, rfl⟩ := HAPP.out
        have bc := RI6.cell 0 _ rfl
        have bz := RI6.frozen 0
        refine wpAnyH_ready (rs := [11]) (by kernel_rfl) (by simp) ?_
        refine AllReadyH.cons rfl (fun K hK => ?_) AllReadyH.nil
        rw [if_pos (by rfl)]
        refine wp_append_run _ _ rfl _ _ rfl rfl (hap6 _) ?_
        refine hK.out _ _ S6 (fun hHeld => ?_)
        clear hK
        refine' wpAnyH_take (i := 12) (v := .pointer (some ⟨w.heap.size + 2, 0, none⟩)) rfl (by kernel_rfl) (by kernel_rfl) (by kernel_rfl) (fun _ _ _ h => h) (Or.inl ⟨by kernel_rfl, fun W hW => ?y10⟩) hHeld ?r10
        · go_simp
        refine wpAnyH_ready (rs := [13]) (by kernel_rfl) (by simp) ?_
        refine AllReadyH.cons rfl (fun K hK => ?_) AllReadyH.nil
        go_simp
        refine hK.out _ _ (S6.setCell (p := ⟨w.heap.size + 2, 0, none⟩) (fun _ => Or.inl rfl) _) (fun hHeld => ?_)
        clear hK
        refine wpAnyH_done (by kernel_rfl) ?_ _
        go_wp2_with fail
        go_roundw
        case rel => exact ⟨i + 1, _, by omega, by go_num, RI6.set 0 _, hIm6.other RI6 0 _, ((TI.then_no t5).trans S6 (fun k hk q => by
          rcases q with q | q
          · exact q
          · have := hIB k q; omega)).setCell (p := ⟨w.heap.size + 2, 0, none⟩) (fun _ => rfl) _⟩
        case measure => simp [intOf]; omega
      · go_simp
        refine hK.out _ _ ((Turn.refl _ w5).alloc _).drew (fun hHeld => ?_)
        clear hK
        refine wpAnyH_ready (rs := [1]) (by kernel_rfl) (by simp) ?_
        refine AllReadyH.cons rfl (fun K hK => ?_) AllReadyH.nil
        go_simp
        refine hK.out _ _ ((Turn.refl _ w5).alloc _).drew (fun hHeld => ?_)
        clear hK
        obtain ⟨iw', w6, hap6, hIm6, S6, RI6, ya, yn, yc, rfl⟩ := HAPP.out
        have bc := RI6.cell 0 _ rfl
        have bz := RI6.frozen 0
        refine wpAnyH_ready (rs := [11]) (by kernel_rfl) (by simp) ?_
        refine AllReadyH.cons rfl (fun K hK => ?_) AllReadyH.nil
        rw [if_pos (by rfl)]
        refine wp_append_run _ _ rfl _ _ rfl rfl (hap6 _) ?_
        refine hK.out _ _ S6 (fun hHeld => ?_)
        clear hK
        refine' wpAnyH_take (i := 12) (v := .pointer (some ⟨w.heap.size + 2, 0, none⟩)) rfl (by kernel_rfl) (by kernel_rfl) (by kernel_rfl) (fun _ _ _ h => h) (Or.inl ⟨by kernel_rfl, fun W hW => ?y11⟩) hHeld ?r11
        · go_simp
        refine wpAnyH_ready (rs := [13]) (by kernel_rfl) (by simp) ?_
        refine AllReadyH.cons rfl (fun K hK => ?_) AllReadyH.nil
        go_simp
        refine hK.out _ _ (S6.setCell (p := ⟨w.heap.size + 2, 0, none⟩) (fun _ => Or.inl rfl) _) (fun hHeld => ?_)
        clear hK
        refine wpAnyH_done (by kernel_rfl) ?_ _
        go_wp2_with fail
        go_roundw
        case rel => exact ⟨i + 1, _, by omega, by go_num, RI6.set 0 _, hIm6.other RI6 0 _, ((TI.then_no t5).trans S6 (fun k hk q => by
          rcases q with q | q
          · exact q
          · have := hIB k q; omega)).setCell (p := ⟨w.heap.size + 2, 0, none⟩) (fun _ => rfl) _⟩
        case measure => simp [intOf]; omega
    · have hlt' : ¬ (i : Int) < (fl.length : Int) := by omega
      obtain rfl : i = fl.length := by omega
      rw [List.take_length] at *
      have R2 := HR2.out.turn TI (fun q => by omega)
      have bx := RI.cell 0 _ rfl
      have b2 := R2.cell 0 _ rfl
      have b3 := R2.frozen 0
      have RF := R2.set 0 (.slice ia fl.length ic)
      have IF := hIm.other R2 0 (.slice ia fl.length ic)
      have TF : Turn no w (wr.setCell ⟨w.heap.size + 1, 0, none⟩ (.slice ia fl.length ic)) := (t3.trans TI (fun k hk q => by omega)).setCell (p := ⟨w.heap.size + 1, 0, none⟩) (fun q => by simp only at q; omega) _
      have HIF := shut IF
      have HRF := shut RF
      have HTF := shut TF
      clear IF RF TF hIm RI TI R2
      go_wp2_with fail
      refine ⟨rfl, _, results_cell_row (g := w.heap.size + 1) (cs := #[.slice ia fl.length ic]) (t := 24) rfl _ _ _ _ rfl HRF.out Try.underlying24 rfl (by kernel_rfl), _, rfl, ?_, HTF.out⟩
      obtain ⟨vs, i1, i2, i3, i4⟩ := HIF.out
      exact ⟨vs, i1, i2, fun g hg => by have := i3 g hg; omega, fun j f u hf hu => ⟨(i4 j f u hf hu).1, fun g hg => by have := (i4 j f u hf hu).2 g hg; omega⟩⟩
end Go.Proofs.Ytcdogciacchigab

-- DiskTurns, the plain part.
namespace Go.Proofs.Ytcdogciacchigab
open Go.RowKit Go.Maps
set_option linter.unusedVariables false

/-- A disk of the law, with no trouble armed. -/
structure Tc (s : St) (u n : Nat) : Prop where
  arms : s.arms = []
  off : s.off = false
  out : s.out = false
  lim : s.lim = 1048576
  sorted : Sorted s.fs
  used : usedF s.fs ≤ u
  len : s.fs.length ≤ n
  num : s.n ≤ n
  m : s.m = 0
theorem Tc.start : Tc (newSt 1048576) 0 0 := ⟨rfl, rfl, rfl, rfl, List.Pairwise.nil, Nat.le_refl _, Nat.le_refl _, Nat.le_refl _, rfl⟩
theorem Tc.numb {s : St} {u n : Nat} (h : Tc s u n) (l : List Pf) : numb s l = ({ s with n := s.n + 1, fs := l }, 0) := by
  have e := h.arms
  obtain ⟨lim, fs, k, arms, m, off, out⟩ := s
  simp only at e
  subst e
  rfl
theorem Tc.asked {s : St} {u n : Nat} (h : Tc s u n) {nm : Nm} (hn : isNm nm = true) : asked s nm = 0 := by
  unfold Ytcdogciacchigab.asked
  rw [h.off, hn]
  rfl
theorem Tc.app {s : St} {u n : Nat} (h : Tc s u n) {nm : Nm} (hn : isNm nm = true) {d : List UInt8} (hd : d.length ≤ 5000) (hu : u ≤ 100000) (hl : n ≤ 100) : Tc (appS s nm d).1 (u + 5000) (n + 1) := by
  have h1 := h.used
  have h2 := h.len
  have h3 := h.lim
  have h4 := h.num
  have hf : fitsB s nm d.length = true := by
    unfold fitsB
    rw [Bool.and_eq_true, Bool.or_eq_true]
    exact ⟨decide_eq_true (by omega), Or.inr (decide_eq_true (by omega))⟩
  unfold appS
  rw [if_neg (by rw [h.asked hn]; simp), if_neg (by rw [hf]; simp), h.numb]
  have hp := used_putF ⟨nm, (fileOf s.fs nm).bs ++ d, (fileOf s.fs nm).sy⟩ s.fs h.sorted
  have hl2 := length_putF ⟨nm, (fileOf s.fs nm).bs ++ d, (fileOf s.fs nm).sy⟩ s.fs h.sorted
  simp only [List.length_append, fileOf_len] at hp
  refine ⟨h.arms, h.off, h.out, h.lim, sorted_putF h.sorted _, ?_, ?_, ?_, h.m⟩
  · show usedF (appL s.fs nm d) ≤ _
    unfold appL
    omega
  · show (appL s.fs nm d).length ≤ _
    unfold appL
    rw [hl2]
    split <;> omega
  · show s.n + 1 ≤ n + 1
    omega
theorem Tc.repl {s : St} {u n : Nat} (h : Tc s u n) {nm : Nm} (hn : isNm nm = true) {d : List UInt8} (hd : d.length ≤ 5000) (hu : u ≤ 100000) (hl : n ≤ 100) : Tc (replS s nm d).1 (u + 5000) (n + 1) ∧ (replS s nm d).2 = 0 := by
  have h1 := h.used
  have h2 := h.len
  have h3 := h.lim
  have h4 := h.num
  have hf : fitsB s nm ((d.length : Int) - (lenF nm s.fs : Int)) = true := by
    unfold fitsB
    rw [Bool.and_eq_true, Bool.or_eq_true]
    exact ⟨decide_eq_true (by omega), Or.inr (decide_eq_true (by omega))⟩
  unfold replS
  rw [if_neg (by rw [h.asked hn]; simp), if_neg (by rw [hf]; simp), h.numb]
  have hp := used_putF ⟨nm, d, d.length⟩ s.fs h.sorted
  have hl2 := length_putF ⟨nm, d, d.length⟩ s.fs h.sorted
  simp only at hp
  refine ⟨⟨h.arms, h.off, h.out, h.lim, sorted_putF h.sorted _, ?_, ?_, ?_, h.m⟩, rfl⟩
  · show usedF (putF ⟨nm, d, d.length⟩ s.fs) ≤ _
    omega
  · show (putF ⟨nm, d, d.length⟩ s.fs).length ≤ _
    rw [hl2]
    split <;> omega
  · show s.n + 1 ≤ n + 1
    omega
/-- Files as a crash leaves them, with whatever bytes. -/
structure Lk (fs : List Pf) (fl : List Fi) : Prop where
  names : fl.map (·.1) = fs.map Pf.nm
  short : ∀ (i : Nat) (f : Pf) (x : Fi), fs[i]? = some f → fl[i]? = some x → x.2.length ≤ f.bs.length
theorem Lk.len {fs : List Pf} {fl : List Fi} (h : Lk fs fl) : fl.length = fs.length := by simpa using congrArg List.length h.names
theorem Lk.crash (fs : List Pf) (keep : List Int) (junk : UInt8) : Lk fs (crashL fs keep junk) := by
  refine ⟨?_, fun i f x hf hx => ?_⟩
  · unfold crashL
    apply List.ext_getElem?
    intro j
    rw [List.getElem?_map, List.getElem?_mapIdx, List.getElem?_map, Option.map_map]
    rfl
  · rw [crashL_at _ _ _ _ _ hf] at hx
    cases hx
    exact left_short ..
theorem Lk.set {fs : List Pf} {fl : List Fi} (h : Lk fs fl) {i : Nat} {x : Fi} (hx : fl[i]? = some x) (ys : List UInt8) (hy : ys.length = x.2.length) : Lk fs (fl.set i (x.1, ys)) := by
  refine ⟨?_, fun j f z hf hz => ?_⟩
  · rw [← h.names]
    apply List.ext_getElem?
    intro j
    rw [List.getElem?_map, List.getElem?_map, List.getElem?_set]
    by_cases hj : i = j
    · subst hj
      have := (List.getElem?_eq_some_iff.1 hx).1
      rw [if_pos rfl, if_pos this, hx]
      rfl
    · rw [if_neg hj]
  · by_cases hj : i = j
    · subst hj
      have hi := (List.getElem?_eq_some_iff.1 hx).1
      rw [List.getElem?_set_self hi] at hz
      cases hz
      simp only
      have := h.short i f x hf hx
      omega
    · rw [List.getElem?_set_ne hj] at hz
      exact h.short j f z hf hz
theorem Lk.mount {s : St} {l : List Fx} (hI : Inv s) (hlim : s.lim = 1048576) (h : Lk s.fs (l.map (fun f => (f.nm, f.bs)))) : mOk 1048576 l = true ∧ (mSt 1048576 l).fs = l.map fxP := by
  have hn : l.map Fx.nm = s.fs.map Pf.nm := by
    have := h.names
    rw [List.map_map] at this
    exact this
  have hs : (l.map Fx.nm).Pairwise (· < ·) := by rw [hn, List.pairwise_map]; exact hI.sorted
  have hlen : l.length = s.fs.length := by simpa using congrArg List.length hn
  have hu : (l.map (fun f => f.bs.length)).sum ≤ usedF s.fs := by
    unfold usedF
    refine sum_le _ _ (by rw [List.length_map, List.length_map, hlen]) (fun i x y hx hy => ?_)
    rw [List.getElem?_map, Option.map_eq_some_iff] at hx hy
    obtain ⟨u, hu, rfl⟩ := hx
    obtain ⟨f, hf, rfl⟩ := hy
    exact h.short i f (u.nm, u.bs) hf (by simp [hu])
  have hused := hI.used
  have hcnt := hI.count
  constructor
  · unfold mOk
    rw [Bool.and_eq_true, Bool.and_eq_true]
    refine ⟨⟨?_, by decide⟩, ?_⟩
    · unfold ordB
      rw [List.all_eq_true]
      intro k hk
      have hk' : k < (l.map Fx.nm).length := by simpa using hk
      unfold okAt
      rw [Bool.and_eq_true]
      constructor
      · rw [List.getD_eq_getElem?_getD, List.getElem?_eq_getElem hk', Option.getD_some]
        have hm : (l.map Fx.nm)[k] ∈ s.fs.map Pf.nm := by rw [← hn]; exact List.getElem_mem _
        obtain ⟨f, hf, e⟩ := List.mem_map.1 hm
        rw [← e]
        exact hI.names f hf
      · by_cases h0 : k = 0
        · simp [h0]
        · have := List.pairwise_iff_getElem.1 hs (k - 1) k (by omega) hk' (by omega)
          rw [List.getD_eq_getElem?_getD, List.getElem?_eq_getElem hk', Option.getD_some, List.getD_eq_getElem?_getD, List.getElem?_eq_getElem (show k - 1 < (l.map Fx.nm).length by omega), Option.getD_some]
          have h9 : ¬ (l.map Fx.nm)[k] ≤ (l.map Fx.nm)[k - 1] := fun z => z this
          rw [decide_eq_false h9]
          simp
    · rw [List.all_eq_true]
      intro j hj
      have hj' : j < l.length := by simpa using hj
      have hf : l[j]? = some l[j] := List.getElem?_eq_getElem hj'
      unfold fitAt
      rw [hf]
      simp only
      have e : (mSt (1048576 : Int).toNat (l.take j)).fs = (l.take j).map fxP := mF_sorted l hs j
      unfold fitsB
      rw [e]
      have hsum : usedF ((l.take j).map fxP) + l[j].bs.length ≤ 1048576 := by
        have h1 : usedF ((l.take j).map fxP) + l[j].bs.length = ((l.map (fun f => f.bs.length)).take (j + 1)).sum := by
          rw [← List.map_take, List.take_add_one, hf, Option.toList_some, List.map_append, List.sum_append]
          unfold usedF
          rw [List.map_map]
          simp [fxP, Function.comp_def]
        have h2 := sum_take (l.map (fun f => f.bs.length)) (j + 1)
        omega
      have hl2 : ((l.take j).map fxP).length < 65536 := by
        rw [List.length_map, List.length_take]
        omega
      rw [Bool.and_eq_true, Bool.or_eq_true]
      refine ⟨decide_eq_true ?_, Or.inr (decide_eq_true hl2)⟩
      show (l[j].bs.length : Int) ≤ ((1048576 : Nat) : Int) - _
      omega
  · have e := mF_sorted l hs l.length
    rw [List.take_length] at e
    exact e
/-- What a mounted disk tells of a file. -/
theorem mount_read {l : List Fx} (hI : Inv (mSt 1048576 l)) (hm : (mSt 1048576 l).fs = l.map fxP) {i : Nat} {f : Fx} (hf : l[i]? = some f) : foundE (mSt 1048576 l) f.nm = 0 ∧ readS (mSt 1048576 l) f.nm = f.bs := by
  have hmem : fxP f ∈ (mSt 1048576 l).fs := by rw [hm]; exact List.mem_map.2 ⟨f, List.mem_of_getElem? hf, rfl⟩
  have hg := getF_of_mem hI.sorted hmem
  have hg' : getF f.nm (mSt 1048576 l).fs = some (fxP f) := hg
  have hnm := hI.names _ hmem
  have ha : asked (mSt 1048576 l) f.nm = 0 := by
    unfold asked
    rw [show isNm f.nm = true from hnm]
    rfl
  have hF : foundE (mSt 1048576 l) f.nm = 0 := by
    unfold foundE
    rw [ha, hg']
    rfl
  refine ⟨hF, ?_⟩
  unfold readS fileOf
  rw [if_pos hF, hg']
  rfl
end Go.Proofs.Ytcdogciacchigab

-- Crash, with the files' bytes each in a block of its own.
namespace Go.Proofs.Ytcdogciacchigab
open Go.RowKit Go.Maps
set_option linter.unusedVariables false

/-- As Im, each file's bytes in a block of their own. -/
def ImD (B : Nat) (w : World) (v : Value) (l : List Fi) : Prop :=
  ∃ vs, vs.length = l.length ∧ OwnN w 66 2 v l.length (imC l vs) ∧ (∀ g, v.ownBlock = some g → B ≤ g) ∧ (∀ (j : Nat) (f : Fi) (u : Value), l[j]? = some f → vs[j]? = some u → Own w 5 u (f.2.map bv) ∧ ∀ g, u.ownBlock = some g → B ≤ g) ∧ ∀ (i j : Nat) (u u' : Value), i < j → vs[i]? = some u → vs[j]? = some u' → ∀ g, u.ownBlock = some g → u'.ownBlock ≠ some g
theorem ImD.im {B : Nat} {w : World} {v : Value} {l : List Fi} (h : ImD B w v l) : Im B w v l := by
  obtain ⟨vs, h1, h2, h3, h4, _⟩ := h
  exact ⟨vs, h1, h2, h3, h4⟩
theorem ImD.nil (B : Nat) (w : World) : ImD B w (.slice none 0 0) [] := ⟨[], rfl, OwnN.nil w 66 2, (fun g hg => by cases hg), (fun j f u hf => by simp at hf), fun i j u u' _ hu => by simp at hu⟩
theorem ImD.turn {B : Nat} {S : Nat → Prop} {w w' : World} {v : Value} {l : List Fi} (h : ImD B w v l) (t : Turn S w w') (hS : ∀ k, S k → k < B) : ImD B w' v l := by
  obtain ⟨vs, h1, h2, h3, h4, h5⟩ := h
  refine ⟨vs, h1, h2.turn t (fun g hg q => by have := h3 g hg; have := hS g q; omega), h3, fun j f u hf hu => ?_, h5⟩
  obtain ⟨a, b⟩ := h4 j f u hf hu
  exact ⟨a.turn t (fun g hg q => by have := b g hg; have := hS g q; omega), b⟩
theorem ImD.turn_no {B : Nat} {w w' : World} {v : Value} {l : List Fi} (h : ImD B w v l) (t : Turn no w w') : ImD B w' v l := h.turn t (fun _ q => q.elim)
theorem ImD.push {B : Nat} {W0 W : World} {iw : Value} {l : List Fi} (h0 : ImD B W0 iw l) (t0 : Turn no W0 W) {u : Value} (hfr : ∀ g, u.ownBlock = some g → W0.heap.size ≤ g) (hl : l.length < 65536) (nm : Nm) (u' : Value) (bs : List UInt8) (hu : Own W 5 u (bs.map bv)) (hub : ∀ g, u.ownBlock = some g → B ≤ g) (hBW : B ≤ W.heap.size) (x : Value) (hx : Src Try.prog 2 22 x 1 [strV nm, u] W) (hu' : u' = u := by rfl) :
    ∃ iw' w', (∀ ty, (Builtin.append_ #[22, 22] ty #[iw, x]).run Try.prog W = .ok iw' w') ∧ ImD B w' iw' (l ++ [(nm, bs)]) ∧ Grew W w' iw iw' ∧ ∃ a n c, iw' = .slice a n c := by
  have hlt : ∀ (vs : List Value), vs.length = l.length → (∀ (j : Nat) (f : Fi) (u : Value), l[j]? = some f → vs[j]? = some u → Own W0 5 u (f.2.map bv) ∧ ∀ g, u.ownBlock = some g → B ≤ g) → ∀ (j : Nat) (z : Value), vs[j]? = some z → ∀ g, z.ownBlock = some g → g < W0.heap.size := fun vs h1 h4 j z hz g hg => by
    have hj := (List.getElem?_eq_some_iff.1 hz).1
    obtain ⟨f, hf⟩ : ∃ f, l[j]? = some f := ⟨l[j]'(by omega), List.getElem?_eq_getElem _⟩
    exact (h4 j f z hf hz).1.lt hg
  obtain ⟨vs, h1, h2, h3, h4', h5⟩ := h0
  have hlt := hlt vs h1 h4'
  have h2 := h2.turn_no t0
  have h4 : ∀ (j : Nat) (f : Fi) (u : Value), l[j]? = some f → vs[j]? = some u → Own W 5 u (f.2.map bv) ∧ ∀ g, u.ownBlock = some g → B ≤ g := fun j f u hf hu => ⟨(h4' j f u hf hu).1.turn_no t0, (h4' j f u hf hu).2⟩
  obtain ⟨iw', w', hr, ho, hg⟩ := run_append_srcN (P := Try.prog) (t := 22) (tx := 22) Try.underlying22 info41 rfl (by omega) 22 W iw l.length (imC l vs) h2 x 1 [strV nm, u] hx (by omega) (by simp only [maxLen]; omega)
  have hT := hg.turn
  have hne : ∀ {y xs}, Own W 5 y xs → ∀ g, y.ownBlock = some g → iw.ownBlock ≠ some g := fun hy g hg' q => by
    obtain ⟨c1, e1⟩ := hy.obj hg'
    obtain ⟨c2, e2⟩ := h2.obj q
    exact absurd (tag_ne e1 e2) (by decide)
  refine ⟨iw', w', fun ty => hr, ⟨vs ++ [u], by simp [h1], ?_, fun g q => ?_, fun j f y hf hy => ?_, fun i j y y' hij hy hy' g hg' => ?_⟩, hg, ?_⟩
  · rw [imC_snoc l vs (nm, bs) u h1]
    simpa using ho
  · rcases hg.blk with e | ⟨g', e, e1, _⟩
    · exact h3 g (by rw [← e]; exact q)
    · rw [e] at q; cases q; omega
  · by_cases hj : j < l.length
    · rw [List.getElem?_append_left hj] at hf
      rw [List.getElem?_append_left (by omega)] at hy
      obtain ⟨a, b⟩ := h4 j f y hf hy
      exact ⟨a.turn hT (fun g hg' q => hne a g hg' q), b⟩
    · have hj2 : j = l.length := by
        have := (List.getElem?_eq_some_iff.1 hf).1
        simp at this
        omega
      subst hj2
      rw [List.getElem?_append_right (Nat.le_refl _)] at hf
      rw [List.getElem?_append_right (by omega), h1] at hy
      simp at hf hy
      subst hf hy
      exact ⟨hu.turn hT (fun g hg' q => hne hu g hg' q), hub⟩
  · by_cases hj : j < vs.length
    · rw [List.getElem?_append_left hj] at hy'
      rw [List.getElem?_append_left (by omega)] at hy
      exact h5 i j y y' hij hy hy' g hg'
    · have hj2 : j = vs.length := by
        have := (List.getElem?_eq_some_iff.1 hy').1
        simp at this
        omega
      subst hj2
      rw [List.getElem?_append_right (Nat.le_refl _)] at hy'
      rw [List.getElem?_append_left hij] at hy
      simp at hy'
      subst hy'
      intro q
      have := hlt i y hy g hg'
      have := hfr g q
      omega
  · rcases ho.2 with ⟨e, _⟩ | ⟨g, cap, cur, e, _⟩
    · exact ⟨_, _, _, e⟩
    · exact ⟨_, _, _, e⟩
theorem ImD.other {B : Nat} {w : World} {iw : Value} {l : List Fi} (h : ImD B w iw l) {g : Nat} {cs : Array Value} (hr : Row w g cs 24) (k : Nat) (x : Value) : ImD B (w.setCell ⟨g, k, none⟩ x) iw l := by
  obtain ⟨vs, h1, h2, h3, h4, h5⟩ := h
  have t : Turn (fun q => q = g) w (w.setCell ⟨g, k, none⟩ x) := Turn.setCell (S := fun q => q = g) (Turn.refl _ w) (p := ⟨g, k, none⟩) (fun _ => rfl) _
  refine ⟨vs, h1, h2.turn t (fun g' hg' q => ?_), h3, fun j f u hf hu => ?_, h5⟩
  · subst q
    obtain ⟨c, e⟩ := h2.obj hg'
    exact absurd (tag_ne hr e) (by decide)
  · obtain ⟨a, b⟩ := h4 j f u hf hu
    refine ⟨a.turn t (fun g' hg' q => ?_), b⟩
    subst q
    obtain ⟨c, e⟩ := a.obj hg'
    exact absurd (tag_ne hr e) (by decide)
/-- One file's bytes are written over. -/
theorem ImD.spoil {B : Nat} {w w' : World} {v : Value} {l : List Fi} (h : ImD B w v l) {i : Nat} {f : Fi} (hf : l[i]? = some f) : ∃ g c u, v = .slice (some ⟨g, 0, none⟩) l.length c ∧ w.cell? ⟨g, i * 2, none⟩ = some (strV f.1) ∧ w.cell? ⟨g, i * 2 + 1, none⟩ = some u ∧ Own w 5 u (f.2.map bv) ∧ (∀ k, u.ownBlock = some k → B ≤ k) ∧
    ∀ (w' : World) (ys : List UInt8), Turn (fun k => u.ownBlock = some k) w w' → Own w' 5 u (ys.map bv) → ys.length = f.2.length → ImD B w' v (l.set i (f.1, ys)) := by
  obtain ⟨vs, h1, h2, h3, h4, h5⟩ := h
  have hil := (List.getElem?_eq_some_iff.1 hf).1
  obtain ⟨u, hu⟩ : ∃ u, vs[i]? = some u := ⟨vs[i]'(by omega), List.getElem?_eq_getElem _⟩
  obtain ⟨hO, hB⟩ := h4 i f u hf hu
  obtain ⟨e0, e1⟩ := imC_at l vs h1 i f u hf hu
  obtain ⟨g, cap, hv⟩ : ∃ g cap, v = .slice (some ⟨g, 0, none⟩) l.length cap := by
    rcases h2.2 with ⟨_, q⟩ | ⟨g, cap, cur, e, _⟩
    · omega
    · exact ⟨g, cap, e⟩
  have hc : ∀ j x, (imC l vs)[j]? = some x → w.cell? ⟨g, j, none⟩ = some x := fun j x hx => by
    have := World.ownsRow.cells h2 (g := g) (by rw [hv]; rfl) j x hx
    simpa [Addr.add_lit] using this
  refine ⟨g, cap, u, hv, hc _ _ e0, hc _ _ e1, hO, hB, fun w' ys t hO' hy => ⟨vs, by simp [h1], ?_, h3, fun j f' u' hf' hu' => ?_, h5⟩⟩
  · have ec : imC (l.set i (f.1, ys)) vs = imC l vs := by
      apply List.ext_getElem?
      intro k
      have hl1 := imC_len l vs h1
      have hl2 := imC_len (l.set i (f.1, ys)) vs (by simp [h1])
      by_cases hk : k < l.length * 2
      · have hj : k / 2 < l.length := by omega
        obtain ⟨fj, hfj⟩ : ∃ fj, l[k / 2]? = some fj := ⟨l[k / 2], List.getElem?_eq_getElem hj⟩
        obtain ⟨uj, huj⟩ : ∃ uj, vs[k / 2]? = some uj := ⟨vs[k / 2]'(by omega), List.getElem?_eq_getElem _⟩
        obtain ⟨a0, a1⟩ := imC_at l vs h1 (k / 2) fj uj hfj huj
        have hset : ∃ z, (l.set i (f.1, ys))[k / 2]? = some (fj.1, z) := by
          by_cases hi : i = k / 2
          · rw [← hi] at hfj ⊢
            rw [hf] at hfj
            cases hfj
            exact ⟨ys, by rw [List.getElem?_set_self hil]⟩
          · exact ⟨fj.2, by rw [List.getElem?_set_ne hi]; exact hfj⟩
        obtain ⟨z, hz⟩ := hset
        obtain ⟨b0, b1⟩ := imC_at (l.set i (f.1, ys)) vs (by simp [h1]) (k / 2) (fj.1, z) uj hz huj
        rcases Nat.mod_two_eq_zero_or_one k with hm | hm
        · have ek : k = k / 2 * 2 := by omega
          rw [ek, a0, b0]
        · have ek : k = k / 2 * 2 + 1 := by omega
          rw [ek, a1, b1]
      · rw [List.getElem?_eq_none (by rw [hl2]; simp; omega), List.getElem?_eq_none (by omega)]
    rw [ec, List.length_set]
    exact h2.turn t (fun k hk q => by
      obtain ⟨c1, x1⟩ := h2.obj hk
      obtain ⟨c2, x2⟩ := hO.obj q
      exact absurd (tag_ne x1 x2) (by decide))
  · by_cases hij : i = j
    · subst hij
      rw [List.getElem?_set_self hil] at hf'
      cases hf'
      rw [hu] at hu'
      cases hu'
      exact ⟨hO', hB⟩
    · rw [List.getElem?_set_ne hij] at hf'
      obtain ⟨a, b⟩ := h4 j f' u' hf' hu'
      refine ⟨a.turn t (fun k hk q => ?_), b⟩
      rcases Nat.lt_or_gt_of_ne hij with hlt | hlt
      · exact h5 i j u u' hlt hu hu' k q hk
      · exact h5 j i u' u hlt hu' hu k hk q

section
variable {w : World} {p : Nat} {K : Nat → Prop} {bf bt : Option Nat} {V : Nm → Value} {s : St}
set_option maxRecDepth 100000 in
set_option maxHeartbeats 8000000 in
theorem crash15D (hk : Dk w p K s) (hout : s.out = false) (vk : Value) (keep : List Int) (hkeep : Vs w vk (keep.map iv)) (junk : UInt8) :
    Calls Try.prog 27 #[ptr p, vk, .int .u8 junk.toNat] w fun e w' => ∃ v, e = .returned (.tuple #[.agg #[v], .int .i64 0]) ∧ ImD w.heap.size w' v (crashL s.fs keep junk) ∧ Dk w' p K { s with off := true, out := true } ∧ Turn K w w' := by
  obtain ⟨bf, bt, V, h⟩ := hk
  obtain ⟨ka, kc, hks⟩ := hkeep.slice
  have hkl := hkeep.le
  simp only [List.length_map] at hks hkl
  have hkl' : keep.length ≤ 9223372036854775807 := by simp only [maxLen] at hkl; omega
  -- the result, the image
  obtain ⟨B, hB⟩ : ∃ B, B = w.heap.size := ⟨_, rfl⟩
  have T1 : Turn no w (w.alloc (.cells #[.slice none 0 0] 24)) := (Turn.refl no w).alloc _
  have rR : Row (w.alloc (.cells #[.slice none 0 0] 24)) B #[.slice none 0 0] 24 := Row.newAt _ _ _ _ hB
  have hm := (h.turn T1 (fun _ _ q => q)).made
  have c7 := (h.turn T1 (fun _ _ q => q)).c7
  rw [hout] at c7
  have T2 : Turn no w ((w.alloc (.cells #[.slice none 0 0] 24)).alloc (.cells #[.slice none 0 0] 24)) := T1.alloc _
  have rR2 : Row ((w.alloc (.cells #[.slice none 0 0] 24)).alloc (.cells #[.slice none 0 0] 24)) B #[.slice none 0 0] 24 := rR.alloc _
  have rI : Row ((w.alloc (.cells #[.slice none 0 0] 24)).alloc (.cells #[.slice none 0 0] 24)) (B + 1) #[.slice none 0 0] 24 := Row.newAt _ _ _ _ (by simp [hB])
  have h2 := h.turn T2 (fun _ _ q => q)
  have hsn := sorted37 h2 hout
  have hpB : p < B := by rw [hB]; exact h.klt p h.kp
  have hsz : ((w.alloc (.cells #[.slice none 0 0] 24)).alloc (.cells #[.slice none 0 0] 24)).heap.size = B + 2 := by simp [hB]
  generalize hw2 : (w.alloc (.cells #[.slice none 0 0] 24)).alloc (.cells #[.slice none 0 0] 24) = w2 at *
  obtain ⟨b, D, rfl, kb, o, fm⟩ := h.on_files hout
  have hnl : s.fs.length ≤ 65536 := h.inv.count
  have HB : Hid (B = w.heap.size) := hB
  rw [show w.heap.size = B from hB.symm]
  have rw1 : w.heap.size = B := hB.symm
  clear hB
  subst hks
  unfold ptr at *
  have hKlt : ∀ k, K k → k < B := fun k hk => by have := h.klt k hk; have := HB.out; omega
  obtain ⟨KK, hKK⟩ : ∃ KK : Nat → Prop, KK = K := ⟨_, rfl⟩
  have hkp' : KK p := by rw [hKK]; exact h.kp
  subst hKK
  go_enter Try.func27, Try.ntmps27
  go_wp2_with fail
  refine hm.mono ?_
  rintro e w' ⟨rfl, rfl⟩
  go_wp2_with fail
  refine hsn.mono ?_
  rintro e w3 ⟨vn, rfl, hN, hNB, t3⟩
  obtain ⟨na, nc, hns⟩ : ∃ na nc, vn = .slice na s.fs.length nc := by
    rcases hN.shape with ⟨e, q⟩ | ⟨g, cap, cur, e, _⟩
    · have : s.fs = [] := by simpa using q
      exact ⟨none, 0, by rw [e, this]; rfl⟩
    · exact ⟨_, _, by simpa using e⟩
  have T3 := T2.then_no t3
  have rI3 := rI.turn t3 (fun q => q)
  have rR3 := rR2.turn t3 (fun q => q)
  have hB3 : B + 2 ≤ w3.heap.size := by have := t3.size; omega
  subst hns
  clear hm hsn c7 rI rR rR2 T1 T2 t3 hw2
  go_wp2_with fail
  go_loopw [24] (fun x wr => ∃ (i : Nat) (iv : Value), i ≤ s.fs.length ∧ x = .int .i64 i ∧ Row wr (B + 1) #[iv] 24 ∧ ImD B wr iv ((crashL s.fs keep junk).take i) ∧ (∀ g, iv.ownBlock = some g → w3.heap.size ≤ g) ∧ Turn (fun k => k = B + 1) w3 wr) (fun x _ => s.fs.length - (intOf x).toNat)
  case atStart => exact ⟨0, .slice none 0 0, Nat.zero_le _, rfl, rI3, by rw [List.take_zero]; exact ImD.nil B w3, (fun g q => by cases q), Turn.refl _ _⟩
  case round =>
    obtain ⟨i, iw, hi, rfl, RI, hIm, hnew, TI⟩ := hrel
    have T : Turn no w wr := T3.trans TI (fun k hk q => by have := HB.out; omega)
    have hsl : ∃ a n c, iw = .slice a n c := by
      obtain ⟨vs, _, h2, _⟩ := hIm
      rcases h2.2 with ⟨e, _⟩ | ⟨g, cap, cur, e, _⟩
      · exact ⟨_, _, _, e⟩
      · exact ⟨_, _, _, e⟩
    have hD := h.turn T (fun _ _ q => q)
    by_cases hlt : i < s.fs.length
    · have hlt' : (i : Int) < (s.fs.length : Int) := by omega
      obtain ⟨f, hf⟩ : ∃ f, s.fs[i]? = some f := ⟨s.fs[i], List.getElem?_eq_getElem hlt⟩
      have hfm : f ∈ s.fs := List.mem_of_getElem? hf
      have hget := getF_of_mem h.inv.sorted hfm
      have hfnm : f.nm.length ≤ maxLen := by have := isNm_len (h.inv.names f hfm); simp only [maxLen]; omega
      -- the name
      obtain ⟨ng, hng, hna⟩ : ∃ ng, na = some ⟨ng, 0, none⟩ ∧ wr.cell? ⟨ng, i, none⟩ = some (strV f.nm) := by
        have hN' : Own wr 9 (.slice na s.fs.length nc) ((s.fs.map Pf.nm).map strV) := hN.turn TI (fun g hg q => by have := hNB g hg; omega)
        rcases hN'.shape with ⟨e, q⟩ | ⟨g, cap, cur, e, _⟩
        · have : s.fs = [] := by simpa using q
          rw [this] at hlt; simp at hlt
        · have e' : na = some ⟨g, 0, none⟩ := by simp at e; exact e.1
          subst e'
          exact ⟨g, rfl, hN'.cell i _ (by simp [hf])⟩
      subst hng
      -- how many are asked for
      obtain ⟨KV, hKV⟩ : ∃ KV, KV = keep.getD i 0 := ⟨_, rfl⟩
      have hcl : (crashL s.fs keep junk).take (i + 1) = (crashL s.fs keep junk).take i ++ [(f.nm, leftB f.bs f.sy KV junk)] := by
        rw [List.take_add_one, crashL_at _ _ _ _ _ hf, hKV]; rfl
      have hleft := fun W (t : Turn no wr W) => left38 W (V f.nm) f.bs f.sy KV junk ((hD.bytes f hfm).turn_no t) (h.inv.sy f hfm) (h.len hfm)
      have hnp : ∀ k, k = B + 1 ∨ iw.ownBlock = some k → w.heap.size ≤ k := fun k hk => by
        have := HB.out
        rcases hk with q | q
        · omega
        · have := hnew k q; omega
      have hc2 : ∀ W, Turn (fun q => q = B + 1 ∨ iw.ownBlock = some q) wr W → W.cell? ⟨p, 2, none⟩ = some (.map (some b)) := fun W t => (hD.row.turn t (fun q => by have := hnp p q; have := h.klt p h.kp; omega)).cell 2 _ rfl
      have hl : ∀ W, Turn (fun q => q = B + 1 ∨ iw.ownBlock = some q) wr W → _ := fun W t => (files_look (ownsMap_turn (ownsMap_turn o T (fun q => q)) t (fun q => by have := hnp b q; have := o.lt; omega)) fm f.nm hfnm).2
      have est : stood V s.fs f.nm = fileV (V f.nm) f.sy := by simp [stood, hget]
      rw [est] at hl
      obtain ⟨fa, fn, fc, hfs⟩ := (h.bytes f hfm).slice
      rw [hfs] at hl hleft
      have hbox : ∀ W, Turn no wr W → W.cell? ⟨B + 1, 0, none⟩ = some iw := fun W t => (RI.turn t (fun q => q)).cell 0 _ rfl
      have hwrB : B + 2 ≤ wr.heap.size := by have := TI.size; omega
      have happ : ∀ w4 xa xn xc, Turn no wr w4 → Own w4 5 (.slice xa xn xc) ((leftB f.bs f.sy KV junk).map bv) → (∀ g, (Value.slice xa xn xc).ownBlock = some g → wr.heap.size ≤ g) → ∃ iw' w6, (∀ ty, (Builtin.append_ #[22, 22] ty #[iw, .slice (some ⟨w4.heap.size, 0, none⟩) 1 1]).run Try.prog (w4.alloc (.cells #[.string ⟨f.nm.toArray⟩, .slice xa xn xc] 66)) = .ok iw' w6) ∧ ImD B w6 iw' ((crashL s.fs keep junk).take (i + 1)) ∧ (∀ g, iw'.ownBlock = some g → w3.heap.size ≤ g) ∧ Turn (fun k => k = B + 1) w3 w6 ∧ Turn (fun q => q = B + 1 ∨ iw.ownBlock = some q) wr w6 ∧ Row w6 (B + 1) #[iw] 24 ∧ ∃ a n c, iw' = .slice a n c := fun w4 xa xn xc t hO' hB' => by
        have ta := t.alloc (.cells #[strV f.nm, .slice xa xn xc] 66)
        have hln : ((crashL s.fs keep junk).take i).length < 65536 := by rw [List.length_take, crashL_len]; omega
        obtain ⟨iw', w6, hr, hI, hG, hs⟩ := hIm.push ta hB' hln f.nm (.slice xa xn xc) _ (hO'.turn_no ((Turn.refl no w4).alloc _)) (fun g hg => by have := hB' g hg; omega) (by have := ta.size; omega) _ (src_file w4 f.nm (.slice xa xn xc) rfl)
        rw [← hcl] at hI
        refine ⟨iw', w6, hr, hI, fun g hg => ?_, ?_, (ta.of_no).trans hG.turn (fun k _ q => Or.inr q), (RI.turn ta (fun q => q)).turn hG.turn (fun q => by have := hnew _ q; omega), hs⟩
        · rcases hG.blk with e | ⟨g', e, e1, _⟩
          · exact hnew g (by rw [← e]; exact hg)
          · rw [e] at hg; cases hg
            have := ta.size; have := TI.size; omega
        · exact (TI.then_no ta).trans hG.turn (fun k hk q => by have := hnew k q; omega)
      have hstep : ∀ (iw' : Value) (w6 : World), ImD B w6 iw' ((crashL s.fs keep junk).take (i + 1)) → (∀ g, iw'.ownBlock = some g → w3.heap.size ≤ g) → Turn (fun k => k = B + 1) w3 w6 → Row w6 (B + 1) #[iw] 24 →
          Row (w6.setCell ⟨B + 1, 0, none⟩ iw') (B + 1) #[iw'] 24 ∧ ImD B (w6.setCell ⟨B + 1, 0, none⟩ iw') iw' ((crashL s.fs keep junk).take (i + 1)) ∧ (∀ g, iw'.ownBlock = some g → w3.heap.size ≤ g) ∧ Turn (fun k => k = B + 1) w3 (w6.setCell ⟨B + 1, 0, none⟩ iw') ∧ (Turn (fun q => q = B + 1 ∨ iw.ownBlock = some q) wr w6 → Turn (fun q => q = B + 1 ∨ iw.ownBlock = some q) wr (w6.setCell ⟨B + 1, 0, none⟩ iw')) := fun iw' w6 x1 x2 x3 x4 =>
        ⟨x4.set 0 iw', x1.other x4 0 iw', x2, Turn.setCell (S := fun k => k = B + 1) x3 (p := ⟨B + 1, 0, none⟩) (fun _ => rfl) _, fun t => Turn.setCell t (p := ⟨B + 1, 0, none⟩) (fun _ => Or.inl rfl) _⟩
      have hkcR : ∀ kb' ko, ka = some ⟨kb', ko, none⟩ → i < keep.length → wr.cell? ⟨kb', ko + i, none⟩ = some (.int .i64 KV) := fun kb' ko e hik => by
        obtain ⟨b2, o2, c2, e2, _, hcell⟩ := hkeep.at (by simp; omega)
        have e3 : ka = some ⟨b2, o2, none⟩ := by simp at e2; exact e2.1
        rw [e] at e3
        cases e3
        have := hcell i (iv KV) (by simp [hKV, List.getD_eq_getElem?_getD, hik])
        exact T.keep this (fun q => q)
      have cur0 : Turn no wr wr.drew := (Turn.refl no wr).drew
      have hnx : (i : Int) < 65536 := by omega
      have bx0 := hbox _ cur0
      have HKV := shut hKV
      clear hKV
      have HAPP := shut happ
      have HSTEP := shut hstep
      have HLEFT := shut hleft
      have HBOX := shut hbox
      clear hD hIm hN TI T fm o RI rI3 rR3 hget est hfs happ hstep hleft hbox hcl
      unfold strV fileV at *
      by_cases hik : i < keep.length
      · have hik' : (i : Int) < (keep.length : Int) := by omega
        obtain ⟨kb', ko, kcap, hkv, hkc, hkcell⟩ := hkeep.at (by simp; omega)
        simp only [List.length_map] at hkv
        have hka : ka = some ⟨kb', ko, none⟩ := by simp at hkv; exact hkv.1
        subst hka
        have hkc' := hkcR kb' ko rfl hik
        go_wp2_with fail
        refine wp_region_noPanic ?_
        refine wp_region_held_drew (S := fun W => Turn (fun q => q = B + 1 ∨ iw.ownBlock = some q) wr W) (by kernel_rfl) (Turn.refl _ wr).drew (fun hHeld => ?_)
        refine' wpAnyH_take (i := 0) (v := .pointer (some ⟨B + 1, 0, none⟩)) rfl (by kernel_rfl) (by kernel_rfl) (by kernel_rfl) (fun _ _ _ h => h) (Or.inl ⟨by kernel_rfl, fun W hW => ?y1⟩) hHeld ?r1
        · go_simp
        refine' wpAnyH_take (i := 2) (v := .string ⟨f.nm.toArray⟩) rfl (by kernel_rfl) (by kernel_rfl) (by kernel_rfl) (fun _ _ _ h => h) (Or.inl ⟨by kernel_rfl, fun W hW => ?y2⟩) hHeld ?r2
        · go_simp
        refine' wpAnyH_take (i := 3) (v := .pointer (some ⟨p, 0, none⟩)) rfl (by kernel_rfl) (by kernel_rfl) (by kernel_rfl) (fun _ _ _ h => h) (Or.inl ⟨by kernel_rfl, fun W hW => ?y3⟩) hHeld ?r3
        · go_simp
        refine' wpAnyH_take (i := 4) (v := .pointer (some ⟨p, 0, none⟩)) rfl (by kernel_rfl) (by kernel_rfl) (by kernel_rfl) (fun _ _ _ h => h) (Or.inl ⟨by kernel_rfl, fun W hW => ?y4⟩) hHeld ?r4
        · go_simp
        refine' wpAnyH_take (i := 5) (v := .pointer (some ⟨p, 2, none⟩)) rfl (by kernel_rfl) (by kernel_rfl) (by kernel_rfl) (fun _ _ _ h => h) (Or.inl ⟨by kernel_rfl, fun W hW => ?y5⟩) hHeld ?r5
        · go_simp
        refine' wpAnyH_take (i := 6) (v := .map (some b)) rfl (by kernel_rfl) (by kernel_rfl) (by kernel_rfl) (fun _ _ _ h => h) (Or.inl ⟨by kernel_rfl, fun W hW => ?y6⟩) hHeld ?r6
        · have c := hc2 _ hW
          go_simp
        refine' wpAnyH_take (i := 7) (v := .string ⟨f.nm.toArray⟩) rfl (by kernel_rfl) (by kernel_rfl) (by kernel_rfl) (fun _ _ _ h => h) (Or.inl ⟨by kernel_rfl, fun W hW => ?y7⟩) hHeld ?r7
        · go_simp
        refine' wpAnyH_take (i := 8) (v := .agg #[.slice fa fn fc, .int .i64 f.sy]) rfl (by kernel_rfl) (by kernel_rfl) (by kernel_rfl) (fun _ _ _ h => h) (Or.inl ⟨by kernel_rfl, fun W hW => ?y8⟩) hHeld ?r8
        · have c := hl _ hW
          go_simp
        refine' wpAnyH_take (i := 9) (v := .int .i64 KV) rfl (by kernel_rfl) (by kernel_rfl) (by kernel_rfl) (fun _ _ _ h => h) (Or.inl ⟨by kernel_rfl, fun W hW => ?y9⟩) hHeld ?r9
        · go_simp
        refine' wpAnyH_take (i := 10) (v := .int .u8 junk.toNat) rfl (by kernel_rfl) (by kernel_rfl) (by kernel_rfl) (fun _ _ _ h => h) (Or.inl ⟨by kernel_rfl, fun W hW => ?y10⟩) hHeld ?r10
        · go_simp
        refine wpAnyH_ready (rs := [1, 11]) (by kernel_rfl) (by simp) ?_
        refine AllReadyH.cons rfl (fun K hK => ?_) (AllReadyH.cons rfl (fun K hK => ?_) AllReadyH.nil)
        · go_simp
          refine hK.out _ _ hHeld (fun hHeld => ?_)
          clear hK
          refine wpAnyH_ready (rs := [11]) (by kernel_rfl) (by simp) ?_
          refine AllReadyH.cons rfl (fun K hK => ?_) AllReadyH.nil
          go_simp
          refine (HLEFT.out _ cur0).mono ?_
          rintro e w4 ⟨v', rfl, hO', hB', t4⟩
          obtain ⟨xa, xn, xc, rfl⟩ := hO'.slice
          have c4 := cur0.then_no t4
          have HO' := shut hO'
          have HB' := shut hB'
          have HC4 := shut c4
          clear hO' hB' t4
          go_wp2_with fail
          refine hK.out _ _ (c4.of_no) (fun hHeld => ?_)
          clear hK
          refine' wpAnyH_take (i := 12) (v := .agg #[.string ⟨f.nm.toArray⟩, .slice xa xn xc]) rfl (by kernel_rfl) (by kernel_rfl) (by kernel_rfl) (fun _ _ _ h => h) (Or.inl ⟨by kernel_rfl, fun W hW => ?y11⟩) hHeld ?r11
          · go_simp
          refine wpAnyH_ready (rs := [13]) (by kernel_rfl) (by simp) ?_
          refine AllReadyH.cons rfl (fun K hK => ?_) AllReadyH.nil
          go_simp
          refine hK.out _ _ ((c4.alloc _).of_no) (fun hHeld => ?_)
          clear hK
          obtain ⟨iw', w6, hap6, hIm6, hn6, T6, S6, RI6, hsl6⟩ := HAPP.out w4 xa xn xc HC4.out HO'.out HB'.out
          obtain ⟨ya, yn, yc, rfl⟩ := hsl6
          obtain ⟨sA, sB, sC, sD, sE⟩ := HSTEP.out _ _ hIm6 hn6 T6 RI6
          have bc := RI6.cell 0 _ rfl
          have bz := RI6.frozen 0
          refine wpAnyH_ready (rs := [14]) (by kernel_rfl) (by simp) ?_
          refine AllReadyH.cons rfl (fun K hK => ?_) AllReadyH.nil
          rw [if_pos (by rfl)]
          refine wp_append_run _ _ rfl _ _ rfl rfl (hap6 _) ?_
          refine hK.out _ _ S6 (fun hHeld => ?_)
          clear hK
          refine' wpAnyH_take (i := 15) (v := .pointer (some ⟨B + 1, 0, none⟩)) rfl (by kernel_rfl) (by kernel_rfl) (by kernel_rfl) (fun _ _ _ h => h) (Or.inl ⟨by kernel_rfl, fun W hW => ?y12⟩) hHeld ?r12
          · go_simp
          refine wpAnyH_ready (rs := [16]) (by kernel_rfl) (by simp) ?_
          refine AllReadyH.cons rfl (fun K hK => ?_) AllReadyH.nil
          go_simp
          refine hK.out _ _ (sE S6) (fun hHeld => ?_)
          clear hK
          refine wpAnyH_done (by kernel_rfl) ?_ _
          refine NoPanic.normal ?_
          go_wp2_with fail
          go_roundw
          case rel => exact ⟨i + 1, _, by omega, by go_num, sA, sB, sC, sD⟩
          case measure => simp [intOf]; omega
        · go_simp
          refine (HLEFT.out _ cur0).mono ?_
          rintro e w4 ⟨v', rfl, hO', hB', t4⟩
          obtain ⟨xa, xn, xc, rfl⟩ := hO'.slice
          have c4 := cur0.then_no t4
          have HO' := shut hO'
          have HB' := shut hB'
          have HC4 := shut c4
          clear hO' hB' t4
          go_wp2_with fail
          refine hK.out _ _ (c4.of_no) (fun hHeld => ?_)
          clear hK
          refine' wpAnyH_take (i := 12) (v := .agg #[.string ⟨f.nm.toArray⟩, .slice xa xn xc]) rfl (by kernel_rfl) (by kernel_rfl) (by kernel_rfl) (fun _ _ _ h => h) (Or.inl ⟨by kernel_rfl, fun W hW => ?y13⟩) hHeld ?r13
          · go_simp
          have bx := HBOX.out _ c4
          refine wpAnyH_ready (rs := [1, 13]) (by kernel_rfl) (by simp) ?_
          refine AllReadyH.cons rfl (fun K hK => ?_) (AllReadyH.cons rfl (fun K hK => ?_) AllReadyH.nil)
          · go_simp
            refine hK.out _ _ hHeld (fun hHeld => ?_)
            clear hK
            refine wpAnyH_ready (rs := [13]) (by kernel_rfl) (by simp) ?_
            refine AllReadyH.cons rfl (fun K hK => ?_) AllReadyH.nil
            go_simp
            refine hK.out _ _ ((c4.alloc _).of_no) (fun hHeld => ?_)
            clear hK
            obtain ⟨iw', w6, hap6, hIm6, hn6, T6, S6, RI6, hsl6⟩ := HAPP.out w4 xa xn xc HC4.out HO'.out HB'.out
            obtain ⟨ya, yn, yc, rfl⟩ := hsl6
            obtain ⟨sA, sB, sC, sD, sE⟩ := HSTEP.out _ _ hIm6 hn6 T6 RI6
            have bc := RI6.cell 0 _ rfl
            have bz := RI6.frozen 0
            refine wpAnyH_ready (rs := [14]) (by kernel_rfl) (by simp) ?_
            refine AllReadyH.cons rfl (fun K hK => ?_) AllReadyH.nil
            rw [if_pos (by rfl)]
            refine wp_append_run _ _ rfl _ _ rfl rfl (hap6 _) ?_
            refine hK.out _ _ S6 (fun hHeld => ?_)
            clear hK
            refine' wpAnyH_take (i := 15) (v := .pointer (some ⟨B + 1, 0, none⟩)) rfl (by kernel_rfl) (by kernel_rfl) (by kernel_rfl) (fun _ _ _ h => h) (Or.inl ⟨by kernel_rfl, fun W hW => ?y14⟩) hHeld ?r14
            · go_simp
            refine wpAnyH_ready (rs := [16]) (by kernel_rfl) (by simp) ?_
            refine AllReadyH.cons rfl (fun K hK => ?_) AllReadyH.nil
            go_simp
            refine hK.out _ _ (sE S6) (fun hHeld => ?_)
            clear hK
            refine wpAnyH_done (by kernel_rfl) ?_ _
            refine NoPanic.normal ?_
            go_wp2_with fail
            go_roundw
            case rel => exact ⟨i + 1, _, by omega, by go_num, sA, sB, sC, sD⟩
            case measure => simp [intOf]; omega

          · go_simp
            refine hK.out _ _ ((c4.alloc _).of_no) (fun hHeld => ?_)
            clear hK
            refine wpAnyH_ready (rs := [1]) (by kernel_rfl) (by simp) ?_
            refine AllReadyH.cons rfl (fun K hK => ?_) AllReadyH.nil
            have bx2 := HBOX.out _ (c4.alloc (.cells #[.string ⟨f.nm.toArray⟩, .slice xa xn xc] 66))
            go_simp
            refine hK.out _ _ hHeld (fun hHeld => ?_)
            clear hK
            obtain ⟨iw', w6, hap6, hIm6, hn6, T6, S6, RI6, hsl6⟩ := HAPP.out w4 xa xn xc HC4.out HO'.out HB'.out
            obtain ⟨ya, yn, yc, rfl⟩ := hsl6
            obtain ⟨sA, sB, sC, sD, sE⟩ := HSTEP.out _ _ hIm6 hn6 T6 RI6
            have bc := RI6.cell 0 _ rfl
            have bz := RI6.frozen 0
            refine wpAnyH_ready (rs := [14]) (by kernel_rfl) (by simp) ?_
            refine AllReadyH.cons rfl (fun K hK => ?_) AllReadyH.nil
            rw [if_pos (by rfl)]
            refine wp_append_run _ _ rfl _ _ rfl rfl (hap6 _) ?_
            refine hK.out _ _ S6 (fun hHeld => ?_)
            clear hK
            refine' wpAnyH_take (i := 15) (v := .pointer (some ⟨B + 1, 0, none⟩)) rfl (by kernel_rfl) (by kernel_rfl) (by kernel_rfl) (fun _ _ _ h => h) (Or.inl ⟨by kernel_rfl, fun W hW => ?y15⟩) hHeld ?r15
            · go_simp
            refine wpAnyH_ready (rs := [16]) (by kernel_rfl) (by simp) ?_
            refine AllReadyH.cons rfl (fun K hK => ?_) AllReadyH.nil
            go_simp
            refine hK.out _ _ (sE S6) (fun hHeld => ?_)
            clear hK
            refine wpAnyH_done (by kernel_rfl) ?_ _
            refine NoPanic.normal ?_
            go_wp2_with fail
            go_roundw
            case rel => exact ⟨i + 1, _, by omega, by go_num, sA, sB, sC, sD⟩
            case measure => simp [intOf]; omega


      · clear hkcR
        have hik' : ¬ (i : Int) < (keep.length : Int) := by omega
        have hK0 : KV = 0 := by rw [HKV.out]; simp [List.getD_eq_getElem?_getD, List.getElem?_eq_none (show keep.length ≤ i by omega)]
        subst hK0
        go_wp2_with fail
        refine wp_region_noPanic ?_
        refine wp_region_held_drew (S := fun W => Turn (fun q => q = B + 1 ∨ iw.ownBlock = some q) wr W) (by kernel_rfl) (Turn.refl _ wr).drew (fun hHeld => ?_)
        refine' wpAnyH_take (i := 0) (v := .pointer (some ⟨B + 1, 0, none⟩)) rfl (by kernel_rfl) (by kernel_rfl) (by kernel_rfl) (fun _ _ _ h => h) (Or.inl ⟨by kernel_rfl, fun W hW => ?y16⟩) hHeld ?r16
        · go_simp
        refine' wpAnyH_take (i := 2) (v := .string ⟨f.nm.toArray⟩) rfl (by kernel_rfl) (by kernel_rfl) (by kernel_rfl) (fun _ _ _ h => h) (Or.inl ⟨by kernel_rfl, fun W hW => ?y17⟩) hHeld ?r17
        · go_simp
        refine' wpAnyH_take (i := 3) (v := .pointer (some ⟨p, 0, none⟩)) rfl (by kernel_rfl) (by kernel_rfl) (by kernel_rfl) (fun _ _ _ h => h) (Or.inl ⟨by kernel_rfl, fun W hW => ?y18⟩) hHeld ?r18
        · go_simp
        refine' wpAnyH_take (i := 4) (v := .pointer (some ⟨p, 0, none⟩)) rfl (by kernel_rfl) (by kernel_rfl) (by kernel_rfl) (fun _ _ _ h => h) (Or.inl ⟨by kernel_rfl, fun W hW => ?y19⟩) hHeld ?r19
        · go_simp
        refine' wpAnyH_take (i := 5) (v := .pointer (some ⟨p, 2, none⟩)) rfl (by kernel_rfl) (by kernel_rfl) (by kernel_rfl) (fun _ _ _ h => h) (Or.inl ⟨by kernel_rfl, fun W hW => ?y20⟩) hHeld ?r20
        · go_simp
        refine' wpAnyH_take (i := 6) (v := .map (some b)) rfl (by kernel_rfl) (by kernel_rfl) (by kernel_rfl) (fun _ _ _ h => h) (Or.inl ⟨by kernel_rfl, fun W hW => ?y21⟩) hHeld ?r21
        · have c := hc2 _ hW
          go_simp
        refine' wpAnyH_take (i := 7) (v := .string ⟨f.nm.toArray⟩) rfl (by kernel_rfl) (by kernel_rfl) (by kernel_rfl) (fun _ _ _ h => h) (Or.inl ⟨by kernel_rfl, fun W hW => ?y22⟩) hHeld ?r22
        · go_simp
        refine' wpAnyH_take (i := 8) (v := .agg #[.slice fa fn fc, .int .i64 f.sy]) rfl (by kernel_rfl) (by kernel_rfl) (by kernel_rfl) (fun _ _ _ h => h) (Or.inl ⟨by kernel_rfl, fun W hW => ?y23⟩) hHeld ?r23
        · have c := hl _ hW
          go_simp
        refine' wpAnyH_take (i := 9) (v := .int .i64 0) rfl (by kernel_rfl) (by kernel_rfl) (by kernel_rfl) (fun _ _ _ h => h) (Or.inl ⟨by kernel_rfl, fun W hW => ?y24⟩) hHeld ?r24
        · go_simp
        refine' wpAnyH_take (i := 10) (v := .int .u8 junk.toNat) rfl (by kernel_rfl) (by kernel_rfl) (by kernel_rfl) (fun _ _ _ h => h) (Or.inl ⟨by kernel_rfl, fun W hW => ?y25⟩) hHeld ?r25
        · go_simp
        refine wpAnyH_ready (rs := [1, 11]) (by kernel_rfl) (by simp) ?_
        refine AllReadyH.cons rfl (fun K hK => ?_) (AllReadyH.cons rfl (fun K hK => ?_) AllReadyH.nil)
        · go_simp
          refine hK.out _ _ hHeld (fun hHeld => ?_)
          clear hK
          refine wpAnyH_ready (rs := [11]) (by kernel_rfl) (by simp) ?_
          refine AllReadyH.cons rfl (fun K hK => ?_) AllReadyH.nil
          go_simp
          refine (HLEFT.out _ cur0).mono ?_
          rintro e w4 ⟨v', rfl, hO', hB', t4⟩
          obtain ⟨xa, xn, xc, rfl⟩ := hO'.slice
          have c4 := cur0.then_no t4
          have HO' := shut hO'
          have HB' := shut hB'
          have HC4 := shut c4
          clear hO' hB' t4
          go_wp2_with fail
          refine hK.out _ _ (c4.of_no) (fun hHeld => ?_)
          clear hK
          refine' wpAnyH_take (i := 12) (v := .agg #[.string ⟨f.nm.toArray⟩, .slice xa xn xc]) rfl (by kernel_rfl) (by kernel_rfl) (by kernel_rfl) (fun _ _ _ h => h) (Or.inl ⟨by kernel_rfl, fun W hW => ?y26⟩) hHeld ?r26
          · go_simp
          refine wpAnyH_ready (rs := [13]) (by kernel_rfl) (by simp) ?_
          refine AllReadyH.cons rfl (fun K hK => ?_) AllReadyH.nil
          go_simp
          refine hK.out _ _ ((c4.alloc _).of_no) (fun hHeld => ?_)
          clear hK
          obtain ⟨iw', w6, hap6, hIm6, hn6, T6, S6, RI6, hsl6⟩ := HAPP.out w4 xa xn xc HC4.out HO'.out HB'.out
          obtain ⟨ya, yn, yc, rfl⟩ := hsl6
          obtain ⟨sA, sB, sC, sD, sE⟩ := HSTEP.out _ _ hIm6 hn6 T6 RI6
          have bc := RI6.cell 0 _ rfl
          have bz := RI6.frozen 0
          refine wpAnyH_ready (rs := [14]) (by kernel_rfl) (by simp) ?_
          refine AllReadyH.cons rfl (fun K hK => ?_) AllReadyH.nil
          rw [if_pos (by rfl)]
          refine wp_append_run _ _ rfl _ _ rfl rfl (hap6 _) ?_
          refine hK.out _ _ S6 (fun hHeld => ?_)
          clear hK
          refine' wpAnyH_take (i := 15) (v := .pointer (some ⟨B + 1, 0, none⟩)) rfl (by kernel_rfl) (by kernel_rfl) (by kernel_rfl) (fun _ _ _ h => h) (Or.inl ⟨by kernel_rfl, fun W hW => ?y27⟩) hHeld ?r27
          · go_simp
          refine wpAnyH_ready (rs := [16]) (by kernel_rfl) (by simp) ?_
          refine AllReadyH.cons rfl (fun K hK => ?_) AllReadyH.nil
          go_simp
          refine hK.out _ _ (sE S6) (fun hHeld => ?_)
          clear hK
          refine wpAnyH_done (by kernel_rfl) ?_ _
          refine NoPanic.normal ?_
          go_wp2_with fail
          go_roundw
          case rel => exact ⟨i + 1, _, by omega, by go_num, sA, sB, sC, sD⟩
          case measure => simp [intOf]; omega
        · go_simp
          refine (HLEFT.out _ cur0).mono ?_
          rintro e w4 ⟨v', rfl, hO', hB', t4⟩
          obtain ⟨xa, xn, xc, rfl⟩ := hO'.slice
          have c4 := cur0.then_no t4
          have HO' := shut hO'
          have HB' := shut hB'
          have HC4 := shut c4
          clear hO' hB' t4
          go_wp2_with fail
          refine hK.out _ _ (c4.of_no) (fun hHeld => ?_)
          clear hK
          refine' wpAnyH_take (i := 12) (v := .agg #[.string ⟨f.nm.toArray⟩, .slice xa xn xc]) rfl (by kernel_rfl) (by kernel_rfl) (by kernel_rfl) (fun _ _ _ h => h) (Or.inl ⟨by kernel_rfl, fun W hW => ?y28⟩) hHeld ?r28
          · go_simp
          have bx := HBOX.out _ c4
          refine wpAnyH_ready (rs := [1, 13]) (by kernel_rfl) (by simp) ?_
          refine AllReadyH.cons rfl (fun K hK => ?_) (AllReadyH.cons rfl (fun K hK => ?_) AllReadyH.nil)
          · go_simp
            refine hK.out _ _ hHeld (fun hHeld => ?_)
            clear hK
            refine wpAnyH_ready (rs := [13]) (by kernel_rfl) (by simp) ?_
            refine AllReadyH.cons rfl (fun K hK => ?_) AllReadyH.nil
            go_simp
            refine hK.out _ _ ((c4.alloc _).of_no) (fun hHeld => ?_)
            clear hK
            obtain ⟨iw', w6, hap6, hIm6, hn6, T6, S6, RI6, hsl6⟩ := HAPP.out w4 xa xn xc HC4.out HO'.out HB'.out
            obtain ⟨ya, yn, yc, rfl⟩ := hsl6
            obtain ⟨sA, sB, sC, sD, sE⟩ := HSTEP.out _ _ hIm6 hn6 T6 RI6
            have bc := RI6.cell 0 _ rfl
            have bz := RI6.frozen 0
            refine wpAnyH_ready (rs := [14]) (by kernel_rfl) (by simp) ?_
            refine AllReadyH.cons rfl (fun K hK => ?_) AllReadyH.nil
            rw [if_pos (by rfl)]
            refine wp_append_run _ _ rfl _ _ rfl rfl (hap6 _) ?_
            refine hK.out _ _ S6 (fun hHeld => ?_)
            clear hK
            refine' wpAnyH_take (i := 15) (v := .pointer (some ⟨B + 1, 0, none⟩)) rfl (by kernel_rfl) (by kernel_rfl) (by kernel_rfl) (fun _ _ _ h => h) (Or.inl ⟨by kernel_rfl, fun W hW => ?y29⟩) hHeld ?r29
            · go_simp
            refine wpAnyH_ready (rs := [16]) (by kernel_rfl) (by simp) ?_
            refine AllReadyH.cons rfl (fun K hK => ?_) AllReadyH.nil
            go_simp
            refine hK.out _ _ (sE S6) (fun hHeld => ?_)
            clear hK
            refine wpAnyH_done (by kernel_rfl) ?_ _
            refine NoPanic.normal ?_
            go_wp2_with fail
            go_roundw
            case rel => exact ⟨i + 1, _, by omega, by go_num, sA, sB, sC, sD⟩
            case measure => simp [intOf]; omega

          · go_simp
            refine hK.out _ _ ((c4.alloc _).of_no) (fun hHeld => ?_)
            clear hK
            refine wpAnyH_ready (rs := [1]) (by kernel_rfl) (by simp) ?_
            refine AllReadyH.cons rfl (fun K hK => ?_) AllReadyH.nil
            have bx2 := HBOX.out _ (c4.alloc (.cells #[.string ⟨f.nm.toArray⟩, .slice xa xn xc] 66))
            go_simp
            refine hK.out _ _ hHeld (fun hHeld => ?_)
            clear hK
            obtain ⟨iw', w6, hap6, hIm6, hn6, T6, S6, RI6, hsl6⟩ := HAPP.out w4 xa xn xc HC4.out HO'.out HB'.out
            obtain ⟨ya, yn, yc, rfl⟩ := hsl6
            obtain ⟨sA, sB, sC, sD, sE⟩ := HSTEP.out _ _ hIm6 hn6 T6 RI6
            have bc := RI6.cell 0 _ rfl
            have bz := RI6.frozen 0
            refine wpAnyH_ready (rs := [14]) (by kernel_rfl) (by simp) ?_
            refine AllReadyH.cons rfl (fun K hK => ?_) AllReadyH.nil
            rw [if_pos (by rfl)]
            refine wp_append_run _ _ rfl _ _ rfl rfl (hap6 _) ?_
            refine hK.out _ _ S6 (fun hHeld => ?_)
            clear hK
            refine' wpAnyH_take (i := 15) (v := .pointer (some ⟨B + 1, 0, none⟩)) rfl (by kernel_rfl) (by kernel_rfl) (by kernel_rfl) (fun _ _ _ h => h) (Or.inl ⟨by kernel_rfl, fun W hW => ?y30⟩) hHeld ?r30
            · go_simp
            refine wpAnyH_ready (rs := [16]) (by kernel_rfl) (by simp) ?_
            refine AllReadyH.cons rfl (fun K hK => ?_) AllReadyH.nil
            go_simp
            refine hK.out _ _ (sE S6) (fun hHeld => ?_)
            clear hK
            refine wpAnyH_done (by kernel_rfl) ?_ _
            refine NoPanic.normal ?_
            go_wp2_with fail
            go_roundw
            case rel => exact ⟨i + 1, _, by omega, by go_num, sA, sB, sC, sD⟩
            case measure => simp [intOf]; omega



    · have hi2 : i = s.fs.length := by omega
      subst hi2
      have hlt' : ¬ (s.fs.length : Int) < (s.fs.length : Int) := by omega
      rw [List.take_of_length_le (by rw [crashL_len]; exact Nat.le_refl _)] at hIm
      have hlp := losePower39 hD
      have RR := rR3.turn TI (fun q => by omega)
      have hkp := h.kp
      obtain ⟨ia, in', ic, rfl⟩ := hsl
      clear h fm o hN TI hD rI3 rR3 hnew T3 hkeep
      unfold ptr at hlp
      go_wp2_with fail
      refine hlp.mono ?_
      rintro e w4 ⟨rfl, hD4, T4⟩
      have R4 := hD4.row
      have c7 := R4.cell 7 _ rfl
      have f7 := R4.frozen 7
      have R5 := R4.set 7 (.bool true)
      have c2 := R5.cell 2 _ rfl
      have f2 := R5.frozen 2
      have hcl := hD4.close rfl
      have T5 : Turn (fun k => k = p) wr ((w4.setCell ⟨p, 7, none⟩ (.bool true)).setCell ⟨p, 2, none⟩ (.map none)) := Turn.setCell (S := fun k => k = p) (Turn.setCell (S := fun k => k = p) T4 (p := ⟨p, 7, none⟩) (fun _ => rfl) _) (p := ⟨p, 2, none⟩) (fun _ => rfl) _
      have RI5 := RI.turn T5 (fun q => by omega)
      have RR5 := RR.turn T5 (fun q => by omega)
      have hIm5 := hIm.turn T5 (fun k q => by omega)
      have b1 := RI5.cell 0 _ rfl
      have b2 := RR5.cell 0 _ rfl
      have b3 := RR5.frozen 0
      have hIm6 := hIm5.other RR5 0 (.slice ia in' ic)
      have RR6 := RR5.set 0 (.slice ia in' ic)
      have T6 : Turn (fun k => k = B) ((w4.setCell ⟨p, 7, none⟩ (.bool true)).setCell ⟨p, 2, none⟩ (.map none)) (((w4.setCell ⟨p, 7, none⟩ (.bool true)).setCell ⟨p, 2, none⟩ (.map none)).setCell ⟨B, 0, none⟩ (.slice ia in' ic)) := Turn.setCell (S := fun k => k = B) (Turn.refl _ _) (p := ⟨B, 0, none⟩) (fun _ => rfl) _
      have hcl6 := hcl.turn T6 (fun k hk q => by have := hD4.klt k hk; have := hKlt k hk; omega)
      have TF : Turn _ w (((w4.setCell ⟨p, 7, none⟩ (.bool true)).setCell ⟨p, 2, none⟩ (.map none)).setCell ⟨B, 0, none⟩ (.slice ia in' ic)) := ((T.of_no (S := KK)).trans T5 (fun k _ q => by rw [q]; exact hkp')).trans T6 (fun k hk q => by have := HB.out; omega)
      have HIM := shut hIm6
      have HCL := shut hcl6
      have HRR := shut RR6
      have HTF := shut TF
      clear hIm hIm5 hIm6 hcl hcl6 RR6 TF T6 T5 T4 RI RR RI5 RR5 hD4 R4 R5
      generalize hw6 : (w4.setCell ⟨p, 7, none⟩ (.bool true)).setCell ⟨p, 2, none⟩ (.map none) = w6 at *
      go_wp2_with fail
      refine ⟨rfl, _, results_cell_row_tmp (g := B) (cs := #[.slice ia in' ic]) (t := 24) rfl _ _ _ _ rfl HRR.out Try.underlying24 rfl (by kernel_rfl), _, rfl, HIM.out, ⟨_, _, _, HCL.out⟩, HTF.out⟩
end
end Go.Proofs.Ytcdogciacchigab
