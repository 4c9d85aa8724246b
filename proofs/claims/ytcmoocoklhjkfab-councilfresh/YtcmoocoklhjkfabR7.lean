/- Renew: what is refused; Renew of the document. -/
import Derived.Test.YtcmoocoklhjkfabR6
import Derived.Test.YtcmoocoklhjkfabR2
namespace Go.Proofs.Ytcmoocoklhjkfab
open Go.RowKit
set_option linter.unusedVariables false

set_option maxRecDepth 100000 in
set_option maxHeartbeats 1000000 in
theorem renew11_bad (w : World) (vc v : Value) (c l : List Mb) (hc : Ms w vc c) (h : Ms w v l) (hE : soundE c ≠ 0) : Calls Try.prog 11 #[.agg #[vc], v] w fun e w' => e = .returned (.tuple #[.agg #[.slice none 0 0], .int .i64 (soundE c)]) ∧ Turn no w w' := by
  have T0 : Turn no w ((w.alloc (.cells #[vc] 26)).alloc (.cells #[.slice none 0 0] 26)) := ((Turn.refl no w).alloc _).alloc _
  have B1 := Bx.new (w.alloc (.cells #[vc] 26)) (.slice none 0 0) 26
  rw [show (w.alloc (.cells #[vc] 26)).heap.size = w.heap.size + 1 by simp] at B1
  have hso := sound27 _ vc c (hc.turn_no T0)
  have hne : (soundE c == 0) = false := by simp; exact hE
  clear h hc
  go_enter Try.func11, Try.ntmps11
  go_wp2_with fail
  refine hso.mono ?_
  rintro e w1 ⟨rfl, T1⟩
  have B2 := B1.turn_no T1
  have T := T0.then_no T1
  have c4 := B2.c
  have f4 := B2.f
  have c5 := B2.set (.slice none 0 0)
  clear hso B1 B2
  go_wp2_with fail
  exact bodyPost_ret (v := .tuple #[.agg #[.slice none 0 0], .int .i64 (soundE c)]) (by simp [results, Try.results11, go_sem, c5]) rfl ⟨rfl, T.set0 (by omega) _⟩

set_option maxRecDepth 100000 in
set_option maxHeartbeats 1000000 in
theorem renew11_list (w : World) (vc v : Value) (c l : List Mb) (hc : Ms w vc c) (h : Ms w v l) (hE : soundE c = 0) (hL : weighE l ≠ 0) : Calls Try.prog 11 #[.agg #[vc], v] w fun e w' => e = .returned (.tuple #[.agg #[.slice none 0 0], .int .i64 (weighE l)]) ∧ Turn no w w' := by
  have T0 : Turn no w ((w.alloc (.cells #[vc] 26)).alloc (.cells #[.slice none 0 0] 26)) := ((Turn.refl no w).alloc _).alloc _
  have B1 := Bx.new (w.alloc (.cells #[vc] 26)) (.slice none 0 0) 26
  rw [show (w.alloc (.cells #[vc] 26)).heap.size = w.heap.size + 1 by simp] at B1
  have hso := sound27 _ vc c (hc.turn_no T0)
  rw [hE] at hso
  have hwe := fun W (T : Turn no w W) => weigh36 W v l (h.turn_no T)
  have hne : (weighE l == 0) = false := by simp; exact hL
  clear h hc
  go_enter Try.func11, Try.ntmps11
  go_wp2_with fail
  refine hso.mono ?_
  rintro e w1 ⟨rfl, T1⟩
  have B2 := B1.turn_no T1
  have T := T0.then_no T1
  have hwe := hwe w1 T
  clear hso B1
  go_wp2_with fail
  refine hwe.mono ?_
  rintro e w2 ⟨rfl, T2⟩
  have B2 := B2.turn_no T2
  have T := T.then_no T2
  have c4 := B2.c
  have f4 := B2.f
  have c5 := B2.set (.slice none 0 0)
  clear hwe B2
  go_wp2_with fail
  exact bodyPost_ret (v := .tuple #[.agg #[.slice none 0 0], .int .i64 (weighE l)]) (by simp [results, Try.results11, go_sem, c5]) rfl ⟨rfl, T.set0 (by omega) _⟩

set_option maxRecDepth 100000 in
set_option maxHeartbeats 1000000 in
theorem rrenew21_bad (w : World) (vc v : Value) (c l : List Mb) (hc : Ms w vc c) (h : Ms w v l) (hE : soundE c ≠ 0) : Calls Try.prog 21 #[.agg #[vc], v] w fun e w' => e = .returned (.tuple #[.agg #[.slice none 0 0], .int .i64 (soundE c)]) ∧ Turn no w w' := by
  have T0 : Turn no w ((w.alloc (.cells #[vc] 26)).alloc (.cells #[.slice none 0 0] 26)) := ((Turn.refl no w).alloc _).alloc _
  have B1 := Bx.new (w.alloc (.cells #[vc] 26)) (.slice none 0 0) 26
  rw [show (w.alloc (.cells #[vc] 26)).heap.size = w.heap.size + 1 by simp] at B1
  have hso := rsound11 _ vc c (hc.turn_no T0)
  have hne : (soundE c == 0) = false := by simp; exact hE
  clear h hc
  go_enter Try.func21, Try.ntmps21
  go_wp2_with fail
  refine hso.mono ?_
  rintro e w1 ⟨rfl, T1⟩
  have B2 := B1.turn_no T1
  have T := T0.then_no T1
  have c4 := B2.c
  have f4 := B2.f
  have c5 := B2.set (.slice none 0 0)
  clear hso B1 B2
  go_wp2_with fail
  exact bodyPost_ret (v := .tuple #[.agg #[.slice none 0 0], .int .i64 (soundE c)]) (by simp [results, Try.results21, go_sem, c5]) rfl ⟨rfl, T.set0 (by omega) _⟩

set_option maxRecDepth 100000 in
set_option maxHeartbeats 1000000 in
theorem rrenew21_list (w : World) (vc v : Value) (c l : List Mb) (hc : Ms w vc c) (h : Ms w v l) (hb : l.length * 24 ≤ 140737488351232) (hE : soundE c = 0) (hL : weighE l ≠ 0) : Calls Try.prog 21 #[.agg #[vc], v] w fun e w' => e = .returned (.tuple #[.agg #[.slice none 0 0], .int .i64 (weighE l)]) ∧ Turn no w w' := by
  have T0 : Turn no w ((w.alloc (.cells #[vc] 26)).alloc (.cells #[.slice none 0 0] 26)) := ((Turn.refl no w).alloc _).alloc _
  have B1 := Bx.new (w.alloc (.cells #[vc] 26)) (.slice none 0 0) 26
  rw [show (w.alloc (.cells #[vc] 26)).heap.size = w.heap.size + 1 by simp] at B1
  have hso := rsound11 _ vc c (hc.turn_no T0)
  rw [hE] at hso
  have hwe := fun W (T : Turn no w W) => rnew16_no W v l (h.turn_no T) hb hL
  have hne : (weighE l == 0) = false := by simp; exact hL
  clear h hc
  go_enter Try.func21, Try.ntmps21
  go_wp2_with fail
  refine hso.mono ?_
  rintro e w1 ⟨rfl, T1⟩
  have B2 := B1.turn_no T1
  have T := T0.then_no T1
  have hwe := hwe w1 T
  clear hso B1
  go_wp2_with fail
  refine hwe.mono ?_
  rintro e w2 ⟨rfl, T2⟩
  have TA : Turn no w2 (w2.alloc (.cells #[.slice none 0 0] 26)) := (Turn.refl no w2).alloc _
  have hlt := (B2.turn_no T2).lt
  have B2 := (B2.turn_no T2).turn_no TA
  have T := (T.then_no T2).then_no TA
  have c4 := B2.c
  have f4 := B2.f
  have c5 := B2.set (.slice none 0 0)
  have Tf := T.set0 (g := w.heap.size + 1) (by omega) (.slice none 0 0)
  clear hwe B2 hlt
  go_wp2_with fail
  exact bodyPost_ret (v := .tuple #[.agg #[.slice none 0 0], .int .i64 (weighE l)]) (by simp [results, Try.results21, go_sem, c5]) rfl ⟨rfl, Tf⟩

theorem tk_zeroed (c l : List Mb) (t : Nat) : (zeroed l).map (tkM c t) = l.map (tkM c t) := by simp [zeroed, tkM, Function.comp_def]

set_option maxRecDepth 100000 in
set_option maxHeartbeats 2000000 in
theorem rrenew21_yes (w : World) (vc v : Value) (c l : List Mb) (hc : Ms w vc c) (h : Ms w v l) (hE : soundE c = 0) (hL : weighE l = 0) : Calls Try.prog 21 #[.agg #[vc], v] w fun e w' => ∃ u, e = .returned (.tuple #[.agg #[u], .int .i64 0]) ∧ Made w.heap.size w' u (renewL c l) ∧ Turn no w w' := by
  have T0 : Turn no w ((w.alloc (.cells #[vc] 26)).alloc (.cells #[.slice none 0 0] 26)) := ((Turn.refl no w).alloc _).alloc _
  have B0 := (Bx.new w vc 26).turn_no ((Turn.refl no _).alloc (.cells #[.slice none 0 0] 26))
  have B1 := Bx.new (w.alloc (.cells #[vc] 26)) (.slice none 0 0) 26
  rw [show (w.alloc (.cells #[vc] 26)).heap.size = w.heap.size + 1 by simp] at B1
  have hz0 : w.heap.size + 1 < ((w.alloc (.cells #[vc] 26)).alloc (.cells #[.slice none 0 0] 26)).heap.size := by simp
  have hso := rsound11 _ vc c (hc.turn_no T0)
  rw [hE] at hso
  obtain ⟨hn0, hn64, _, htop⟩ := weigh_ok l hL
  have hnew := fun W (T : Turn no w W) => rnew16_yes W v l (h.turn_no T) hL
  have hpw := weigh_pw (zeroed l) (by rw [zeroed_weigh]; exact hL)
  have htz := zeroed_tot l
  have htt := tot_le_top l hL
  have hpos := tot_pos l hL
  have hA := took_abs c l (tot l) hE htt
  have hA2 := hA.narr (2 * tot l)
  have hnear := near_avg (2 * tot l) (narr (2 * tot l) (l.map (tkM c (tot l)))) (by rw [narr_len, List.length_map]; omega) (narr_near (2 * tot l) (l.map (tkM c (tot l))) (by omega))
  have hrl : Hid (renewL c l = cent (narr (2 * tot l) (l.map (tkM c (tot l))))) := rfl
  have hzm := tk_zeroed c l (tot l)
  obtain ⟨ac, capc, rfl, C⟩ := hc
  have hold : c ≠ [] := by
    intro q
    have := (weigh_ok c (sound_ok c hE).1).1
    rw [q] at this
    exact this rfl
  obtain ⟨y0, hy0⟩ : ∃ y, c[0]? = some y := by
    cases c with
    | nil => exact absurd rfl hold
    | cons y r => exact ⟨y, rfl⟩
  obtain ⟨b0, o0, eac, x0, xx⟩ := C.cells 0 y0 hy0
  subst eac
  have hb0 : b0 < w.heap.size := World.block_lt_of_cell? w _ x0
  have hcle : c.length ≤ 9223372036854775807 := by have := C.le; have := C.cap; simp only [maxLen] at this; omega
  clear h x0 xx hy0 hold hE hL
  obtain ⟨t, ht⟩ : ∃ t, Hid (tot l = t) := ⟨_, rfl⟩
  have ht' : tot l = t := ht.out
  rw [ht'] at htt hpos hA hA2 hnear hrl hzm htop htz
  have hln0 := zeroed_len l
  have hln1 : (l.map (tkM c t)).length = l.length := List.length_map _
  have hln2 := narr_len (2 * t) (l.map (tkM c t))
  rw [hln1] at hln2
  rw [hln2] at hnear
  obtain ⟨nc, hnc⟩ : ∃ nc, Hid (c.length = nc) := ⟨_, rfl⟩
  have hnc' : c.length = nc := hnc.out
  obtain ⟨n, hn⟩ : ∃ n, Hid (l.length = n) := ⟨_, rfl⟩
  have hn' : l.length = n := hn.out
  rw [hn'] at hn0 hn64 hln0 hln1 hln2 hnear
  rw [hnc'] at hso T0 B0 B1 hz0 hcle ⊢
  clear ht' hn' hnc'
  have ht2 : (t : Int) ≤ 1152921504606846975 := by omega
  obtain ⟨z, hz⟩ : ∃ z, Hid (zeroed l = z) := ⟨_, rfl⟩
  rw [show zeroed l = z from hz.out] at hnew hpw htz hzm hln0
  go_enter Try.func21, Try.ntmps21
  go_wp2_with fail
  refine hso.mono ?_
  rintro e w1 ⟨rfl, T1⟩
  have B02 := B0.turn_no T1
  have B12 := B1.turn_no T1
  have T := T0.then_no T1
  have hz1 := T1.size
  have hnew := hnew w1 T
  clear hso B0 B1
  go_wp2_with fail
  refine hnew.mono ?_
  rintro e w2 ⟨u, rfl, ⟨g, cap, eu, R, hg⟩, T2⟩
  rw [hln0] at eu
  subst eu
  have TA : Turn no w2 (w2.alloc (.cells #[.slice (some ⟨g, 0, none⟩) n cap] 26)) := (Turn.refl no w2).alloc _
  have BD := Bx.new w2 (.slice (some ⟨g, 0, none⟩) n cap) 26
  have hw2 := T2.size
  have R := R.turn_no TA
  have hgl := R.lt
  have B02 := (B02.turn_no T2).turn_no TA
  have B12 := (B12.turn_no T2).turn_no TA
  have T := (T.then_no T2).then_no TA
  have hgw : w.heap.size + 1 < g := by omega
  have hrt := rtotal35 _ (.slice (some ⟨g, 0, none⟩) n cap) z ⟨_, cap, by rw [hln0], R.at⟩ hpw
  clear hnew hg hz0 hz1
  go_wp2_with fail
  generalize w2.alloc (.cells #[.slice (some ⟨g, 0, none⟩) n cap] 26) = w3 at *
  refine hrt.mono ?_
  rintro e w4 ⟨Rt, rfl, R1, _, _, e1⟩
  have e1 := e1.symm
  subst e1
  have hRt := (R1 (by rw [htz]; exact htop)).trans htz
  subst hRt
  have C3 := C.turn_no T
  clear hrt R1 TA T1 T2 T0 C hpw
  go_wp2_with fail
  go_loopw [10] (fun x wr => ∃ k : Nat, k ≤ n ∧ x = .int .i64 k ∧ Rw wr g cap (mapTo (tkM c Rt) z k) ∧ Turn (fun b => b = g) w3 wr) (fun x _ => n - (intOf x).toNat)
  case atStart => exact ⟨0, by omega, rfl, by rw [mapTo_zero]; exact R, Turn.refl _ _⟩
  case round =>
    clear R
    obtain ⟨k, hk, rfl, R, TR⟩ := hrel
    by_cases hlt : k < n
    · obtain ⟨m, hm⟩ : ∃ m, z[k]? = some m := ⟨z[k]'(by rw [hln0]; exact hlt), List.getElem?_eq_getElem _⟩
      have hlt' : (k : Int) < (n : Int) := by omega
      have hgr := R.lt
      obtain ⟨c0, c1, c2⟩ := R.cells k m (mapTo_at _ z k m hm)
      have C4 := C3.turn TR (fun x hx => by cases hx; show b0 ≠ g; omega)
      have B4 := B02.turn TR (fun q => by omega)
      have b4 := B4.c
      have hix := fun W (hT : Turn no wr W) => rindex31 W (.slice (some ⟨b0, o0, none⟩) nc capc) c ⟨_, capc, by rw [show c.length = nc from hnc.out], C4.turn_no hT⟩ m.ad
      have hms := mapTo_succ (tkM c Rt) z k m hm
      rw [show tkM c Rt m = { m with pr := pri c Rt m.ad } from rfl] at hms
      have hspec := idx_spec c m.ad
      have hpn := pri_none c Rt m.ad
      have hps := pri_some c Rt m.ad
      have hset : ∀ (W : World) (x : Int), Turn no wr W → (-9223372036854775808 ≤ x ∧ x < 9223372036854775808) → Rw (W.setCell ⟨g, k * 3 + 2, none⟩ (.int .i64 x)) g cap ((mapTo (tkM c Rt) z k).set k { m with pr := x }) := fun W x hT hx => (R.turn_no hT).set k m (mapTo_at _ z k m hm) x hx
      have hRW := fun W (hT : Turn no wr W) => R.turn_no hT
      have hcm := fun W (hT : Turn no wr W) => (R.turn_no hT).cells k m (mapTo_at _ z k m hm)
      clear hm R
      go_wp2_with fail
      refine wp_region_held_drew (S := fun W => Turn no wr W) (by kernel_rfl) (Turn.refl _ wr).drew (fun hHeld => ?_)
      refine' wpAnyH_take (i := 0) (v := .agg #[.slice (some ⟨b0, o0, none⟩) nc capc]) rfl (by kernel_rfl) (by kernel_rfl) (by kernel_rfl) (fun _ _ _ h => h) (Or.inl ⟨by kernel_rfl, fun W hW => ?y1⟩) hHeld ?r1
      · have c := hW.keep b4 (fun q => q)
        go_simp
      refine' wpAnyH_take (i := 1) (v := .slice (some ⟨g, 0, none⟩) n cap) rfl (by kernel_rfl) (by kernel_rfl) (by kernel_rfl) (fun _ _ _ h => h) (Or.inl ⟨by kernel_rfl, fun W hW => ?y2⟩) hHeld ?r2
      · go_simp
      refine' wpAnyH_take (i := 2) (v := .int .i64 k) rfl (by kernel_rfl) (by kernel_rfl) (by kernel_rfl) (fun _ _ _ h => h) (Or.inl ⟨by kernel_rfl, fun W hW => ?y3⟩) hHeld ?r3
      · go_simp
      refine' wpAnyH_take (i := 3) (v := .pointer (some ⟨g, k * 3, none⟩)) rfl (by kernel_rfl) (by kernel_rfl) (by kernel_rfl) (fun _ _ _ h => h) (Or.inl ⟨by kernel_rfl, fun W hW => ?y4⟩) hHeld ?r4
      · go_simp
      refine' wpAnyH_take (i := 4) (v := .pointer (some ⟨g, k * 3, none⟩)) rfl (by kernel_rfl) (by kernel_rfl) (by kernel_rfl) (fun _ _ _ h => h) (Or.inl ⟨by kernel_rfl, fun W hW => ?y5⟩) hHeld ?r5
      · go_simp
      refine' wpAnyH_take (i := 5) (v := .int .u64 m.ad) rfl (by kernel_rfl) (by kernel_rfl) (by kernel_rfl) (fun _ _ _ h => h) (Or.inl ⟨by kernel_rfl, fun W hW => ?y6⟩) hHeld ?r6
      · have c := hW.keep c0 (fun q => q)
        go_simp
      refine wpAnyH_ready (rs := [6]) (by kernel_rfl) (by simp) ?_
      refine AllReadyH.cons rfl (fun K hK => ?_) AllReadyH.nil
      go_simp
      refine (hix _ hHeld).mono ?_
      rintro e w5 ⟨rfl, T5⟩
      have T5 := hHeld.then_no T5
      rcases hspec with hI | ⟨i, x, hI, hx, _⟩
      · rw [hI]
        go_wp2_with fail
        refine hK.out _ _ T5 (fun hHeld => ?_)
        clear hK
        refine wpAnyH_ready (rs := [7]) (by kernel_rfl) (by simp) ?_
        refine AllReadyH.cons rfl (fun K hK => ?_) AllReadyH.nil
        go_simp
        refine hK.out _ _ T5 (fun hHeld => ?_)
        clear hK
        refine wpAnyH_done (by kernel_rfl) ?_ _
        obtain ⟨v1, hv1⟩ : ∃ v1 : Int, Hid (-((Rt + Rt / 8 : Nat) : Int) = v1) := ⟨_, rfl⟩
        have hv2 : -((Rt : Int) + (Rt : Int) / 8) = v1 := by rw [← hv1.out]; omega
        have hv3 : -9223372036854775808 ≤ v1 ∧ v1 < 9223372036854775808 := by rw [← hv1.out]; omega
        rw [show -((Rt + Rt / 8 : Nat) : Int) = v1 from hv1.out] at hpn
        have R6 := hset w5 v1 T5 hv3
        rw [← hpn hI, hms] at R6
        rw [hpn hI] at R6
        obtain ⟨d0, d1, d2⟩ := hcm w5 T5
        have f5 := (hRW w5 T5).frozen (k * 3 + 2)
        have hg5 := (hRW w5 T5).lt
        have T6 := (TR.then_no T5).setCell (p := ⟨g, k * 3 + 2, none⟩) (fun _ => rfl) (.int .i64 v1)
        clear hset hRW hcm hms hpn hps hI hix C3 C4 hHeld c0 c1 c2 hv3
        go_wp2_with fail
        go_roundw
        case rel => exact ⟨k + 1, by omega, by go_num, R6, T6⟩
        case measure => simp [intOf]; omega
      · rw [hI]
        go_wp2_with fail
        refine hK.out _ _ T5 (fun hHeld => ?_)
        clear hK
        refine wpAnyH_ready (rs := [7]) (by kernel_rfl) (by simp) ?_
        refine AllReadyH.cons rfl (fun K hK => ?_) AllReadyH.nil
        go_simp
        refine hK.out _ _ T5 (fun hHeld => ?_)
        clear hK
        refine wpAnyH_done (by kernel_rfl) ?_ _
        have hps := hps i x hI hx
        have hil : i < nc := by rw [← hnc.out]; exact (List.getElem?_eq_some_iff.1 hx).1
        have hil' : (i : Int) < (nc : Int) := by omega
        have hok := C3.ok x (List.mem_of_getElem? hx)
        have R6 := hset w5 x.pr T5 ⟨hok.2.2.1, hok.2.2.2⟩
        rw [← hps, hms] at R6
        rw [hps] at R6
        obtain ⟨d0, d1, d2⟩ := hcm w5 T5
        obtain ⟨bc, offc, eac, x0, x1, x2⟩ := (C4.turn_no T5).cells i x hx
        cases eac
        have b5 := (B4.turn_no T5).c
        have f5 := (hRW w5 T5).frozen (k * 3 + 2)
        have hg5 := (hRW w5 T5).lt
        have T6 := (TR.then_no T5).setCell (p := ⟨g, k * 3 + 2, none⟩) (fun _ => rfl) (.int .i64 x.pr)
        clear hset hRW hcm hms hpn hps hI hix C3 C4 hHeld c0 c1 c2 hok hx
        go_wp2_with fail
        go_roundw
        case rel => exact ⟨k + 1, by omega, by go_num, R6, T6⟩
        case measure => simp [intOf]; omega
    · have hkn : k = n := by omega
      subst hkn
      have hlt' : ¬ (k : Int) < (k : Int) := by omega
      rw [mapTo_all _ z k hln0, hzm] at R
      have hdr := narrowed42 wr g cap Rt _ R (by rw [hln1]; omega) (by rw [hln1]; exact hn64) hA (by omega) (by omega)
      rw [hln1] at hdr
      have B13 := B12.turn TR (fun q => by omega)
      have TT := T.of_no.trans TR (fun _ _ q => q)
      clear C3
      go_wp2_with fail
      refine hdr.mono ?_
      rintro e w5 ⟨rfl, R5, T5⟩
      have hce := centred43 w5 g cap _ R5 (by rw [hln2]; omega) (by rw [hln2]; exact hn64) hA2 (fun m hm => by rw [hln2]; have := hnear m hm; omega)
      rw [hln2, ← hrl.out] at hce
      have B14 := B13.turn T5 (fun q => by omega)
      have TT := TT.trans T5 (fun _ _ q => q)
      clear hdr R hA hA2
      go_wp2_with fail
      refine hce.mono ?_
      rintro e w6 ⟨rfl, R6, T6⟩
      have B15 := B14.turn T6 (fun q => by omega)
      have TT := TT.trans T6 (fun _ _ q => q)
      have c4 := B15.c
      have f4 := B15.f
      have c5 := B15.set (.slice (some ⟨g, 0, none⟩) k cap)
      have Tw : Turn no w w6 := TT.mono (fun b hb q => by omega)
      have R7 := R6.turn ((Turn.refl (fun b => b = w.heap.size + 1) w6).setCell (p := ⟨w.heap.size + 1, 0, none⟩) (fun _ => rfl) (.slice (some ⟨g, 0, none⟩) k cap)) (fun q => by omega)
      have MD : Made w.heap.size (w6.setCell ⟨w.heap.size + 1, 0, none⟩ (.slice (some ⟨g, 0, none⟩) k cap)) (.slice (some ⟨g, 0, none⟩) k cap) (renewL c l) := ⟨g, cap, by rw [renew_len, show l.length = k from hn.out], R7, by omega⟩
      have T8 := Tw.set0 (g := w.heap.size + 1) (by omega) (.slice (some ⟨g, 0, none⟩) k cap)
      clear hce R5 R6 R7 hnear B13 B14 B15 TT Tw
      go_wp2_with fail
      exact bodyPost_ret (v := .tuple #[.agg #[.slice (some ⟨g, 0, none⟩) k cap], .int .i64 0]) (by simp [results, Try.results21, go_sem, c5]) rfl ⟨_, rfl, MD, T8⟩
end Go.Proofs.Ytcmoocoklhjkfab
