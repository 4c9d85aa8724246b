/- WalCrash, the walk. -/
import Derived.Test.YtbkbecjgphjpkabDoorG10
import Derived.Test.YtbkbecjgphjpkabDoorG18
import Derived.Deep.CutRange
namespace Go.Proofs.YtbkbecjgphjpkabDoor
open Go.RowKit Go.Maps
set_option linter.unusedVariables false
set_option maxRecDepth 100000 in
set_option maxHeartbeats 8000000 in
theorem crash3 (W0 : World) (v : Value) (ls : List Lif) (hv : Lvs W0 v ls) (hL : LaidT W0) (hB : ∀ f ∈ ls, f.rs.length ≤ 140737488355328 ∧ (∀ t ∈ f.rs, t.2.length ≤ 140737488355328) ∧ f.arms.length ≤ 140737488355328) : Calls Tryd.prog 3 #[v] W0 fun e w' => e = .returned (.bool true) ∧ Turn no W0 w' := by
  have hpos : 0 < W0.heap.size := World.block_lt_of_cell? W0 _ (hL 0 (by decide))
  obtain ⟨a, cap, rfl, hll, hc⟩ := id hv
  have HC := Hid.mk' hv
  clear hc hv
  obtain ⟨N, hN⟩ : ∃ N, ls.length = N := ⟨_, rfl⟩
  rw [hN] at hll ⊢
  go_enter Tryd.func3, Tryd.ntmps3
  go_wp2_with fail
  refine (new_next W0).mono ?_
  intro e' w1 nx
  obtain ⟨p0, rfl, R0⟩ := Rnd.start nx
  clear nx
  unfold ptr
  go_wp2_with fail
  refine (num5 _ _).mono ?_
  rintro e' w2 ⟨rfl, rfl⟩
  go_wp2_with fail
  go_loopw [3, 5, 6, 7, 8] (fun pp vh vm sf ii wr => ∃ (i p safe : Nat), i ≤ N ∧ pp = ptr p ∧ ii = .int .i64 i ∧ sf = .int .i64 safe ∧ Rnd W0 wr p vh vm safe) (fun _ _ _ _ ii _ => N - (intOf ii).toNat)
  case atStart => exact ⟨0, p0, 0, Nat.zero_le _, rfl, rfl, rfl, R0⟩
  case round =>
    obtain ⟨i, p, safe, hi, rfl, rfl, rfl, R⟩ := hrel
    by_cases hlt : i < N ∧ i < 40
    · have hlt' : (i : Int) < (N : Int) := by omega
      have hlt4 : (i : Int) < 40 := by omega
      have hi1 : Hid (i + 1 ≤ N) := hlt.1
      clear hlt
      obtain ⟨K, s, x, ts, ms, h1, h2, h3, h4, h5, h6, h7, h8, h9, h10, h11, h12⟩ := R
      have hL1 : LaidT wr := hL.turn h10 (fun z => z)
      have h00 : ¬ K 0 := fun z => by have := h4 0 z; have := hpos; omega
      unfold ptr
      go_wp2_with fail
      refine (show Calls Tryd.prog 6 #[.pointer (some ⟨p, 0, none⟩), .string ⟨#[108, 111, 103]⟩] wr _ from open_first h1 h2 h3 hL1 h00).mono ?_
      rintro e' w3 ⟨q, vl, C, M1, rfl, o1, o2, o3, o4, o5, o6, o7, o8⟩
      obtain ⟨gts, g1, g2, g3, g4⟩ := o3.its
      obtain ⟨la, ln, lc, rfl, hln⟩ := g2.fn
      rw [List.length_map] at hln
      have hlx : gts.length = x.length := by rw [← g1, List.length_map]
      obtain rfl : ln = x.length := by rw [← hlx]; exact hln.out
      have hcase : (gts.length ≤ ts.length ∧ gts.map (·.2) = (ts.take gts.length).map (·.2)) ∨ (ts.length < gts.length ∧ gts.map (·.2) = (ts ++ ms).map (·.2)) := by
        rw [g1, List.map_append, List.map_take, hlx]
        rcases h9 with h9 | h9
        · exact Or.inl h9
        · by_cases hms : ms = []
          · subst hms
            rw [List.map_nil, List.append_nil] at h9
            have hl : x.length = ts.length := by rw [h9, List.length_map]
            exact Or.inl ⟨by omega, by rw [hl, List.take_of_length_le (by simp)]; exact h9⟩
          · have hl : x.length = ts.length + ms.length := by rw [h9, List.length_append, List.length_map, List.length_map]
            have : 0 < ms.length := List.length_pos_iff.2 hms
            exact Or.inr ⟨by omega, h9⟩
      obtain ⟨ha, hn, hcp, rfl⟩ := h5.own.form
      obtain ⟨ma, mn, mcp, rfl⟩ := h6.own.form
      unfold ptr
      go_wp2_with fail
      refine (num5 _ _).mono ?_
      rintro e' w4 ⟨rfl, rfl⟩
      have k1 : Hr w4 (.slice ha hn hcp) ts := h5.turn o8 (fun k z => (h7 k (Or.inl z)).2)
      have k2 : Hr w4 (.slice ma mn mcp) ms := h6.turn o8 (fun k z => (h7 k (Or.inr z)).2)
      have hb1 : ts.length ≤ 1099511627776 := by omega
      have hb2 : ms.length ≤ 1099511627776 := by omega
      have TA : Turn no w4 (w4.alloc (.cells #[] 55)) := (Turn.refl no w4).alloc _
      go_wp2_with (at_builtin; go_loud (refine wpList_append_src rfl (.tmp 52) (.tmp 53) rfl Tryd.underlying28 info55 rfl _ [] rfl (own_empty w4 55) _ ts.length _ rfl (Bl.src Tryd.underlying28 (k1.bl.turn_no TA)) ?b ?m ?_))
      case b => simp; omega
      case m => unfold maxLen; simp; omega
      intro v5 w5 O5 g5 _
      have f0 : ∀ q, (Value.slice (some ⟨w4.heap.size, 0, none⟩) 0 0).ownBlock = some q → w4.heap.size ≤ q := fun k q => by cases q; exact Nat.le_refl _
      have t5 : Turn no w4 w5 := TA.fresh g5 f0
      have f5 := g5.fresh f0 (by simp)
      obtain ⟨ua, un, uc, rfl⟩ := O5.form
      go_wp2_with (at_builtin; go_loud (refine wpList_append_src rfl (.tmp 54) (.tmp 55) rfl Tryd.underlying28 info55 rfl _ _ rfl O5 _ ms.length _ rfl (Bl.src Tryd.underlying28 (k2.bl.turn_no t5)) ?b ?m ?_))
      case b => simp; omega
      case m => unfold maxLen; simp; omega
      intro v6 w6 O6 g6 _
      have t6 : Turn no w4 w6 := t5.fresh g6 f5
      have f6 := g6.fresh f5 t5.size
      obtain ⟨aa, an, ac, rfl⟩ := O6.form
      have Bx : Bl w6 (.slice la x.length lc) gts := (Own.bl g2 (fun t ht => (g4 t ht).1.bs)).turn_no t6
      have Bh : Bl w6 (.slice ha hn hcp) ts := k1.bl.turn_no t6
      have Bw : Bl w6 (.slice aa an ac) (ts ++ ms) := Own.bl (by simpa using O6) (fun t ht => by
        rcases List.mem_append.1 ht with z | z
        · exact ((k1.els t z).turn_no t6).bs
        · exact ((k2.els t z).turn_no t6).bs)
      have hsafe : ¬ (x.length : Int) < (safe : Int) := by omega
      go_upto_region 14 with fail
      go_cut [72] from 29 to 181 (fun c wx => c = .bool false ∧ Turn no w6 wx)
      case first =>
        rcases hcase with ⟨u1, u2⟩ | ⟨u1, u2⟩
        · go_wp2_with fail
          refine (first7_yes w6 _ _ _ _ Bx Bh u1 u2).mono ?_
          rintro e' w7 ⟨rfl, t7⟩
          go_wp2_with fail
          go_meet
          case rel => exact ⟨rfl, t7⟩
        · go_wp2_with fail
          refine (first7_no w6 _ _ _ _ Bx Bh u1).mono ?_
          rintro e' w7 ⟨rfl, rfl⟩
          go_wp2_with fail
          refine (sameLists18 _ _ _ _ _ Bx Bw u2).mono ?_
          rintro e' w8 ⟨rfl, t8⟩
          go_wp2_with fail
          go_meet
          case rel => exact ⟨rfl, t8⟩
      case rest =>
        obtain ⟨rfl, t7⟩ := hcut
        have T7 : Turn no w4 wc := t6.then_no t7
        have s1 := h10.size
        have s2 := o8.size
        have s3 := T7.size
        have h01 : ¬ M1 0 := fun z => by
          rcases o5 0 z with z | z
          · exact h00 z
          · omega
        have D2 := o4.turn_no T7
        have hL3 : LaidT wc := (hL1.turn o8 h00).turn T7 (fun z => z)
        have hgM : ∀ k, M1 k → k < wr.heap.size ∨ C ≤ k := fun k z => by
          rcases o5 k z with z | z
          · exact Or.inl (h1.klt k z)
          · exact Or.inr z
        clear Bx Bh Bw O5 O6 g5 g6 f5 f6 t5 t6 TA hcase k1 k2
        go_wp2_with fail
        refine (show Calls Tryd.prog 6 #[.pointer (some ⟨p, 0, none⟩), .string ⟨#[108, 111, 103]⟩] wc _ from open_again D2 h2 h3 hL3 h01).mono ?_
        rintro e' w9 ⟨q2, vl2, C2, M2, rfl, p1, p2, p3, p4, p5, p6, p7, p8⟩
        have X1 : LsK wr.heap.size C w9 (.slice la x.length lc) x := (o3.turn_no T7).turn p8 hgM
        have G9 : Lg w9 q p nm0 x.length x.length false := (o7.turn_no T7).turn p8 o6
        obtain ⟨ya, yn, yc, rfl⟩ := p3.its.choose_spec.2.1.form
        unfold ptr
        go_wp2_with fail
        refine (num5 _ _).mono ?_
        rintro e' w10 ⟨rfl, rfl⟩
        obtain ⟨us, i1, i2, i3, i4⟩ := X1.its
        obtain ⟨vs, j1, j2, j3, j4⟩ := p3.its
        go_wp2_with fail
        refine (sameLists18 w10 _ _ us vs (Own.bl i2 (fun t ht => (i4 t ht).1.bs)) (Own.bl j2 (fun t ht => (j4 t ht).1.bs)) (by rw [i1, j1])).mono ?_
        rintro e' w11 ⟨rfl, t11⟩
        go_wp2_with fail
        refine (show Calls Tryd.prog 9 #[.pointer (some ⟨q, 0, none⟩)] w11 _ from count9 (G9.turn_no t11)).mono ?_
        rintro e' w12 ⟨rfl, nd, e12⟩
        have t12 : Turn no w10 w12 := by rw [e12]; exact t11.drewN nd
        clear e12 t11
        have hux : us.length = x.length := by rw [← i1, List.length_map]
        have hxs : x.length ≤ 1073741824 := Bt.short h1 h2
        have D12 := p4.turn_no t12
        have L12 := G9.turn_no t12
        have X12 := X1.turn_no t12
        have hM2 : ∀ k, M2 k → (k < wr.heap.size ∨ C ≤ k) ∧ ¬ k < W0.heap.size := fun k z => by
          have s4 := p8.size
          rcases p5 k z with z | z
          · refine ⟨hgM k z, fun z' => ?_⟩
            rcases o5 k z with z | z
            · have := h4 k z; omega
            · omega
          · have := o7.lt
            exact ⟨Or.inr (by omega), by omega⟩
        have hMq : ¬ M2 q := fun z => by
          rcases p5 q z with z | z
          · exact o6 z
          · have := (o7.turn_no T7).lt; omega
        have TT : Turn (fun k => ¬ k < W0.heap.size) W0 w12 := (((h10.of_no.trans o8 (fun i hi z => by have := h4 i z; omega)).then_no T7).trans p8 (fun i hi z => by
          rcases o5 i z with z | z
          · have := h4 i z; omega
          · omega)).then_no t12
        have hb0 := h2.begins h3
        have hbn := (h2.opn h3).1.n1
        have hbm := (h2.opn h3).1.m0
        obtain ⟨us2, i1', i2', i3', Bu, HL⟩ := Lm.begin (fun k z => z) s1 X12 D12 hM2 hMq o2 o1 L12 hb0 TT
        have hux2 : us2.length = x.length := by rw [← i1', List.length_map]
        clear us i1 i2 i3 i4 vs j1 j2 j3 j4 hux X1 G9 X12 L12 D12 hM2 hMq TT hb0 p3 p4 p5 p6 p7 p8 D2 hgM
        have TB : Turn no w12 (w12.alloc (.cells #[] 55)) := (Turn.refl no w12).alloc _
        have hx0 : ¬ (x.length : Int) < 0 := by omega
        go_wp2_with (at_builtin; go_loud (refine wpList_append_src rfl (.tmp 115) (.tmp 116) rfl Tryd.underlying28 info55 rfl _ [] rfl (own_empty w12 55) _ us2.length _ rfl (Bl.src Tryd.underlying28 (Bu.turn_no TB)) ?b ?m ?_))
        case b => simp; omega
        case m => unfold maxLen; simp; omega
        intro v13 w13 O13 g13 _
        have f13 : ∀ q, (Value.slice (some ⟨w12.heap.size, 0, none⟩) 0 0).ownBlock = some q → w12.heap.size ≤ q := fun k q => by cases q; exact Nat.le_refl _
        have t13 : Turn no w12 w13 := TB.fresh g13 f13
        have LM := HL v13 w13 t13 (by simpa using O13) (g13.fresh f13 (by simp))
        clear HL Bu
        obtain ⟨va, vn, vc, rfl⟩ := O13.form
        clear O13 g13 t13 f13
        obtain ⟨f, hf⟩ : ∃ f, ls[i]? = some f := ⟨ls[i]'(by have := hi1.out; omega), List.getElem?_eq_getElem _⟩
        obtain ⟨fg, fo, ra, rc, ya', yc', ta, tc, ea, hfg, FA, FB, FV, FT⟩ := HC.out.at i f hf
        obtain ⟨hc1, hc1', hc2⟩ := hB f (List.mem_of_getElem? hf)
        subst ea
        rw [FA.e2] at FT
        obtain ⟨A, hA⟩ : ∃ A, f.arms.length = A := ⟨_, rfl⟩
        rw [hA] at FA FT hc2
        have hbn' : (opnS s nm0).n < 4611686018427387904 := by omega
        rw [hbm] at LM
        go_wp2_with fail
        go_loopw [18] (fun jj wl => ∃ j : Nat, j ≤ A ∧ jj = .int .i64 j ∧ Lm W0 (fun k => k < W0.heap.size) wl q p (.slice va vn vc) (.slice none 0 0) us2 [] (us2.map (·.2)) [] x.length x.length x.length false (opnS s nm0).n j) (fun jj _ => A - (intOf jj).toNat)
        case atStart => exact ⟨0, Nat.zero_le _, rfl, LM⟩
        case round =>
          obtain ⟨j, hj, rfl, LJ⟩ := hrel
          have FJ := FA.turn LJ.T (fun z => z hfg)
          have z2 := FJ.c2
          by_cases hjl : j < A
          · have hjl' : (j : Int) < (A : Int) := by omega
            have hj1 : Hid (j + 1 ≤ A) := hjl
            obtain ⟨tr, htr⟩ : ∃ tr, f.arms[j]? = some tr := ⟨f.arms[j]'(by omega), List.getElem?_eq_getElem _⟩
            obtain ⟨tg, tof, rfl, htg, TA⟩ := FT.at j tr htr
            have TJ := TA.turn LJ.T (fun z => z htg)
            have d0 := TJ.c0
            have d1 := TJ.c1
            have d2 := TJ.c2
            have cA := LJ.arm hbn' (by omega) tr
            unfold trV ptr at cA
            clear TJ TA htr FJ LJ
            go_wp2_with fail
            refine cA.mono ?_
            rintro e' w14 ⟨⟨E, rfl⟩, LJ⟩
            go_wp2_with fail
            go_roundw
            case rel => exact ⟨j + 1, hj1.out, by go_num, LJ⟩
            case measure => have := hj1.out; simp [intOf]; omega
          · have hjl' : ¬ (j : Int) < (A : Int) := by omega
            have cL := live_life LJ.lw hL hpos FA FB FV hc1 hc1' (by omega) (by omega)
            unfold ptr at cL
            have z0 := FJ.c0
            have z1 := FJ.c1
            have z3 := FJ.c3
            have z4 := FJ.c4
            clear FJ LJ
            go_wp2_with fail
            refine cL.mono ?_
            rintro e' w15 ⟨vh, vm, ts', ms', safe', c', y', d', n', rfl, LW, hm1, hn1, hc3⟩
            clear cL z0 z1 z2 z3 z4
            obtain ⟨ha', hn', hc', rfl⟩ := LW.h.1.own.form
            obtain ⟨ma', mn', mc', rfl⟩ := LW.h.2.own.form
            have T15 := LW.T
            have hsh : ts'.length ≤ 1073741824 := by have := LW.short; rwa [List.length_map] at this
            have F15 : ∀ W, Turn (fun k => ¬ k < W0.heap.size) W0 W → LfAt W fg (fo + i * 5) f ra f.rs.length rc ya' f.ys.length yc' ta A tc := fun W t => FA.turn t (fun z => z hfg)
            have E3 : ∀ W, Turn (fun k => ¬ k < W0.heap.size) W0 W → W.cell? ⟨fg, fo + i * 5 + 3, none⟩ = some (.int .i64 f.keep) := fun W t => (F15 W t).c3
            have E4 : ∀ W, Turn (fun k => ¬ k < W0.heap.size) W0 W → W.cell? ⟨fg, fo + i * 5 + 4, none⟩ = some (.int .u8 f.junk.toNat) := fun W t => (F15 W t).c4
            clear F15
            go_upto_region 33 with fail
            go_cut [20, 21] from 29 to 181 (fun c20 c21 wx => Crd W0 ts' ms' (.slice ha' hn' hc') (.slice ma' mn' mc') safe' c20 c21 wx)
            case first =>
              refine wp_region_held_drew (S := fun W => Turn (fun k => ¬ k < W0.heap.size) W0 W) (by kernel_rfl) T15.drew (fun hHeld => ?_)
              refine' wpAnyH_take (i := 0) (v := .pointer (some ⟨p, 0, none⟩)) rfl (by kernel_rfl) (by kernel_rfl) (by kernel_rfl) (fun _ _ _ h => h) (Or.inl ⟨by kernel_rfl, fun W hW => ?y1⟩) hHeld ?r1
              · go_simp
              refine' wpAnyH_take (i := 1) (v := .slice (some ⟨fg, fo, none⟩) N cap) rfl (by kernel_rfl) (by kernel_rfl) (by kernel_rfl) (fun _ _ _ h => h) (Or.inl ⟨by kernel_rfl, fun W hW => ?y2⟩) hHeld ?r2
              · go_simp
              refine' wpAnyH_take (i := 2) (v := .int .i64 i) rfl (by kernel_rfl) (by kernel_rfl) (by kernel_rfl) (fun _ _ _ h => h) (Or.inl ⟨by kernel_rfl, fun W hW => ?y3⟩) hHeld ?r3
              · go_simp
              refine' wpAnyH_take (i := 3) (v := .pointer (some ⟨fg, fo + i * 5, none⟩)) rfl (by kernel_rfl) (by kernel_rfl) (by kernel_rfl) (fun _ _ _ h => h) (Or.inl ⟨by kernel_rfl, fun W hW => ?y4⟩) hHeld ?r4
              · go_simp
              refine' wpAnyH_take (i := 4) (v := .pointer (some ⟨fg, fo + i * 5 + 3, none⟩)) rfl (by kernel_rfl) (by kernel_rfl) (by kernel_rfl) (fun _ _ _ h => h) (Or.inl ⟨by kernel_rfl, fun W hW => ?y5⟩) hHeld ?r5
              · go_simp
              refine' wpAnyH_take (i := 5) (v := .int .i64 f.keep) rfl (by kernel_rfl) (by kernel_rfl) (by kernel_rfl) (fun _ _ _ h => h) (Or.inl ⟨by kernel_rfl, fun W hW => ?y6⟩) hHeld ?r6
              · have z := E3 W hW
                go_simp
              refine' wpAnyH_take (i := 7) (v := .slice (some ⟨fg, fo, none⟩) N cap) rfl (by kernel_rfl) (by kernel_rfl) (by kernel_rfl) (fun _ _ _ h => h) (Or.inl ⟨by kernel_rfl, fun W hW => ?y7⟩) hHeld ?r7
              · go_simp
              refine' wpAnyH_take (i := 8) (v := .int .i64 i) rfl (by kernel_rfl) (by kernel_rfl) (by kernel_rfl) (fun _ _ _ h => h) (Or.inl ⟨by kernel_rfl, fun W hW => ?y8⟩) hHeld ?r8
              · go_simp
              refine' wpAnyH_take (i := 9) (v := .pointer (some ⟨fg, fo + i * 5, none⟩)) rfl (by kernel_rfl) (by kernel_rfl) (by kernel_rfl) (fun _ _ _ h => h) (Or.inl ⟨by kernel_rfl, fun W hW => ?y9⟩) hHeld ?r9
              · go_simp
              refine' wpAnyH_take (i := 10) (v := .pointer (some ⟨fg, fo + i * 5 + 4, none⟩)) rfl (by kernel_rfl) (by kernel_rfl) (by kernel_rfl) (fun _ _ _ h => h) (Or.inl ⟨by kernel_rfl, fun W hW => ?y10⟩) hHeld ?r10
              · go_simp
              refine' wpAnyH_take (i := 11) (v := .int .u8 f.junk.toNat) rfl (by kernel_rfl) (by kernel_rfl) (by kernel_rfl) (fun _ _ _ h => h) (Or.inl ⟨by kernel_rfl, fun W hW => ?y11⟩) hHeld ?r11
              · have z := E4 W hW
                go_simp
              refine wpAnyH_ready (rs := [6, 16]) (by kernel_rfl) (by simp) ?_
              refine AllReadyH.cons rfl (fun K hK => ?_) (AllReadyH.cons rfl (fun K hK => ?_) AllReadyH.nil)
              · go_simp
                refine hK.out _ _ (T15.alloc _).drew (fun hHeld => ?_)
                clear hK
                refine wpAnyH_ready (rs := [12, 16]) (by kernel_rfl) (by simp) ?_
                refine AllReadyH.cons rfl (fun K hK => ?_) (AllReadyH.cons rfl (fun K hK => ?_) AllReadyH.nil)
                · go_simp
                  refine (show Calls Tryd.prog 12 #[.pointer (some ⟨p, 0, none⟩), .slice (some ⟨w15.heap.size, 0, none⟩) 1 1, .int .u8 f.junk.toNat] _ _ from (LW.rest (((Turn.refl no w15).alloc _).drew)).crash (by simpa using hm1) _ f.keep (vs_lit w15 f.keep) f.junk).mono ?_
                  rintro e' w2 ⟨v, fl, rfl, im, hnm, LL, k1, k2, kf, kT⟩
                  obtain ⟨xa, xn, xc, rfl⟩ := im.form
                  refine hK.out _ _ kT (fun hHeld => ?_)
                  clear hK
                  refine' wpAnyH_take (i := 13) (v := .tuple #[.agg #[.slice xa xn xc], .int .i64 0]) rfl (by kernel_rfl) (by kernel_rfl) (by kernel_rfl) (fun _ _ _ h => h) (Or.inl ⟨by kernel_rfl, fun W hW => ?y12⟩) hHeld ?r12
                  · go_simp
                  refine' wpAnyH_take (i := 14) (v := .agg #[.slice xa xn xc]) rfl (by kernel_rfl) (by kernel_rfl) (by kernel_rfl) (fun _ _ _ h => h) (Or.inl ⟨by kernel_rfl, fun W hW => ?y13⟩) hHeld ?r13
                  · go_simp
                  refine' wpAnyH_take (i := 15) (v := .int .i64 0) rfl (by kernel_rfl) (by kernel_rfl) (by kernel_rfl) (fun _ _ _ h => h) (Or.inl ⟨by kernel_rfl, fun W hW => ?y14⟩) hHeld ?r14
                  · go_simp
                  refine wpAnyH_ready (rs := [16]) (by kernel_rfl) (by simp) ?_
                  refine AllReadyH.cons rfl (fun K hK => ?_) AllReadyH.nil
                  go_simp
                  refine hK.out _ _ (kT.alloc _) (fun hHeld => ?_)
                  clear hK
                  refine wpAnyH_ready (rs := [17]) (by kernel_rfl) (by simp) ?_
                  refine AllReadyH.cons rfl (fun K hK => ?_) AllReadyH.nil
                  go_simp
                  refine hK.out _ _ (kT.alloc _) (fun hHeld => ?_)
                  clear hK
                  refine wpAnyH_ready (rs := [18]) (by kernel_rfl) (by simp) ?_
                  refine AllReadyH.cons rfl (fun K hK => ?_) AllReadyH.nil
                  go_simp
                  refine hK.out _ _ (kT.alloc _) (fun hHeld => ?_)
                  clear hK
                  refine wpAnyH_done (by kernel_rfl) ?_ _
                  go_wp2_with fail
                  go_meet
                  case rel => exact Crd.late ((Turn.refl no w2).alloc _) (cell_of_row _ w2.heap.size 0 _ 46 (0, 0) (heap_alloc_new w2 _)) im hnm LL k1 k2 kf kT
                · go_simp
                  have LR := (LW.rest ((Turn.refl no w15).alloc (.cells #[.int .i64 f.keep] 3))).rebase (w15.heap.size + 1) (.cells #[.slice none 0 0] 46) (by simp)
                  have TR : Turn (fun k => ¬ k < W0.heap.size) W0 ((w15.alloc (.cells #[.int .i64 f.keep] 3)).alloc (.cells #[.slice none 0 0] 46)) := (T15.alloc _).alloc _
                  have RR : ((w15.alloc (.cells #[.int .i64 f.keep] 3)).alloc (.cells #[.slice none 0 0] 46)).heap[w15.heap.size + 1]? = some (.cells #[.slice none 0 0] 46 (0, 0)) := by
                    have := heap_alloc_new (w15.alloc (.cells #[.int .i64 f.keep] 3)) (.cells #[.slice none 0 0] 46)
                    simpa using this
                  have KV : Vs ((w15.alloc (.cells #[.int .i64 f.keep] 3)).alloc (.cells #[.slice none 0 0] 46)).drew (.slice (some ⟨w15.heap.size, 0, none⟩) 1 1) ([f.keep].map iv) := vs_row (((Turn.refl no (w15.alloc (.cells #[.int .i64 f.keep] 3))).alloc (.cells #[.slice none 0 0] 46)).drew.keep (cell_of_row _ w15.heap.size 0 _ 3 (0, 0) (heap_alloc_new w15 _)) (fun z => z))
                  refine hK.out _ _ TR.drew (fun hHeld => ?_)
                  clear hK
                  refine wpAnyH_ready (rs := [12]) (by kernel_rfl) (by simp) ?_
                  refine AllReadyH.cons rfl (fun K hK => ?_) AllReadyH.nil
                  go_simp
                  refine (show Calls Tryd.prog 12 #[.pointer (some ⟨p, 0, none⟩), .slice (some ⟨w15.heap.size, 0, none⟩) 1 1, .int .u8 f.junk.toNat] ((w15.alloc (.cells #[.int .i64 f.keep] 3)).alloc (.cells #[.slice none 0 0] 46)).drew _ from (LR.rest ((Turn.refl no _).drew)).crash (by simpa using hm1) _ f.keep KV f.junk).mono ?_
                  rintro e' w2 ⟨v, fl, rfl, im, hnm, LL, k1, k2, kf, kT⟩
                  obtain ⟨xa, xn, xc, rfl⟩ := im.form
                  have kT0 : Turn (fun k => ¬ k < W0.heap.size) W0 w2 := TR.trans kT (fun i hi z z' => z (Or.inl z'))
                  have rr := kT.obj RR (fun z => z (Or.inr rfl))
                  have zc : w2.cell? ⟨w15.heap.size + 1, 0, none⟩ = some (.slice none 0 0) := cell_of_row _ _ 0 _ 46 (0, 0) rr
                  have zf : w2.frozen? ⟨w15.heap.size + 1, 0, none⟩ = false := frozen_of_row _ _ 0 _ 46 rr
                  refine hK.out _ _ kT0 (fun hHeld => ?_)
                  clear hK LR TR RR KV
                  refine' wpAnyH_take (i := 13) (v := .tuple #[.agg #[.slice xa xn xc], .int .i64 0]) rfl (by kernel_rfl) (by kernel_rfl) (by kernel_rfl) (fun _ _ _ h => h) (Or.inl ⟨by kernel_rfl, fun W hW => ?y15⟩) hHeld ?r15
                  · go_simp
                  refine' wpAnyH_take (i := 14) (v := .agg #[.slice xa xn xc]) rfl (by kernel_rfl) (by kernel_rfl) (by kernel_rfl) (fun _ _ _ h => h) (Or.inl ⟨by kernel_rfl, fun W hW => ?y16⟩) hHeld ?r16
                  · go_simp
                  refine' wpAnyH_take (i := 15) (v := .int .i64 0) rfl (by kernel_rfl) (by kernel_rfl) (by kernel_rfl) (fun _ _ _ h => h) (Or.inl ⟨by kernel_rfl, fun W hW => ?y17⟩) hHeld ?r17
                  · go_simp
                  refine wpAnyH_ready (rs := [17]) (by kernel_rfl) (by simp) ?_
                  refine AllReadyH.cons rfl (fun K hK => ?_) AllReadyH.nil
                  go_simp
                  refine hK.out _ _ (kT0.setCell (p := ⟨w15.heap.size + 1, 0, none⟩) (fun _ z => by have := T15.size; simp only at z; omega) _) (fun hHeld => ?_)
                  clear hK
                  refine wpAnyH_ready (rs := [18]) (by kernel_rfl) (by simp) ?_
                  refine AllReadyH.cons rfl (fun K hK => ?_) AllReadyH.nil
                  go_simp
                  refine hK.out _ _ (kT0.setCell (p := ⟨w15.heap.size + 1, 0, none⟩) (fun _ z => by have := T15.size; simp only at z; omega) _) (fun hHeld => ?_)
                  clear hK
                  refine wpAnyH_done (by kernel_rfl) ?_ _
                  go_wp2_with fail
                  go_meet
                  case rel => exact Crd.early (Turn.set1 w2 (w15.heap.size + 1) 0 _) (((show Row w2 (w15.heap.size + 1) #[.slice none 0 0] 46 from rr).set 0 _).cell 0 _ rfl) (by simp) (by have := T15.size; omega) im hnm LL k1 k2 kf (turn_old kT0)
              · go_simp
                have LR := ((LW.rest (Turn.refl no w15)).rebase w15.heap.size (.cells #[.slice none 0 0] 46) rfl).rest ((Turn.refl no _).alloc (.cells #[.int .i64 f.keep] 3))
                have TR : Turn (fun k => ¬ k < W0.heap.size) W0 (w15.alloc (.cells #[.slice none 0 0] 46)) := T15.alloc _
                have RR : (w15.alloc (.cells #[.slice none 0 0] 46)).heap[w15.heap.size]? = some (.cells #[.slice none 0 0] 46 (0, 0)) := heap_alloc_new w15 _
                have KV : Vs ((w15.alloc (.cells #[.slice none 0 0] 46)).alloc (.cells #[.int .i64 f.keep] 3)).drew (.slice (some ⟨w15.heap.size + 1, 0, none⟩) 1 1) ([f.keep].map iv) := vs_row (by simp)
                refine hK.out _ _ TR.drew (fun hHeld => ?_)
                clear hK
                refine wpAnyH_ready (rs := [6]) (by kernel_rfl) (by simp) ?_
                refine AllReadyH.cons rfl (fun K hK => ?_) AllReadyH.nil
                go_simp
                refine hK.out _ _ (TR.alloc _).drew (fun hHeld => ?_)
                clear hK
                refine wpAnyH_ready (rs := [12]) (by kernel_rfl) (by simp) ?_
                refine AllReadyH.cons rfl (fun K hK => ?_) AllReadyH.nil
                go_simp
                refine (show Calls Tryd.prog 12 #[.pointer (some ⟨p, 0, none⟩), .slice (some ⟨w15.heap.size + 1, 0, none⟩) 1 1, .int .u8 f.junk.toNat] ((w15.alloc (.cells #[.slice none 0 0] 46)).alloc (.cells #[.int .i64 f.keep] 3)).drew _ from (LR.rest ((Turn.refl no _).drew)).crash (by simpa using hm1) _ f.keep KV f.junk).mono ?_
                rintro e' w2 ⟨v, fl, rfl, im, hnm, LL, k1, k2, kf, kT⟩
                obtain ⟨xa, xn, xc, rfl⟩ := im.form
                have kT0 : Turn (fun k => ¬ k < W0.heap.size) W0 w2 := TR.trans kT (fun i hi z z' => z (Or.inl z'))
                have rr := kT.obj RR (fun z => z (Or.inr rfl))
                have zc : w2.cell? ⟨w15.heap.size, 0, none⟩ = some (.slice none 0 0) := cell_of_row _ _ 0 _ 46 (0, 0) rr
                have zf : w2.frozen? ⟨w15.heap.size, 0, none⟩ = false := frozen_of_row _ _ 0 _ 46 rr
                refine hK.out _ _ kT0 (fun hHeld => ?_)
                clear hK LR TR RR KV
                refine' wpAnyH_take (i := 13) (v := .tuple #[.agg #[.slice xa xn xc], .int .i64 0]) rfl (by kernel_rfl) (by kernel_rfl) (by kernel_rfl) (fun _ _ _ h => h) (Or.inl ⟨by kernel_rfl, fun W hW => ?y18⟩) hHeld ?r18
                · go_simp
                refine' wpAnyH_take (i := 14) (v := .agg #[.slice xa xn xc]) rfl (by kernel_rfl) (by kernel_rfl) (by kernel_rfl) (fun _ _ _ h => h) (Or.inl ⟨by kernel_rfl, fun W hW => ?y19⟩) hHeld ?r19
                · go_simp
                refine' wpAnyH_take (i := 15) (v := .int .i64 0) rfl (by kernel_rfl) (by kernel_rfl) (by kernel_rfl) (fun _ _ _ h => h) (Or.inl ⟨by kernel_rfl, fun W hW => ?y20⟩) hHeld ?r20
                · go_simp
                refine wpAnyH_ready (rs := [17]) (by kernel_rfl) (by simp) ?_
                refine AllReadyH.cons rfl (fun K hK => ?_) AllReadyH.nil
                go_simp
                refine hK.out _ _ (kT0.setCell (p := ⟨w15.heap.size, 0, none⟩) (fun _ z => by have := T15.size; simp only at z; omega) _) (fun hHeld => ?_)
                clear hK
                refine wpAnyH_ready (rs := [18]) (by kernel_rfl) (by simp) ?_
                refine AllReadyH.cons rfl (fun K hK => ?_) AllReadyH.nil
                go_simp
                refine hK.out _ _ (kT0.setCell (p := ⟨w15.heap.size, 0, none⟩) (fun _ z => by have := T15.size; simp only at z; omega) _) (fun hHeld => ?_)
                clear hK
                refine wpAnyH_done (by kernel_rfl) ?_ _
                go_wp2_with fail
                go_meet
                case rel => exact Crd.early (Turn.set1 w2 w15.heap.size 0 _) (((show Row w2 w15.heap.size #[.slice none 0 0] 46 from rr).set 0 _).cell 0 _ rfl) (by simp <;> omega) (by have := T15.size; omega) im hnm LL k1 k2 kf (turn_old kT0)
            case rest =>
              obtain ⟨gi, xa, xn, xc, B, fl, rfl, rfl, ci, im, hnm, LL, k1, k2, kf, kT⟩ := hcut
              have cM := mount_left im hnm LL
              clear im hnm LL E3 E4
              go_wp2_with fail
              refine (num5 _ _).mono ?_
              rintro e' w17 ⟨rfl, rfl⟩
              go_wp2_with fail
              refine cM.mono ?_
              intro e' w18 nx
              obtain ⟨p', rfl, R'⟩ := Rnd.next kT hsh hm1 k1 k2 kf (Turn.refl no _) nx
              clear nx cM kT k1 k2 kf ci
              unfold ptr
              go_wp2_with fail
              refine (num5 _ _).mono ?_
              rintro e' w19 ⟨rfl, rfl⟩
              go_wp2_with fail
              go_roundw
              case rel => exact ⟨i + 1, p', safe', hi1.out, rfl, by go_num, rfl, R'⟩
              case measure => have := hi1.out; simp [intOf]; omega
    · have TR : Turn no W0 wr := by
        obtain ⟨K, s, x, ts, ms, h1, h2, h3, h4, h5, h6, h7, h8, h9, h10, h11, h12⟩ := R
        exact h10
      unfold ptr
      by_cases hl1 : i < N
      · have hlt' : (i : Int) < (N : Int) := by omega
        have hlt4 : ¬ (i : Int) < 40 := by omega
        go_wp2_with fail
        go_ret
        exact ⟨rfl, TR⟩
      · have hlt' : ¬ (i : Int) < (N : Int) := by omega
        go_wp2_with fail
        go_ret
        exact ⟨rfl, TR⟩
end Go.Proofs.YtbkbecjgphjpkabDoor
