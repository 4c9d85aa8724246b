/- PlainCert of the document. -/
import Derived.Test.YtgimecdmleofeaaDoorQa
namespace Go.Proofs.YtgimecdmleofeaaDoor
open Go.RowKit
set_option linter.unusedVariables false

set_option maxRecDepth 100000 in
set_option maxHeartbeats 40000000 in
theorem rplain25 (w : World) (h : Nat) (r : Int) (id : List UInt8) (hid : id.length = 32) (v : Value) (l : List Mk) (hv : Ks w v l) : Calls Tryd.prog 35 #[.agg (ctL h r id v).toArray] w fun e w' => e = .returned (.int .i64 (plainC h r id l)) ∧ Turn no w w' := by
  obtain ⟨a, cap, rfl, hk0⟩ := hv
  have hR := Row.new w (ctL h r id (.slice a l.length cap)).toArray 34
  have T0 : Turn no w (w.alloc (.cells (ctL h r id (.slice a l.length cap)).toArray 34)) := (Turn.refl no w).alloc _
  have hi27 : (Tryd.prog.info? 29).map (·.size) = some (id.map bv).length := by rw [List.length_map, hid]; exact size24
  have hi30 := size30 h r id hid (.slice a l.length cap)
  have hz := rzero51 (w.alloc (.cells (ctL h r id (.slice a l.length cap)).toArray 34)) h r id hid a l.length cap
  have HK : Shup (∀ W, Turn no (w.alloc (.cells (ctL h r id (.slice a l.length cap)).toArray 34)) W → W.cell? ⟨w.heap.size, 0, none⟩ = some (.int .u64 h) ∧ W.cell? ⟨w.heap.size, 1, none⟩ = some (.int .i64 r) ∧ W.rangeAt w.heap.size 2 (id.map bv) ∧ W.cell? ⟨w.heap.size, 34, none⟩ = some (.slice a l.length cap) ∧ Turn no w W ∧ KsAt W a cap l) := fun W t =>
    ⟨t.keep (hR.cell 0 _ (ctL_0 h r id _)) (fun q => q), t.keep (hR.cell 1 _ (ctL_1 h r id _)) (fun q => q), fun j u hu => t.keep (hR.cell (2 + j) _ (ctL_id h r id _ j u hu)) (fun q => q), t.keep (hR.cell 34 _ (ctL_34 h r id hid _)) (fun q => q), T0.then_no t, hk0.turn_no (T0.then_no t)⟩
  have hle : l.length ≤ 9223372036854775807 := by have := hk0.le; have := hk0.cap; simp only [maxLen] at this; omega
  have HID := shup hid
  clear hk0 T0 hid
  have hE : Shup (plainC h r id l = if zeroB h r id l.length then 0 else if headB h r id = false then 41 else if 64 < l.length then 4 else scanM (-1) l) := rfl
  generalize plainC h r id l = E at *
  obtain ⟨n, hn⟩ : ∃ n, Hid (l.length = n) := ⟨_, rfl⟩
  have hn' : l.length = n := hn.out
  rw [hn'] at hle hz HK hi30 hR hE
  rw [hn']
  clear hn'
  generalize zeroB h r id n = Z at *
  generalize hCT : (ctL h r id (.slice a n cap)).toArray = CT at *
  generalize hib : id.map bv = ib at *
  have HIB := shup hib
  clear hCT hib
  go_enter Tryd.func35, Tryd.ntmps35
  go_wp2_with (refine wpList_load_row rfl 34 (.tmp 1) rfl w.heap.size rfl 34 CT _ _ hR Tryd.underlying34 rfl hi30 ?_)
  generalize w.alloc (.cells CT 34) = w0 at *
  refine hz.mono ?_
  rintro e w1 ⟨rfl, t1⟩
  clear hz hR hi30
  cases Z with
  | true =>
    have HE : Shup (E = 0) := by show _ = _; rw [hE.out]; rfl
    have TT := shup (HK.out w1 t1).2.2.2.2.1
    go_wp2_with fail
    go_ret
    exact ⟨by rw [HE.out]; rfl, TT.out⟩
  | false =>
    have hE2 : Shup (E = if headB h r id = false then 41 else if 64 < n then 4 else scanM (-1) l) := by show _ = _; rw [hE.out]; rfl
    clear hE
    obtain ⟨c0, c1, cid, c34, _, _⟩ := HK.out w1 t1
    have HT1 := shup t1
    clear t1
    go_upto_region 3 with fail
    go_cut [22] from 7 to 22 (fun c wx => c = .bool (!(headB h r id)) ∧ Shup (Turn no w0 wx))
    case first =>
      have hh := height21 w1 h
      have hr2 := round22 w1 r
      have hno := fun W => eqz W id HID.out
      rw [HIB.out] at hno
      have HH : Shup (headB h r id = (hB h && rB r && !(id == zid))) := rfl
      generalize headB h r id = HB at *
      generalize hB h = b1 at *
      generalize rB r = b2 at *
      generalize (id == zid) = b3 at *
      cases b1 with
      | false =>
        have HX : Shup (HB = false) := by show _ = _; rw [HH.out]; rfl
        go_wp2_with (go_at_call 75; refine hh.mono ?_; rintro e w2 ⟨rfl, rfl⟩)
        go_meet
        case rel => exact ⟨by rw [HX.out]; rfl, HT1⟩
      | true =>
        cases b2 with
        | false =>
          have HX : Shup (HB = false) := by show _ = _; rw [HH.out]; rfl
          go_wp2_with (first | (go_at_call 75; refine hh.mono ?_; rintro e w2 ⟨rfl, rfl⟩) | (go_at_call 79; refine hr2.mono ?_; rintro e w2 ⟨rfl, rfl⟩))
          go_meet
          case rel => exact ⟨by rw [HX.out]; rfl, HT1⟩
        | true =>
          have HX : Shup (HB = !b3) := by show _ = _; rw [HH.out]; rfl
          go_wp2_with (first | (go_at_call 75; refine hh.mono ?_; rintro e w2 ⟨rfl, rfl⟩) | (go_at_call 79; refine hr2.mono ?_; rintro e w2 ⟨rfl, rfl⟩) | (refine wpList_load_midG (by rfl) 29 (.tmp 18) rfl w.heap.size 2 rfl ib _ cid Tryd.underlying29 rfl hi27 ?_))
          go_meet
          case rel => exact ⟨by rw [HX.out]; simp, HT1⟩
    case rest =>
      obtain ⟨rfl, HX⟩ := hcut
      obtain ⟨wx, rfl⟩ : ∃ wx : World, wx = wc := ⟨_, rfl⟩
      obtain ⟨_, _, _, c34, TT, _⟩ := HK.out wx HX.out
      have HTT := shup TT
      clear c0 c1 cid TT
      cases hH : headB h r id with
      | false =>
        have HE : Shup (E = 41) := by show _ = _; rw [hE2.out, hH]; rfl
        clear hE2 hH
        go_wp2_with fail
        go_ret
        exact ⟨by rw [HE.out]; rfl, HTT.out⟩
      | true =>
        by_cases h64 : 64 < n
        · have HE : Shup (E = 4) := by show _ = _; rw [hE2.out, hH, if_neg (by simp), if_pos h64]
          have h64' : (64 : Int) < (n : Int) := by omega
          clear hE2 hH
          go_wp2_with fail
          go_ret
          exact ⟨by rw [HE.out]; rfl, HTT.out⟩
        have HE : Shup (E = scanM (-1) l) := by show _ = _; rw [hE2.out, hH, if_neg (by simp), if_neg h64]
        have h64' : ¬ (64 : Int) < (n : Int) := by omega
        clear hE2 hH
        go_wp2_with fail
        go_loopw [3] (fun c wr => ∃ (k : Nat), k ≤ n ∧ c = .int .i64 k ∧ Shup (scanM (-1) l = scanM (prevI l k) (l.drop k) ∧ Turn no w0 wr)) (fun c _ => n - (intOf c).toNat)
        case atStart => exact ⟨0, by omega, rfl, rfl, HX.out⟩
        case round =>
          clear c34
          obtain ⟨k, hk, rfl, HI⟩ := hrel
          obtain ⟨_, _, _, c34, TT, hA⟩ := HK.out wr HI.out.2
          by_cases hlt : k < n
          · obtain ⟨m, hm⟩ : ∃ m, l[k]? = some m := ⟨l[k]'(by rw [hn.out]; exact hlt), List.getElem?_eq_getElem _⟩
            obtain ⟨b, off, rfl, hr⟩ := hA.range k m hm
            have hmo := hA.ok m (List.mem_of_getElem? hm)
            have hs1 := size50 hmo
            have hs2 := size50A hmo
            have hs3 := one50 m
            have hs4 := z50 hmo
            clear hmo
            have hm0 : (mkL m).toArray[(0 : Nat)]? = some (.int .i64 m.ix) := rfl
            have hm1 : (mkL m).toArray[(1 : Nat)]? = some (.int .u64 m.tm) := rfl
            have hlt' : (k : Int) < (n : Int) := by omega
            have hk1 : Hid (k + 1 ≤ n) := hlt
            have HST := shup (scanM_at hm (prevI l k))
            have HPN := shup (prevI_succ hm)
            clear hm hA
            generalize mkL m = ms at *
            go_upto_region 11 with (first | (refine wpList_load_mid rfl 108 (.tmp 37) rfl b (off + k * 18) rfl ms _ hr Tryd.underlying108 rfl hs1 ?_) | (refine wpList_store_any rfl 108 (.tmp 4) (.tmp 38) rfl wr.heap.size ms.toArray rfl rfl 108 Z50 (Row.new wr Z50 108) hs2 hs4 hs3 ?_; intro w2 R1 t1))
            have TA := shup ((HI.out.2.alloc (.cells Z50 108)).trans t1 (S' := fun z => z = wr.heap.size) (fun i hi e => by have := HI.out.2.size; omega))
            have hx0 := R1.cell 0 _ hm0
            have hx1 := R1.cell 1 _ hm1
            have HX0 := shup hx0
            have TTA := shup (HK.out _ TA.out).2.2.2.2.1
            have htt := time23 w2 m.tm
            have HI1 := shup HI.out.1
            clear R1 t1 hr hs1 hs2 hs3 hs4 hm0 hm1 HI TT c34
            by_cases a1 : m.ix < 0
            · have HE2 : Shup (E = 41) := by show _ = _; rw [HE.out, HI1.out, HST.out, if_pos (.inl a1)]
              clear HE HI1 HST
              go_wp2_with fail
              go_ret
              exact ⟨by rw [HE2.out]; rfl, TTA.out⟩
            have a1' : ¬ m.ix < 0 := a1
            by_cases a2 : 64 ≤ m.ix
            · have HE2 : Shup (E = 41) := by show _ = _; rw [HE.out, HI1.out, HST.out, if_pos (.inr (.inl a2))]
              clear HE HI1 HST
              go_wp2_with fail
              go_ret
              exact ⟨by rw [HE2.out]; rfl, TTA.out⟩
            have a2' : ¬ 64 ≤ m.ix := a2
            cases a3 : tB m.tm with
            | false =>
              have HE2 : Shup (E = 41) := by show _ = _; rw [HE.out, HI1.out, HST.out, if_pos (.inr (.inr a3))]
              rw [a3] at htt
              clear HE HI1 HST a3
              go_wp2_with (go_at_call 76; refine htt.mono ?_; rintro e w3 ⟨rfl, rfl⟩)
              go_ret
              exact ⟨by rw [HE2.out]; rfl, TTA.out⟩
            | true =>
              have HS2 : Shup (scanM (prevI l k) (l.drop k) = if m.ix ≤ prevI l k then 42 else scanM m.ix (l.drop (k + 1))) := by
                show _ = _
                rw [HST.out, if_neg]
                rintro (z | z | z)
                · exact a1 z
                · exact a2 z
                · rw [a3] at z; cases z
              rw [a3] at htt
              clear a3 HST
              have HA1 := shup a1
              clear a1 a2
              go_upto_region 13 with (go_at_call 76; refine htt.mono ?_; rintro e w3 ⟨rfl, rfl⟩)
              go_cut [66] from 27 to 66 (fun c wx => c = .bool (decide (m.ix ≤ prevI l k)) ∧ Shup (Turn no w2 wx))
              case first =>
                by_cases hk0 : k = 0
                · have HX2 : Shup (decide (m.ix ≤ prevI l k) = false) := by
                    have ha := HA1.out
                    show _ = _
                    rw [hk0]
                    exact decide_eq_false (show ¬ m.ix ≤ -1 by omega)
                  have HK0 := shup hk0
                  clear hk0 hx0 hx1
                  refine wp_region_held_drew (S := fun W => Turn no w2 W) (by kernel_rfl) (Turn.refl no w2).drew (fun hHeld => ?_)
                  refine' wpAnyH_take (i := 0) (v := .int .i64 k) rfl (by kernel_rfl) (by kernel_rfl) (by kernel_rfl) (fun _ _ _ h => h) (Or.inl ⟨by kernel_rfl, fun W hW => ?y1⟩) hHeld ?r1
                  · go_simp
                  refine' wpAnyH_take (i := 1) (v := .bool false) rfl (by kernel_rfl) (by kernel_rfl) (by kernel_rfl) (fun _ _ _ h => h) (Or.inl ⟨by kernel_rfl, fun W hW => ?y2⟩) hHeld ?r2
                  · go_simp
                    exact HK0.out
                  refine' wpAnyH_take (i := 2) (v := .bool false) rfl (by kernel_rfl) (by kernel_rfl) (by kernel_rfl) (fun _ _ _ h => h) (Or.inl ⟨by kernel_rfl, fun W hW => ?y3⟩) hHeld ?r3
                  · go_simp
                  refine' wpAnyH_take (i := 3) (v := undef) rfl (by kernel_rfl) (by kernel_rfl) (by kernel_rfl) (fun _ _ _ h => h) (Or.inr ⟨by kernel_rfl, rfl⟩) hHeld ?r4
                  refine' wpAnyH_take (i := 4) (v := undef) rfl (by kernel_rfl) (by kernel_rfl) (by kernel_rfl) (fun _ _ _ h => h) (Or.inr ⟨by kernel_rfl, rfl⟩) hHeld ?r5
                  refine' wpAnyH_take (i := 5) (v := undef) rfl (by kernel_rfl) (by kernel_rfl) (by kernel_rfl) (fun _ _ _ h => h) (Or.inr ⟨by kernel_rfl, rfl⟩) hHeld ?r6
                  refine' wpAnyH_take (i := 6) (v := undef) rfl (by kernel_rfl) (by kernel_rfl) (by kernel_rfl) (fun _ _ _ h => h) (Or.inr ⟨by kernel_rfl, rfl⟩) hHeld ?r7
                  refine' wpAnyH_take (i := 7) (v := undef) rfl (by kernel_rfl) (by kernel_rfl) (by kernel_rfl) (fun _ _ _ h => h) (Or.inr ⟨by kernel_rfl, rfl⟩) hHeld ?r8
                  refine' wpAnyH_take (i := 8) (v := undef) rfl (by kernel_rfl) (by kernel_rfl) (by kernel_rfl) (fun _ _ _ h => h) (Or.inr ⟨by kernel_rfl, rfl⟩) hHeld ?r9
                  refine' wpAnyH_take (i := 9) (v := undef) rfl (by kernel_rfl) (by kernel_rfl) (by kernel_rfl) (fun _ _ _ h => h) (Or.inr ⟨by kernel_rfl, rfl⟩) hHeld ?r10
                  refine' wpAnyH_take (i := 10) (v := undef) rfl (by kernel_rfl) (by kernel_rfl) (by kernel_rfl) (fun _ _ _ h => h) (Or.inr ⟨by kernel_rfl, rfl⟩) hHeld ?r11
                  refine' wpAnyH_take (i := 11) (v := undef) rfl (by kernel_rfl) (by kernel_rfl) (by kernel_rfl) (fun _ _ _ h => h) (Or.inr ⟨by kernel_rfl, rfl⟩) hHeld ?r12
                  refine' wpAnyH_take (i := 12) (v := undef) rfl (by kernel_rfl) (by kernel_rfl) (by kernel_rfl) (fun _ _ _ h => h) (Or.inr ⟨by kernel_rfl, rfl⟩) hHeld ?r13
                  refine' wpAnyH_take (i := 13) (v := .bool false) rfl (by kernel_rfl) (by kernel_rfl) (by kernel_rfl) (fun _ _ _ h => h) (Or.inl ⟨by kernel_rfl, fun W hW => ?y14⟩) hHeld ?r14
                  · go_simp
                  refine wpAnyH_done (by kernel_rfl) ?_ _
                  go_simp
                  go_wp2_with fail
                  go_meet
                  case rel => exact ⟨by rw [HX2.out], hHeld⟩
                · have HK0 : Shup (0 < k) := by show _ < _; omega
                  obtain ⟨k', hk'⟩ : ∃ k', k = k' + 1 := ⟨k - 1, by omega⟩
                  obtain ⟨m', hm'⟩ : ∃ m', l[k']? = some m' := ⟨l[k']'(by rw [hn.out]; omega), List.getElem?_eq_getElem _⟩
                  have hlk : (k' : Int) < (n : Int) := by omega
                  have hw : IntKind.i64.wrap ((k : Int) - 1) = (k' : Int) := by rw [IntKind.wrap_i64]; omega
                  have HPP : Shup (prevI l k = m'.ix) := by show _ = _; rw [hk']; exact prevI_succ hm'
                  have HQ : Shup (∀ W, Turn no w2 W → W.cell? ⟨w.heap.size, 34, none⟩ = some (.slice (some ⟨b, off, none⟩) n cap) ∧ W.cell? ⟨wr.heap.size, 0, none⟩ = some (.int .i64 m.ix) ∧ W.cell? ⟨b, off + k' * 18, none⟩ = some (.int .i64 m'.ix)) := fun W t => by
                    obtain ⟨_, _, _, q34, _, qA⟩ := HK.out W (TA.out.then_no t)
                    obtain ⟨b', off', e', qc⟩ := qA.cells k' m' hm'
                    cases e'
                    exact ⟨q34, t.keep HX0.out (fun q => q), qc 0 _ rfl⟩
                  have HDD : Shup (decide (m.ix ≤ prevI l k) = decide (m.ix ≤ m'.ix)) := by show _ = _; rw [HPP.out]
                  clear hk' hk0 hm' hx0 hx1
                  refine wp_region_held_drew (S := fun W => Turn no w2 W) (by kernel_rfl) (Turn.refl no w2).drew (fun hHeld => ?_)
                  refine' wpAnyH_take (i := 0) (v := .int .i64 k) rfl (by kernel_rfl) (by kernel_rfl) (by kernel_rfl) (fun _ _ _ h => h) (Or.inl ⟨by kernel_rfl, fun W hW => ?y15⟩) hHeld ?r15
                  · go_simp
                  refine' wpAnyH_take (i := 1) (v := .bool true) rfl (by kernel_rfl) (by kernel_rfl) (by kernel_rfl) (fun _ _ _ h => h) (Or.inl ⟨by kernel_rfl, fun W hW => ?y16⟩) hHeld ?r16
                  · go_simp
                    exact HK0.out
                  refine' wpAnyH_take (i := 2) (v := .bool true) rfl (by kernel_rfl) (by kernel_rfl) (by kernel_rfl) (fun _ _ _ h => h) (Or.inl ⟨by kernel_rfl, fun W hW => ?y17⟩) hHeld ?r17
                  · go_simp
                  refine' wpAnyH_take (i := 3) (v := .pointer (some ⟨wr.heap.size, 0, none⟩)) rfl (by kernel_rfl) (by kernel_rfl) (by kernel_rfl) (fun _ _ _ h => h) (Or.inl ⟨by kernel_rfl, fun W hW => ?y18⟩) hHeld ?r18
                  · go_simp
                  refine' wpAnyH_take (i := 4) (v := .int .i64 m.ix) rfl (by kernel_rfl) (by kernel_rfl) (by kernel_rfl) (fun _ _ _ h => h) (Or.inl ⟨by kernel_rfl, fun W hW => ?y19⟩) hHeld ?r19
                  · obtain ⟨g0, g1, g2⟩ := HQ.out W hW
                    go_simp
                  refine' wpAnyH_take (i := 5) (v := .pointer (some ⟨w.heap.size, 34, none⟩)) rfl (by kernel_rfl) (by kernel_rfl) (by kernel_rfl) (fun _ _ _ h => h) (Or.inl ⟨by kernel_rfl, fun W hW => ?y20⟩) hHeld ?r20
                  · go_simp
                  refine' wpAnyH_take (i := 6) (v := .slice (some ⟨b, off, none⟩) n cap) rfl (by kernel_rfl) (by kernel_rfl) (by kernel_rfl) (fun _ _ _ h => h) (Or.inl ⟨by kernel_rfl, fun W hW => ?y21⟩) hHeld ?r21
                  · obtain ⟨g0, g1, g2⟩ := HQ.out W hW
                    go_simp
                  refine' wpAnyH_take (i := 7) (v := .int .i64 k) rfl (by kernel_rfl) (by kernel_rfl) (by kernel_rfl) (fun _ _ _ h => h) (Or.inl ⟨by kernel_rfl, fun W hW => ?y22⟩) hHeld ?r22
                  · go_simp
                  refine' wpAnyH_take (i := 8) (v := .int .i64 k') rfl (by kernel_rfl) (by kernel_rfl) (by kernel_rfl) (fun _ _ _ h => h) (Or.inl ⟨by kernel_rfl, fun W hW => ?y23⟩) hHeld ?r23
                  · go_simp
                  refine' wpAnyH_take (i := 9) (v := .pointer (some ⟨b, off + k' * 18, none⟩)) rfl (by kernel_rfl) (by kernel_rfl) (by kernel_rfl) (fun _ _ _ h => h) (Or.inl ⟨by kernel_rfl, fun W hW => ?y24⟩) hHeld ?r24
                  · go_simp
                  refine' wpAnyH_take (i := 10) (v := .pointer (some ⟨b, off + k' * 18, none⟩)) rfl (by kernel_rfl) (by kernel_rfl) (by kernel_rfl) (fun _ _ _ h => h) (Or.inl ⟨by kernel_rfl, fun W hW => ?y25⟩) hHeld ?r25
                  · go_simp
                  refine' wpAnyH_take (i := 11) (v := .int .i64 m'.ix) rfl (by kernel_rfl) (by kernel_rfl) (by kernel_rfl) (fun _ _ _ h => h) (Or.inl ⟨by kernel_rfl, fun W hW => ?y26⟩) hHeld ?r26
                  · obtain ⟨g0, g1, g2⟩ := HQ.out W hW
                    go_simp
                  refine' wpAnyH_take (i := 12) (v := .bool (decide (m.ix ≤ m'.ix))) rfl (by kernel_rfl) (by kernel_rfl) (by kernel_rfl) (fun _ _ _ h => h) (Or.inl ⟨by kernel_rfl, fun W hW => ?y27⟩) hHeld ?r27
                  · go_simp
                  refine' wpAnyH_take (i := 13) (v := .bool (decide (m.ix ≤ m'.ix))) rfl (by kernel_rfl) (by kernel_rfl) (by kernel_rfl) (fun _ _ _ h => h) (Or.inl ⟨by kernel_rfl, fun W hW => ?y28⟩) hHeld ?r28
                  · go_simp
                  refine wpAnyH_done (by kernel_rfl) ?_ _
                  go_simp
                  go_wp2_with fail
                  go_meet
                  case rel => exact ⟨by rw [HDD.out], hHeld⟩
              case rest =>
                obtain ⟨rfl, HY⟩ := hcut
                have HTW := shup (TA.out.then_no HY.out)
                have TTB := shup (HK.out _ HTW.out).2.2.2.2.1
                clear hx0 hx1
                by_cases a4 : m.ix ≤ prevI l k
                · have HE2 : Shup (E = 42) := by show _ = _; rw [HE.out, HI1.out, HS2.out, if_pos a4]
                  rw [show decide (m.ix ≤ prevI l k) = true by simpa using a4]
                  clear HE HI1 HS2
                  go_wp2_with fail
                  go_ret
                  exact ⟨by rw [HE2.out]; rfl, TTB.out⟩
                · have HN : Shup (scanM (-1) l = scanM (prevI l (k + 1)) (l.drop (k + 1))) := by show _ = _; rw [HPN.out, HI1.out, HS2.out, if_neg a4]
                  rw [show decide (m.ix ≤ prevI l k) = false by simpa using a4]
                  clear HE HI1 HS2
                  go_wp2_with fail
                  go_roundw
                  case rel => exact ⟨k + 1, hk1.out, by go_num, HN.out, HTW.out⟩
                  case measure => have := hk1.out; simp [intOf]; omega
          · have hkn : n = k := by omega
            subst hkn
            have hlt' : ¬ (n : Int) < (n : Int) := by omega
            have HE2 : Shup (E = 0) := by
              show _ = _
              rw [HE.out, HI.out.1, List.drop_of_length_le (by rw [hn.out]; exact Nat.le_refl _)]
              cases prevI l n <;> rfl
            have HTF := shup TT
            clear HE HI hA TT
            go_wp2_with fail
            go_ret
            exact ⟨by rw [HE2.out]; rfl, HTF.out⟩
end Go.Proofs.YtgimecdmleofeaaDoor

