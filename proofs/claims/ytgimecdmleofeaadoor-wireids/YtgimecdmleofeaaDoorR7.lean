/- cert of the document. -/
import Derived.Test.YtgimecdmleofeaaDoorR4
import Derived.Test.YtgimecdmleofeaaDoorR3
import Derived.Deep.RegionHeld
namespace Go.Proofs.YtgimecdmleofeaaDoor
open Go.RowKit
set_option linter.unusedVariables false

set_option maxRecDepth 100000 in
set_option maxHeartbeats 8000000 in
theorem cert37 (w : World) (h : Nat) (r : Int) (I : List UInt8) (hid : I.length = 32) (a : Option Addr) (cap : Nat) (l : List Mk) (hK : KsAt w a cap l)
    (hh : h < 18446744073709551616) (hr0 : 0 ≤ r) (hr1 : r ≤ 65535) (hix : ∀ m ∈ l, 0 ≤ m.ix ∧ m.ix < 64) (hn : l.length ≤ 64) :
    Calls Tryd.prog 37 #[.agg (ctL h r I (.slice a l.length cap)).toArray] w fun e w' => ∃ v, e = .returned v ∧ Fr w w' v (ctB h r I l) := by
  have hR := Row.new w (ctL h r I (.slice a l.length cap)).toArray 34
  have c0 := hR.cell 0 _ (ctL_0 h r I _)
  have c1 := hR.cell 1 _ (ctL_1 h r I _)
  have cid : (w.alloc (.cells (ctL h r I (.slice a l.length cap)).toArray 34)).rangeAt w.heap.size 2 (I.map bv) := fun j u hu => hR.cell (2 + j) _ (ctL_id h r I _ j u hu)
  have c34 := hR.cell 34 _ (ctL_34 h r I hid _)
  obtain ⟨r, rfl⟩ : ∃ k : Nat, r = (k : Int) := ⟨r.toNat, by omega⟩
  obtain ⟨n, en⟩ : ∃ n, l.length = n := ⟨_, rfl⟩
  have hB : ctB h r I l = varE h ++ (varE r ++ (I ++ varE n)) ++ mksB l := by unfold ctB; rw [Int.toNat_natCast, en]; simp [List.append_assoc]
  rw [hB]
  rw [en] at c34 hn cid c0 c1 hR ⊢
  obtain ⟨B1, HB1⟩ : ∃ B, Shut (B = varE h ++ (varE r ++ (I ++ varE n))) := ⟨_, ⟨rfl⟩⟩
  rw [← HB1.out]
  have l1 := varE_le h
  have l2 := varE_le r
  have l3 := varE_le n
  have lB : B1.length ≤ 100 := by rw [HB1.out]; simp; omega
  have hwr : IntKind.u64.wrap (r : Int) = (r : Int) := by rw [IntKind.wrap_u64]; omega
  have hwn : IntKind.u64.wrap (n : Int) = (n : Int) := by rw [IntKind.wrap_u64]; omega
  have hil : (Tryd.prog.info? 29).map (·.size) = some (I.map bv).length := by rw [List.length_map, hid]; exact size35
  have HN1 := shutX (And.intro (fun W => num79 W h hh) (And.intro (fun W => num79 W r (by omega)) (And.intro (fun W => hash78 W I hid) (fun W => num79 W n (by omega)))))
  have HNL := shutX en
  have HK := shutX hK
  have HIX := shutX hix
  have hz8 := zero108
  generalize (ctL h r I (.slice a n cap)).toArray = C at *
  have t0 : Turn no w (w.alloc (.cells C 34)) := (Turn.refl no w).alloc _
  obtain ⟨w1, hw1⟩ : ∃ W, w.alloc (.cells C 34) = W := ⟨_, rfl⟩
  rw [hw1] at t0 c0 c1 c34 cid
  have Hc := shutX (fun W (t : Turn no w1 W) => And.intro (t.keep c0 (fun q => q)) (And.intro (t.keep c1 (fun q => q)) (And.intro (fun j u hu => t.keep (cid j u hu) (fun q => q) : W.rangeAt w.heap.size 2 (I.map bv)) (t.keep c34 (fun q => q)))))
  clear c0 c1 c34 cid hB en hK hix hh hr0 hr1 hR
  go_enter Tryd.func37, Tryd.ntmps37
  go_upto_region 1 with fail
  try rw [hw1]
  have HW1 := shutX hw1
  clear hw1
  obtain ⟨b, hbb⟩ : ∃ b, w.heap.size = b := ⟨_, rfl⟩
  rw [hbb] at Hc
  try rw [hbb]
  have Hbb := shutX hbb
  clear hbb
  refine wp_region_held_drew (S := fun W => Turn no w1 W) (by kernel_rfl) (Turn.refl no w1).drew (fun hHeld => ?_)
  refine' wpAnyH_take (i := 0) (v := .pointer (some ⟨b, 0, none⟩)) rfl (by kernel_rfl) (by kernel_rfl) (by kernel_rfl) (fun _ _ _ h => h) (Or.inl ⟨by kernel_rfl, fun W hW => ?yq1⟩) hHeld ?rq1
  · go_simp
  refine' wpAnyH_take (i := 1) (v := .int .u64 h) rfl (by kernel_rfl) (by kernel_rfl) (by kernel_rfl) (fun _ _ _ h => h) (Or.inl ⟨by kernel_rfl, fun W hW => ?yq2⟩) hHeld ?rq2
  · obtain ⟨z0, z1, z2, z3⟩ := Hc.out W hW
    go_simp
  refine' wpAnyH_take (i := 3) (v := .pointer (some ⟨b, 1, none⟩)) rfl (by kernel_rfl) (by kernel_rfl) (by kernel_rfl) (fun _ _ _ h => h) (Or.inl ⟨by kernel_rfl, fun W hW => ?yq3⟩) hHeld ?rq3
  · go_simp
  refine' wpAnyH_take (i := 4) (v := .int .i64 r) rfl (by kernel_rfl) (by kernel_rfl) (by kernel_rfl) (fun _ _ _ h => h) (Or.inl ⟨by kernel_rfl, fun W hW => ?yq4⟩) hHeld ?rq4
  · obtain ⟨z0, z1, z2, z3⟩ := Hc.out W hW
    go_simp
  refine' wpAnyH_take (i := 5) (v := .int .u64 r) rfl (by kernel_rfl) (by kernel_rfl) (by kernel_rfl) (fun _ _ _ h => h) (Or.inl ⟨by kernel_rfl, fun W hW => ?yq5⟩) hHeld ?rq5
  · go_simp
  refine' wpAnyH_take (i := 7) (v := .pointer (some ⟨b, 2, none⟩)) rfl (by kernel_rfl) (by kernel_rfl) (by kernel_rfl) (fun _ _ _ h => h) (Or.inl ⟨by kernel_rfl, fun W hW => ?yq6⟩) hHeld ?rq6
  · go_simp
  refine' wpAnyH_take (i := 8) (v := .agg (I.map bv).toArray) rfl (by kernel_rfl) (by kernel_rfl) (by kernel_rfl) (fun _ _ _ h => h) (yieldsIf_load_mid (by kernel_rfl) 29 (.tmp 13) rfl b 2 (by kernel_rfl) (I.map bv) _ (fun W h => (Hc.out W h).2.2.1) Tryd.underlying29 rfl hil) hHeld ?sq7
  refine' wpAnyH_take (i := 10) (v := .pointer (some ⟨b, 34, none⟩)) rfl (by kernel_rfl) (by kernel_rfl) (by kernel_rfl) (fun _ _ _ h => h) (Or.inl ⟨by kernel_rfl, fun W hW => ?yq8⟩) hHeld ?rq8
  · go_simp
  refine' wpAnyH_take (i := 11) (v := .slice a n cap) rfl (by kernel_rfl) (by kernel_rfl) (by kernel_rfl) (fun _ _ _ h => h) (Or.inl ⟨by kernel_rfl, fun W hW => ?yq9⟩) hHeld ?rq9
  · obtain ⟨z0, z1, z2, z3⟩ := Hc.out W hW
    go_simp
  refine' wpAnyH_take (i := 12) (v := .int .i64 n) rfl (by kernel_rfl) (by kernel_rfl) (by kernel_rfl) (fun _ _ _ h => h) (Or.inl ⟨by kernel_rfl, fun W hW => ?yq10⟩) hHeld ?rq10
  · go_simp
  refine' wpAnyH_take (i := 13) (v := .int .u64 n) rfl (by kernel_rfl) (by kernel_rfl) (by kernel_rfl) (fun _ _ _ h => h) (Or.inl ⟨by kernel_rfl, fun W hW => ?yq11⟩) hHeld ?rq11
  · go_simp
  obtain ⟨X0, hX0⟩ : ∃ X, w1.drew = X := ⟨_, rfl⟩
  rw [hX0] at hHeld ⊢
  clear hX0
  refine wpAnyH_ready (rs := [2]) (by kernel_rfl) (by simp) ?_
  refine AllReadyH.cons rfl (fun K hK => ?_) AllReadyH.nil
  go_simp
  refine (HN1.out.1 X0).mono ?_
  rintro e X12 ⟨v13, rfl, F14⟩
  obtain ⟨a15, l16, c17, rfl⟩ := F14.form
  have b18 := F14.own.bs
  refine hK.out _ _ (hHeld.then_no F14.turn) (fun hHeld => ?_)
  clear hK
  refine wpAnyH_ready (rs := [6]) (by kernel_rfl) (by simp) ?_
  refine AllReadyH.cons rfl (fun K hK => ?_) AllReadyH.nil
  go_simp
  refine (HN1.out.2.1 X12).mono ?_
  rintro e X19 ⟨v20, rfl, F21⟩
  obtain ⟨a22, l23, c24, rfl⟩ := F21.form
  have b25 := F21.own.bs
  refine hK.out _ _ (hHeld.then_no F21.turn) (fun hHeld => ?_)
  clear hK
  have b26 := b18.turn_no F21.turn
  refine wpAnyH_ready (rs := [9]) (by kernel_rfl) (by simp) ?_
  refine AllReadyH.cons rfl (fun K hK => ?_) AllReadyH.nil
  go_simp
  refine (HN1.out.2.2.1 X19).mono ?_
  rintro e X27 ⟨v28, rfl, F29⟩
  obtain ⟨a30, l31, c32, rfl⟩ := F29.form
  have b33 := F29.own.bs
  refine hK.out _ _ (hHeld.then_no F29.turn) (fun hHeld => ?_)
  clear hK
  have b34 := b26.turn_no F29.turn
  have b35 := b25.turn_no F29.turn
  refine wpAnyH_ready (rs := [14]) (by kernel_rfl) (by simp) ?_
  refine AllReadyH.cons rfl (fun K hK => ?_) AllReadyH.nil
  go_simp
  refine (HN1.out.2.2.2 X27).mono ?_
  rintro e X36 ⟨v37, rfl, F38⟩
  obtain ⟨a39, l40, c41, rfl⟩ := F38.form
  have b42 := F38.own.bs
  refine hK.out _ _ (hHeld.then_no F38.turn) (fun hHeld => ?_)
  clear hK
  have b43 := b34.turn_no F38.turn
  have b44 := b35.turn_no F38.turn
  have b45 := b33.turn_no F38.turn
  refine wpAnyH_ready (rs := [15]) (by kernel_rfl) (by simp) ?_
  refine AllReadyH.cons rfl (fun K hK => ?_) AllReadyH.nil
  go_simp
  have R47 := Row.new X36 #[.slice a15 l16 c17, .slice a22 l23 c24, .slice a30 l31 c32, .slice a39 l40 c41] 70
  have T46 : Turn no X36 (World.alloc X36 (.cells #[.slice a15 l16 c17, .slice a22 l23 c24, .slice a30 l31 c32, .slice a39 l40 c41] 70)) := (Turn.refl no X36).alloc _
  have J := join78 (World.alloc X36 (.cells #[.slice a15 l16 c17, .slice a22 l23 c24, .slice a30 l31 c32, .slice a39 l40 c41] 70)) X36.heap.size 4 [(.slice a15 l16 c17, varE h), (.slice a22 l23 c24, varE r), (.slice a30 l31 c32, I), (.slice a39 l40 c41, varE n)] (by
    intro j x hx
    match j, hx with
    | 0, hx => simp at hx; subst hx; exact ⟨R47.cell 0 _ rfl, b43.turn_no T46⟩
    | 1, hx => simp at hx; subst hx; exact ⟨R47.cell 1 _ rfl, b44.turn_no T46⟩
    | 2, hx => simp at hx; subst hx; exact ⟨R47.cell 2 _ rfl, b45.turn_no T46⟩
    | 3, hx => simp at hx; subst hx; exact ⟨R47.cell 3 _ rfl, b42.turn_no T46⟩
    | n + 4, hx => simp at hx) (by simp) (by simp [catL]; omega)
  refine hK.out _ _ (hHeld.then_no T46) (fun hHeld => ?_)
  clear hK
  refine wpAnyH_ready (rs := [16]) (by kernel_rfl) (by simp) ?_
  refine AllReadyH.cons rfl (fun K hK => ?_) AllReadyH.nil
  go_simp
  refine J.mono ?_
  rintro e X53 ⟨v48, rfl, F49⟩
  obtain ⟨a50, l51, c52, rfl⟩ := F49.form
  have hT := hHeld.then_no F49.turn
  refine hK.out _ _ hT (fun hHeld => ?_)
  clear hK J
  refine wpAnyH_ready (rs := [17]) (by kernel_rfl) (by simp) ?_
  refine AllReadyH.cons rfl (fun K hK => ?_) AllReadyH.nil
  go_simp
  refine hK.out _ _ hHeld (fun hHeld => ?_)
  clear hK
  refine wpAnyH_done (by kernel_rfl) ?_ _
  go_simp
  have FB : Fr w X53 (.slice a50 l51 c52) B1 := ⟨by have := F49.own; rw [HB1.out]; simpa [catL] using this, fun g hg => fin_new t0 (by assumption) ⟨F49.own, fun g hg => Nat.le_trans T46.size (F49.new g hg), T46.then_no F49.turn⟩ g hg, t0.then_no hHeld⟩
  have HH1 := shutX hHeld
  clear hHeld
  go_wp2_with fail
  go_loopw [3, 4] (fun v i wr => ∃ k : Nat, k ≤ n ∧ i = .int .i64 k ∧ Shut (Fr w wr v (B1 ++ mksB (l.take k)) ∧ Turn no w1 wr)) (fun _ i _ => n - (intOf i).toNat)
  case atStart => exact ⟨0, by omega, rfl, ⟨by simpa [mksB] using FB, HH1.out⟩⟩
  case round =>
    clear FB
    obtain ⟨k, hk, rfl, HI⟩ := hrel
    obtain ⟨av, lv, cv, rfl⟩ := HI.out.1.form
    obtain ⟨-, -, -, c34⟩ := Hc.out wr HI.out.2
    by_cases hlt : k < n
    · obtain ⟨m, hm⟩ : ∃ m, l[k]? = some m := ⟨l[k]'(by rw [HNL.out]; exact hlt), List.getElem?_eq_getElem _⟩
      have hmm := List.mem_of_getElem? hm
      obtain ⟨bm, off, rfl, hr⟩ := (HK.out.turn_no HI.out.1.turn).range k m hm
      have hmo := HK.out.ok m hmm
      have hs1 := size50 hmo
      have hs2 := size50A hmo
      have hs3 := one50 m
      have hs4 := z50 hmo
      have hlt' : (k : Int) < (n : Int) := by omega
      have hk1 : Hid (k + 1 ≤ n) := hlt
      have HE := shutX (mksB_take hm)
      obtain ⟨q, hq⟩ : ∃ q : Nat, m.ix = (q : Int) := ⟨m.ix.toNat, by have := (HIX.out m hmm).1; omega⟩
      have hq64 : q < 64 := by have := (HIX.out m hmm).2; omega
      have HMB : Shut (mkB m = varE q ++ (varE m.tm ++ m.se)) := ⟨by unfold mkB; rw [hq, Int.toNat_natCast]⟩
      have hwq : IntKind.u64.wrap (q : Int) = (q : Int) := by rw [IntKind.wrap_u64]; omega
      have hm0 : (mkL m).toArray[(0 : Nat)]? = some (.int .i64 q) := by rw [← hq]; rfl
      have hm1 : (mkL m).toArray[(1 : Nat)]? = some (.int .u64 m.tm) := rfl
      have hm2 : ∀ j u, (m.se.map bv)[j]? = some u → (mkL m).toArray[2 + j]? = some u := fun j u hu => by unfold mkL; rw [show 2 + j = j + 1 + 1 by omega]; simp only [List.getElem?_toArray, List.getElem?_cons_succ]; exact hu
      have hsl : (Tryd.prog.info? 25).map (·.size) = some (m.se.map bv).length := by rw [List.length_map, hmo.2.2]; kernel_rfl
      have l7 := varE_le q
      have l8 := varE_le m.tm
      have l9 := hmo.2.2
      have HN := shutX (And.intro (fun W => num79 W q (by omega)) (And.intro (fun W => num79 W m.tm hmo.2.1) (fun W => sealed74 W m.se hmo.2.2)))
      have lk : (mksB (l.take k)).length ≤ 36 * 64 := by
        have := mksB_le (l.take k) (fun m hm => HK.out.ok m (List.mem_of_mem_take hm))
        have : (l.take k).length ≤ 64 := by simp; omega
        omega
      clear hm hmm hmo hq
      generalize m.tm = tm at *
      generalize m.se = E at *
      generalize mkL m = ms at *
      go_upto_region 6 with (first | (guard_target =~ wpList _ _ _ ({ dst := _, op := Op.load 108 _, .. } :: _) _ _; refine wpList_load_mid rfl 108 (.tmp 33) rfl bm (off + k * 18) rfl ms _ hr Tryd.underlying108 rfl hs1 ?_) | (guard_target =~ wpList _ _ _ ({ dst := _, op := Op.store 108 _ _, .. } :: _) _ _; refine wpList_store_any rfl 108 (.tmp 5) (.tmp 34) rfl wr.heap.size ms.toArray rfl rfl 108 Z50 (Row.new wr Z50 108) hs2 hs4 hs3 ?_; intro w5 R5 t5))
      have tA : Turn (fun z => z = wr.heap.size) wr w5 := ((Turn.refl _ wr).alloc _).trans t5 (fun _ _ q => q)
      have TW5 := shutX (HI.out.1.turn.trans tA (fun i hi q => by have := HI.out.1.turn.size; omega))
      have T15 := shutX (HI.out.2.trans tA (fun i hi q => by have := HI.out.2.size; omega))
      have bA : Bs w5 (.slice av lv cv) (B1 ++ mksB (l.take k)) := HI.out.1.own.bs.turn tA (fun g hg q => by have := HI.out.1.own.lt hg; omega)
      have c0 := R5.cell 0 _ hm0
      have c1 := R5.cell 1 _ hm1
      have cse : w5.rangeAt wr.heap.size 2 (E.map bv) := fun j u hu => R5.cell (2 + j) u (hm2 j u hu)
      have Hm := shutX (fun W (t : Turn no w5 W) => And.intro (t.keep c0 (fun q => q)) (And.intro (t.keep c1 (fun q => q)) (fun j u hu => t.keep (cse j u hu) (fun q => q) : W.rangeAt wr.heap.size 2 (E.map bv))))
      obtain ⟨b, hbb⟩ : ∃ b, wr.heap.size = b := ⟨_, rfl⟩
      rw [hbb] at Hm
      try rw [hbb]
      clear hbb c0 c1 cse R5 t5 tA hm0 hm1 hm2 hr hs1 hs2 hs3 hs4 c34 HI
      generalize hAc : B1 ++ mksB (l.take k) = AC at *
      have hacl : AC.length ≤ 3000 := by rw [← hAc]; simp; omega
      have HAC := shutX hAc
      clear hAc
      refine wp_region_held_drew (S := fun W => Turn no w5 W) (by kernel_rfl) (Turn.refl no w5).drew (fun hHeld => ?_)
      refine' wpAnyH_take (i := 0) (v := .slice av lv cv) rfl (by kernel_rfl) (by kernel_rfl) (by kernel_rfl) (fun _ _ _ h => h) (Or.inl ⟨by kernel_rfl, fun W hW => ?yq54⟩) hHeld ?rq54
      · go_simp
      refine' wpAnyH_take (i := 1) (v := .pointer (some ⟨b, 0, none⟩)) rfl (by kernel_rfl) (by kernel_rfl) (by kernel_rfl) (fun _ _ _ h => h) (Or.inl ⟨by kernel_rfl, fun W hW => ?yq55⟩) hHeld ?rq55
      · go_simp
      refine' wpAnyH_take (i := 2) (v := .int .i64 q) rfl (by kernel_rfl) (by kernel_rfl) (by kernel_rfl) (fun _ _ _ h => h) (Or.inl ⟨by kernel_rfl, fun W hW => ?yq56⟩) hHeld ?rq56
      · obtain ⟨z0, z1, z2⟩ := Hm.out W hW
        go_simp
      refine' wpAnyH_take (i := 3) (v := .int .u64 q) rfl (by kernel_rfl) (by kernel_rfl) (by kernel_rfl) (fun _ _ _ h => h) (Or.inl ⟨by kernel_rfl, fun W hW => ?yq57⟩) hHeld ?rq57
      · go_simp
      refine' wpAnyH_take (i := 5) (v := .pointer (some ⟨b, 1, none⟩)) rfl (by kernel_rfl) (by kernel_rfl) (by kernel_rfl) (fun _ _ _ h => h) (Or.inl ⟨by kernel_rfl, fun W hW => ?yq58⟩) hHeld ?rq58
      · go_simp
      refine' wpAnyH_take (i := 6) (v := .int .u64 tm) rfl (by kernel_rfl) (by kernel_rfl) (by kernel_rfl) (fun _ _ _ h => h) (Or.inl ⟨by kernel_rfl, fun W hW => ?yq59⟩) hHeld ?rq59
      · obtain ⟨z0, z1, z2⟩ := Hm.out W hW
        go_simp
      refine' wpAnyH_take (i := 8) (v := .pointer (some ⟨b, 2, none⟩)) rfl (by kernel_rfl) (by kernel_rfl) (by kernel_rfl) (fun _ _ _ h => h) (Or.inl ⟨by kernel_rfl, fun W hW => ?yq60⟩) hHeld ?rq60
      · go_simp
      refine' wpAnyH_take (i := 9) (v := .agg (E.map bv).toArray) rfl (by kernel_rfl) (by kernel_rfl) (by kernel_rfl) (fun _ _ _ h => h) (yieldsIf_load_mid (by kernel_rfl) 25 (.tmp 43) rfl b 2 (by kernel_rfl) (E.map bv) _ (fun W h => (Hm.out W h).2.2) Tryd.underlying25 rfl hsl) hHeld ?sq61
      obtain ⟨Y0, hY0⟩ : ∃ X, w5.drew = X := ⟨_, rfl⟩
      have TY : Turn no w5 Y0 := by rw [← hY0]; exact (Turn.refl no w5).drew
      rw [hY0] at hHeld ⊢
      clear hY0
      have bG := bA.turn_no TY
      refine wpAnyH_ready (rs := [4]) (by kernel_rfl) (by simp) ?_
      refine AllReadyH.cons rfl (fun K hK => ?_) AllReadyH.nil
      go_simp
      refine (HN.out.1 Y0).mono ?_
      rintro e X62 ⟨v63, rfl, F64⟩
      obtain ⟨a65, l66, c67, rfl⟩ := F64.form
      have b68 := F64.own.bs
      refine hK.out _ _ (hHeld.then_no F64.turn) (fun hHeld => ?_)
      clear hK
      have b69 := bG.turn_no F64.turn
      refine wpAnyH_ready (rs := [7]) (by kernel_rfl) (by simp) ?_
      refine AllReadyH.cons rfl (fun K hK => ?_) AllReadyH.nil
      go_simp
      refine (HN.out.2.1 X62).mono ?_
      rintro e X70 ⟨v71, rfl, F72⟩
      obtain ⟨a73, l74, c75, rfl⟩ := F72.form
      have b76 := F72.own.bs
      refine hK.out _ _ (hHeld.then_no F72.turn) (fun hHeld => ?_)
      clear hK
      have b77 := b69.turn_no F72.turn
      have b78 := b68.turn_no F72.turn
      refine wpAnyH_ready (rs := [10]) (by kernel_rfl) (by simp) ?_
      refine AllReadyH.cons rfl (fun K hK => ?_) AllReadyH.nil
      go_simp
      refine (HN.out.2.2 X70).mono ?_
      rintro e X79 ⟨v80, rfl, F81⟩
      obtain ⟨a82, l83, c84, rfl⟩ := F81.form
      have b85 := F81.own.bs
      refine hK.out _ _ (hHeld.then_no F81.turn) (fun hHeld => ?_)
      clear hK
      have b86 := b77.turn_no F81.turn
      have b87 := b78.turn_no F81.turn
      have b88 := b76.turn_no F81.turn
      refine wpAnyH_ready (rs := [11]) (by kernel_rfl) (by simp) ?_
      refine AllReadyH.cons rfl (fun K hK => ?_) AllReadyH.nil
      go_simp
      have R90 := Row.new X79 #[.slice av lv cv, .slice a65 l66 c67, .slice a73 l74 c75, .slice a82 l83 c84] 70
      have T89 : Turn no X79 (World.alloc X79 (.cells #[.slice av lv cv, .slice a65 l66 c67, .slice a73 l74 c75, .slice a82 l83 c84] 70)) := (Turn.refl no X79).alloc _
      have J := join78 (World.alloc X79 (.cells #[.slice av lv cv, .slice a65 l66 c67, .slice a73 l74 c75, .slice a82 l83 c84] 70)) X79.heap.size 4 [(.slice av lv cv, AC), (.slice a65 l66 c67, varE q), (.slice a73 l74 c75, varE tm), (.slice a82 l83 c84, E)] (by
        intro j x hx
        match j, hx with
        | 0, hx => simp at hx; subst hx; exact ⟨R90.cell 0 _ rfl, b86.turn_no T89⟩
        | 1, hx => simp at hx; subst hx; exact ⟨R90.cell 1 _ rfl, b87.turn_no T89⟩
        | 2, hx => simp at hx; subst hx; exact ⟨R90.cell 2 _ rfl, b88.turn_no T89⟩
        | 3, hx => simp at hx; subst hx; exact ⟨R90.cell 3 _ rfl, b85.turn_no T89⟩
        | n + 4, hx => simp at hx) (by simp) (by simp [catL]; omega)
      refine hK.out _ _ (hHeld.then_no T89) (fun hHeld => ?_)
      clear hK
      refine wpAnyH_ready (rs := [12]) (by kernel_rfl) (by simp) ?_
      refine AllReadyH.cons rfl (fun K hK => ?_) AllReadyH.nil
      go_simp
      refine J.mono ?_
      rintro e X96 ⟨v91, rfl, F92⟩
      obtain ⟨a93, l94, c95, rfl⟩ := F92.form
      have hT := hHeld.then_no F92.turn
      refine hK.out _ _ hT (fun hHeld => ?_)
      clear hK J
      refine wpAnyH_ready (rs := [13]) (by kernel_rfl) (by simp) ?_
      refine AllReadyH.cons rfl (fun K hK => ?_) AllReadyH.nil
      go_simp
      refine hK.out _ _ hHeld (fun hHeld => ?_)
      clear hK
      refine wpAnyH_done (by kernel_rfl) ?_ _
      go_simp
      go_wp2_with fail
      have FF : Fr w X96 (.slice a93 l94 c95) (B1 ++ mksB (l.take (k + 1))) := ⟨by have := F92.own; rw [HE.out, HMB.out, ← List.append_assoc, HAC.out]; simpa [catL] using this, fun g hg => fin_new TW5.out (by assumption) ⟨F92.own, fun g hg => Nat.le_trans T89.size (F92.new g hg), T89.then_no F92.turn⟩ g hg, TW5.out.then_no hHeld⟩
      have TT := T15.out.then_no hHeld
      go_roundw
      case rel => exact ⟨k + 1, hk1.out, by go_num, ⟨FF, TT⟩⟩
      case measure => have := hk1.out; simp [intOf]; omega
    · obtain rfl : k = n := by omega
      have hlt' : ¬ (k : Int) < (k : Int) := by omega
      have F2 := HI.out.1
      rw [List.take_of_length_le (by rw [HNL.out]; exact Nat.le_refl _)] at F2
      have HF := shutX F2
      clear F2 HI
      go_wp2_with fail
      go_ret
      exact ⟨_, rfl, HF.out⟩
end Go.Proofs.YtgimecdmleofeaaDoor
