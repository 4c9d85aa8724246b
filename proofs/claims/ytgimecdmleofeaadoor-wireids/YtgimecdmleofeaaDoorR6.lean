/- header of the document. -/
import Derived.Test.YtgimecdmleofeaaDoorR4
import Derived.Test.YtgimecdmleofeaaDoorR3
import Derived.Deep.RegionHeld
namespace Go.Proofs.YtgimecdmleofeaaDoor
open Go.RowKit
set_option linter.unusedVariables false

def hdB' (CB : List UInt8) (xh xt : Nat) (A0 A1 A2 A3 A4 A5 A6 : List UInt8) (pr : Nat) : List UInt8 := CB ++ (varE xh ++ (varE xt ++ ((A0 ++ (A1 ++ (A2 ++ (A3 ++ (A4 ++ (A5 ++ A6)))))) ++ varE pr)))
set_option maxRecDepth 100000 in
set_option maxHeartbeats 8000000 in
theorem header34 (w : World) (x : Hd) (ho : x.ok) (hc : x.ch.size ≤ 16) : Calls Tryd.prog 34 #[.agg x.cs.toArray] w fun e w' => ∃ v, e = .returned v ∧ Fr w w' v (hdB x) := by
  have A := Row.hd ho (Row.new w x.cs.toArray 31)
  obtain ⟨b1, b2, b3, b4, h0, h1, h2, h3, h4, h5, h6⟩ := ho
  have hB : hdB x = hdB' (varE x.ch.size ++ x.ch.data.toList) x.h x.t x.a0 x.a1 x.a2 x.a3 x.a4 x.a5 x.a6 x.pr := rfl
  rw [hB]
  have hT : ∀ W, Calls Tryd.prog 77 #[.string x.ch] W fun e w' => ∃ v, e = .returned v ∧ Fr W w' v (varE x.ch.size ++ x.ch.data.toList) := fun W => by
    have := rtext63 W x.ch.data.toList (by simp; omega)
    simpa using this
  have l0 : (varE x.ch.size ++ x.ch.data.toList).length ≤ 26 := by
    have := varE_le x.ch.size
    simp; omega
  have l1 := varE_le x.h
  have l2 := varE_le x.t
  have l3 := varE_le x.pr
  obtain ⟨c0, c1, c2, r0, r1, r2, r3, r4, r5, r6, c3⟩ := A
  have i0 : (Tryd.prog.info? 29).map (·.size) = some (x.a0.map bv).length := by rw [List.length_map, h0]; exact size35
  have i1 : (Tryd.prog.info? 29).map (·.size) = some (x.a1.map bv).length := by rw [List.length_map, h1]; exact size35
  have i2 : (Tryd.prog.info? 29).map (·.size) = some (x.a2.map bv).length := by rw [List.length_map, h2]; exact size35
  have i3 : (Tryd.prog.info? 29).map (·.size) = some (x.a3.map bv).length := by rw [List.length_map, h3]; exact size35
  have i4 : (Tryd.prog.info? 29).map (·.size) = some (x.a4.map bv).length := by rw [List.length_map, h4]; exact size35
  have i5 : (Tryd.prog.info? 29).map (·.size) = some (x.a5.map bv).length := by rw [List.length_map, h5]; exact size35
  have i6 : (Tryd.prog.info? 29).map (·.size) = some (x.a6.map bv).length := by rw [List.length_map, h6]; exact size35
  generalize varE x.ch.size ++ x.ch.data.toList = CB at *
  generalize x.ch = ch at *
  generalize x.h = xh at *
  generalize x.t = xt at *
  generalize x.pr = pr at *
  generalize x.a0 = A0 at *
  generalize x.a1 = A1 at *
  generalize x.a2 = A2 at *
  generalize x.a3 = A3 at *
  generalize x.a4 = A4 at *
  generalize x.a5 = A5 at *
  generalize x.a6 = A6 at *
  generalize x.cs.toArray = C at *
  have t0 : Turn no w (w.alloc (.cells C 31)) := (Turn.refl no w).alloc _
  obtain ⟨w1, hw1⟩ : ∃ W, w.alloc (.cells C 31) = W := ⟨_, rfl⟩
  rw [hw1] at t0 c0 c1 c2 c3 r0 r1 r2 r3 r4 r5 r6
  have Hc := shutX (fun W (t : Turn no w1 W) => And.intro (t.keep c0 (fun q => q)) (And.intro (t.keep c1 (fun q => q)) (And.intro (t.keep c2 (fun q => q)) (And.intro (t.keep c3 (fun q => q)) (And.intro (fun j u hu => t.keep (r0 j u hu) (fun q => q) : W.rangeAt w.heap.size 3 (A0.map bv)) (And.intro (fun j u hu => t.keep (r1 j u hu) (fun q => q) : W.rangeAt w.heap.size 35 (A1.map bv)) (And.intro (fun j u hu => t.keep (r2 j u hu) (fun q => q) : W.rangeAt w.heap.size 67 (A2.map bv)) (And.intro (fun j u hu => t.keep (r3 j u hu) (fun q => q) : W.rangeAt w.heap.size 99 (A3.map bv)) (And.intro (fun j u hu => t.keep (r4 j u hu) (fun q => q) : W.rangeAt w.heap.size 131 (A4.map bv)) (And.intro (fun j u hu => t.keep (r5 j u hu) (fun q => q) : W.rangeAt w.heap.size 163 (A5.map bv)) (fun j u hu => t.keep (r6 j u hu) (fun q => q) : W.rangeAt w.heap.size 195 (A6.map bv))))))))))))
  have HN := shutX (And.intro hT (And.intro (fun W => num79 W xh (by omega)) (And.intro (fun W => num79 W xt (by omega)) (And.intro (fun W => hash78 W A0 h0) (And.intro (fun W => hash78 W A1 h1) (And.intro (fun W => hash78 W A2 h2) (And.intro (fun W => hash78 W A3 h3) (And.intro (fun W => hash78 W A4 h4) (And.intro (fun W => hash78 W A5 h5) (And.intro (fun W => hash78 W A6 h6) (fun W => num79 W pr (by omega))))))))))))
  obtain ⟨B1, HB1⟩ : ∃ B, Shut (B = CB ++ (varE xh ++ (varE xt ++ (A0 ++ (A1 ++ (A2 ++ A3)))))) := ⟨_, ⟨rfl⟩⟩
  have lB : B1.length ≤ 200 := by rw [HB1.out]; simp; omega
  have Hd1 := shutX hT
  have HF : Shut (hdB' CB xh xt A0 A1 A2 A3 A4 A5 A6 pr = B1 ++ (A4 ++ (A5 ++ (A6 ++ varE pr)))) := ⟨by rw [HB1.out]; simp [hdB', List.append_assoc]⟩
  rw [HF.out]
  clear c0 c1 c2 c3 r0 r1 r2 r3 r4 r5 r6 b1 b2 b3 b4 hB hT hc
  go_enter Tryd.func34, Tryd.ntmps34
  go_upto_region 1 with fail
  try rw [hw1]
  obtain ⟨b, hbb⟩ : ∃ b, w.heap.size = b := ⟨_, rfl⟩
  rw [hbb] at Hc
  try rw [hbb]
  have Hbb := shutX hbb
  clear hbb hw1
  refine wp_region_held_drew (S := fun W => Turn no w1 W) (by kernel_rfl) (Turn.refl no w1).drew (fun hHeld => ?_)
  refine' wpAnyH_take (i := 0) (v := .pointer (some ⟨b, 0, none⟩)) rfl (by kernel_rfl) (by kernel_rfl) (by kernel_rfl) (fun _ _ _ h => h) (Or.inl ⟨by kernel_rfl, fun W hW => ?yq1⟩) hHeld ?rq1
  · go_simp
  refine' wpAnyH_take (i := 1) (v := .string ch) rfl (by kernel_rfl) (by kernel_rfl) (by kernel_rfl) (fun _ _ _ h => h) (Or.inl ⟨by kernel_rfl, fun W hW => ?yq2⟩) hHeld ?rq2
  · obtain ⟨z0, z1, z2, z3, -⟩ := Hc.out W hW
    go_simp
  refine' wpAnyH_take (i := 3) (v := .pointer (some ⟨b, 1, none⟩)) rfl (by kernel_rfl) (by kernel_rfl) (by kernel_rfl) (fun _ _ _ h => h) (Or.inl ⟨by kernel_rfl, fun W hW => ?yq3⟩) hHeld ?rq3
  · go_simp
  refine' wpAnyH_take (i := 4) (v := .int .u64 xh) rfl (by kernel_rfl) (by kernel_rfl) (by kernel_rfl) (fun _ _ _ h => h) (Or.inl ⟨by kernel_rfl, fun W hW => ?yq4⟩) hHeld ?rq4
  · obtain ⟨z0, z1, z2, z3, -⟩ := Hc.out W hW
    go_simp
  refine' wpAnyH_take (i := 6) (v := .pointer (some ⟨b, 2, none⟩)) rfl (by kernel_rfl) (by kernel_rfl) (by kernel_rfl) (fun _ _ _ h => h) (Or.inl ⟨by kernel_rfl, fun W hW => ?yq5⟩) hHeld ?rq5
  · go_simp
  refine' wpAnyH_take (i := 7) (v := .int .u64 xt) rfl (by kernel_rfl) (by kernel_rfl) (by kernel_rfl) (fun _ _ _ h => h) (Or.inl ⟨by kernel_rfl, fun W hW => ?yq6⟩) hHeld ?rq6
  · obtain ⟨z0, z1, z2, z3, -⟩ := Hc.out W hW
    go_simp
  refine' wpAnyH_take (i := 9) (v := .pointer (some ⟨b, 3, none⟩)) rfl (by kernel_rfl) (by kernel_rfl) (by kernel_rfl) (fun _ _ _ h => h) (Or.inl ⟨by kernel_rfl, fun W hW => ?yq7⟩) hHeld ?rq7
  · go_simp
  refine' wpAnyH_take (i := 10) (v := .agg (A0.map bv).toArray) rfl (by kernel_rfl) (by kernel_rfl) (by kernel_rfl) (fun _ _ _ h => h) (yieldsIf_load_mid (by kernel_rfl) 29 (.tmp 13) rfl b 3 (by kernel_rfl) (A0.map bv) _ (fun W h => (Hc.out W h).2.2.2.2.1) Tryd.underlying29 rfl i0) hHeld ?sq8
  refine' wpAnyH_take (i := 12) (v := .pointer (some ⟨b, 35, none⟩)) rfl (by kernel_rfl) (by kernel_rfl) (by kernel_rfl) (fun _ _ _ h => h) (Or.inl ⟨by kernel_rfl, fun W hW => ?yq9⟩) hHeld ?rq9
  · go_simp
  refine' wpAnyH_take (i := 13) (v := .agg (A1.map bv).toArray) rfl (by kernel_rfl) (by kernel_rfl) (by kernel_rfl) (fun _ _ _ h => h) (yieldsIf_load_mid (by kernel_rfl) 29 (.tmp 16) rfl b 35 (by kernel_rfl) (A1.map bv) _ (fun W h => (Hc.out W h).2.2.2.2.2.1) Tryd.underlying29 rfl i1) hHeld ?sq10
  refine' wpAnyH_take (i := 15) (v := .pointer (some ⟨b, 67, none⟩)) rfl (by kernel_rfl) (by kernel_rfl) (by kernel_rfl) (fun _ _ _ h => h) (Or.inl ⟨by kernel_rfl, fun W hW => ?yq11⟩) hHeld ?rq11
  · go_simp
  refine' wpAnyH_take (i := 16) (v := .agg (A2.map bv).toArray) rfl (by kernel_rfl) (by kernel_rfl) (by kernel_rfl) (fun _ _ _ h => h) (yieldsIf_load_mid (by kernel_rfl) 29 (.tmp 19) rfl b 67 (by kernel_rfl) (A2.map bv) _ (fun W h => (Hc.out W h).2.2.2.2.2.2.1) Tryd.underlying29 rfl i2) hHeld ?sq12
  refine' wpAnyH_take (i := 18) (v := .pointer (some ⟨b, 99, none⟩)) rfl (by kernel_rfl) (by kernel_rfl) (by kernel_rfl) (fun _ _ _ h => h) (Or.inl ⟨by kernel_rfl, fun W hW => ?yq13⟩) hHeld ?rq13
  · go_simp
  refine' wpAnyH_take (i := 19) (v := .agg (A3.map bv).toArray) rfl (by kernel_rfl) (by kernel_rfl) (by kernel_rfl) (fun _ _ _ h => h) (yieldsIf_load_mid (by kernel_rfl) 29 (.tmp 22) rfl b 99 (by kernel_rfl) (A3.map bv) _ (fun W h => (Hc.out W h).2.2.2.2.2.2.2.1) Tryd.underlying29 rfl i3) hHeld ?sq14
  obtain ⟨X0, hX0⟩ : ∃ X, w1.drew = X := ⟨_, rfl⟩
  rw [hX0] at hHeld ⊢
  clear hX0
  refine wpAnyH_ready (rs := [2]) (by kernel_rfl) (by simp) ?_
  refine AllReadyH.cons rfl (fun K hK => ?_) AllReadyH.nil
  go_simp
  refine (HN.out.1 X0).mono ?_
  rintro e X15 ⟨v16, rfl, F17⟩
  obtain ⟨a18, l19, c20, rfl⟩ := F17.form
  have b21 := F17.own.bs
  refine hK.out _ _ (hHeld.then_no F17.turn) (fun hHeld => ?_)
  clear hK
  refine wpAnyH_ready (rs := [5]) (by kernel_rfl) (by simp) ?_
  refine AllReadyH.cons rfl (fun K hK => ?_) AllReadyH.nil
  go_simp
  refine (HN.out.2.1 X15).mono ?_
  rintro e X22 ⟨v23, rfl, F24⟩
  obtain ⟨a25, l26, c27, rfl⟩ := F24.form
  have b28 := F24.own.bs
  refine hK.out _ _ (hHeld.then_no F24.turn) (fun hHeld => ?_)
  clear hK
  have b29 := b21.turn_no F24.turn
  refine wpAnyH_ready (rs := [8]) (by kernel_rfl) (by simp) ?_
  refine AllReadyH.cons rfl (fun K hK => ?_) AllReadyH.nil
  go_simp
  refine (HN.out.2.2.1 X22).mono ?_
  rintro e X30 ⟨v31, rfl, F32⟩
  obtain ⟨a33, l34, c35, rfl⟩ := F32.form
  have b36 := F32.own.bs
  refine hK.out _ _ (hHeld.then_no F32.turn) (fun hHeld => ?_)
  clear hK
  have b37 := b29.turn_no F32.turn
  have b38 := b28.turn_no F32.turn
  refine wpAnyH_ready (rs := [11]) (by kernel_rfl) (by simp) ?_
  refine AllReadyH.cons rfl (fun K hK => ?_) AllReadyH.nil
  go_simp
  refine (HN.out.2.2.2.1 X30).mono ?_
  rintro e X39 ⟨v40, rfl, F41⟩
  obtain ⟨a42, l43, c44, rfl⟩ := F41.form
  have b45 := F41.own.bs
  refine hK.out _ _ (hHeld.then_no F41.turn) (fun hHeld => ?_)
  clear hK
  have b46 := b37.turn_no F41.turn
  have b47 := b38.turn_no F41.turn
  have b48 := b36.turn_no F41.turn
  refine wpAnyH_ready (rs := [14]) (by kernel_rfl) (by simp) ?_
  refine AllReadyH.cons rfl (fun K hK => ?_) AllReadyH.nil
  go_simp
  refine (HN.out.2.2.2.2.1 X39).mono ?_
  rintro e X49 ⟨v50, rfl, F51⟩
  obtain ⟨a52, l53, c54, rfl⟩ := F51.form
  have b55 := F51.own.bs
  refine hK.out _ _ (hHeld.then_no F51.turn) (fun hHeld => ?_)
  clear hK
  have b56 := b46.turn_no F51.turn
  have b57 := b47.turn_no F51.turn
  have b58 := b48.turn_no F51.turn
  have b59 := b45.turn_no F51.turn
  refine wpAnyH_ready (rs := [17]) (by kernel_rfl) (by simp) ?_
  refine AllReadyH.cons rfl (fun K hK => ?_) AllReadyH.nil
  go_simp
  refine (HN.out.2.2.2.2.2.1 X49).mono ?_
  rintro e X60 ⟨v61, rfl, F62⟩
  obtain ⟨a63, l64, c65, rfl⟩ := F62.form
  have b66 := F62.own.bs
  refine hK.out _ _ (hHeld.then_no F62.turn) (fun hHeld => ?_)
  clear hK
  have b67 := b56.turn_no F62.turn
  have b68 := b57.turn_no F62.turn
  have b69 := b58.turn_no F62.turn
  have b70 := b59.turn_no F62.turn
  have b71 := b55.turn_no F62.turn
  refine wpAnyH_ready (rs := [20]) (by kernel_rfl) (by simp) ?_
  refine AllReadyH.cons rfl (fun K hK => ?_) AllReadyH.nil
  go_simp
  refine (HN.out.2.2.2.2.2.2.1 X60).mono ?_
  rintro e X72 ⟨v73, rfl, F74⟩
  obtain ⟨a75, l76, c77, rfl⟩ := F74.form
  have b78 := F74.own.bs
  refine hK.out _ _ (hHeld.then_no F74.turn) (fun hHeld => ?_)
  clear hK
  have b79 := b67.turn_no F74.turn
  have b80 := b68.turn_no F74.turn
  have b81 := b69.turn_no F74.turn
  have b82 := b70.turn_no F74.turn
  have b83 := b71.turn_no F74.turn
  have b84 := b66.turn_no F74.turn
  refine wpAnyH_ready (rs := [21]) (by kernel_rfl) (by simp) ?_
  refine AllReadyH.cons rfl (fun K hK => ?_) AllReadyH.nil
  go_simp
  have R86 := Row.new X72 #[.slice a18 l19 c20, .slice a25 l26 c27, .slice a33 l34 c35, .slice a42 l43 c44, .slice a52 l53 c54, .slice a63 l64 c65, .slice a75 l76 c77] 70
  have T85 : Turn no X72 (World.alloc X72 (.cells #[.slice a18 l19 c20, .slice a25 l26 c27, .slice a33 l34 c35, .slice a42 l43 c44, .slice a52 l53 c54, .slice a63 l64 c65, .slice a75 l76 c77] 70)) := (Turn.refl no X72).alloc _
  have J := join78 (World.alloc X72 (.cells #[.slice a18 l19 c20, .slice a25 l26 c27, .slice a33 l34 c35, .slice a42 l43 c44, .slice a52 l53 c54, .slice a63 l64 c65, .slice a75 l76 c77] 70)) X72.heap.size 7 [(.slice a18 l19 c20, CB), (.slice a25 l26 c27, varE xh), (.slice a33 l34 c35, varE xt), (.slice a42 l43 c44, A0), (.slice a52 l53 c54, A1), (.slice a63 l64 c65, A2), (.slice a75 l76 c77, A3)] (by
    intro j x hx
    match j, hx with
    | 0, hx => simp at hx; subst hx; exact ⟨R86.cell 0 _ rfl, b79.turn_no T85⟩
    | 1, hx => simp at hx; subst hx; exact ⟨R86.cell 1 _ rfl, b80.turn_no T85⟩
    | 2, hx => simp at hx; subst hx; exact ⟨R86.cell 2 _ rfl, b81.turn_no T85⟩
    | 3, hx => simp at hx; subst hx; exact ⟨R86.cell 3 _ rfl, b82.turn_no T85⟩
    | 4, hx => simp at hx; subst hx; exact ⟨R86.cell 4 _ rfl, b83.turn_no T85⟩
    | 5, hx => simp at hx; subst hx; exact ⟨R86.cell 5 _ rfl, b84.turn_no T85⟩
    | 6, hx => simp at hx; subst hx; exact ⟨R86.cell 6 _ rfl, b78.turn_no T85⟩
    | n + 7, hx => simp at hx) (by simp) (by simp [catL]; omega)
  refine hK.out _ _ (hHeld.then_no T85) (fun hHeld => ?_)
  clear hK
  refine wpAnyH_ready (rs := [22]) (by kernel_rfl) (by simp) ?_
  refine AllReadyH.cons rfl (fun K hK => ?_) AllReadyH.nil
  go_simp
  refine J.mono ?_
  rintro e X92 ⟨v87, rfl, F88⟩
  obtain ⟨a89, l90, c91, rfl⟩ := F88.form
  have hT := hHeld.then_no F88.turn
  refine hK.out _ _ hT (fun hHeld => ?_)
  clear hK J
  refine wpAnyH_ready (rs := [23]) (by kernel_rfl) (by simp) ?_
  refine AllReadyH.cons rfl (fun K hK => ?_) AllReadyH.nil
  go_simp
  refine hK.out _ _ hHeld (fun hHeld => ?_)
  clear hK
  refine wpAnyH_done (by kernel_rfl) ?_ _
  go_simp
  go_upto_region 2 with fail
  have bF : Bs X92 (.slice a89 l90 c91) B1 := by have := F88.own.bs; rw [HB1.out]; simpa [catL] using this
  clear Hd1
  refine wp_region_held_drew (S := fun W => Turn no w1 W) (by kernel_rfl) hHeld.drew (fun hHeld => ?_)
  refine' wpAnyH_take (i := 0) (v := .slice a89 l90 c91) rfl (by kernel_rfl) (by kernel_rfl) (by kernel_rfl) (fun _ _ _ h => h) (Or.inl ⟨by kernel_rfl, fun W hW => ?yq93⟩) hHeld ?rq93
  · go_simp
  refine' wpAnyH_take (i := 1) (v := .pointer (some ⟨b, 131, none⟩)) rfl (by kernel_rfl) (by kernel_rfl) (by kernel_rfl) (fun _ _ _ h => h) (Or.inl ⟨by kernel_rfl, fun W hW => ?yq94⟩) hHeld ?rq94
  · go_simp
  refine' wpAnyH_take (i := 2) (v := .agg (A4.map bv).toArray) rfl (by kernel_rfl) (by kernel_rfl) (by kernel_rfl) (fun _ _ _ h => h) (yieldsIf_load_mid (by kernel_rfl) 29 (.tmp 28) rfl b 131 (by kernel_rfl) (A4.map bv) _ (fun W h => (Hc.out W h).2.2.2.2.2.2.2.2.1) Tryd.underlying29 rfl i4) hHeld ?sq95
  refine' wpAnyH_take (i := 4) (v := .pointer (some ⟨b, 163, none⟩)) rfl (by kernel_rfl) (by kernel_rfl) (by kernel_rfl) (fun _ _ _ h => h) (Or.inl ⟨by kernel_rfl, fun W hW => ?yq96⟩) hHeld ?rq96
  · go_simp
  refine' wpAnyH_take (i := 5) (v := .agg (A5.map bv).toArray) rfl (by kernel_rfl) (by kernel_rfl) (by kernel_rfl) (fun _ _ _ h => h) (yieldsIf_load_mid (by kernel_rfl) 29 (.tmp 31) rfl b 163 (by kernel_rfl) (A5.map bv) _ (fun W h => (Hc.out W h).2.2.2.2.2.2.2.2.2.1) Tryd.underlying29 rfl i5) hHeld ?sq97
  refine' wpAnyH_take (i := 7) (v := .pointer (some ⟨b, 195, none⟩)) rfl (by kernel_rfl) (by kernel_rfl) (by kernel_rfl) (fun _ _ _ h => h) (Or.inl ⟨by kernel_rfl, fun W hW => ?yq98⟩) hHeld ?rq98
  · go_simp
  refine' wpAnyH_take (i := 8) (v := .agg (A6.map bv).toArray) rfl (by kernel_rfl) (by kernel_rfl) (by kernel_rfl) (fun _ _ _ h => h) (yieldsIf_load_mid (by kernel_rfl) 29 (.tmp 34) rfl b 195 (by kernel_rfl) (A6.map bv) _ (fun W h => (Hc.out W h).2.2.2.2.2.2.2.2.2.2) Tryd.underlying29 rfl i6) hHeld ?sq99
  refine' wpAnyH_take (i := 10) (v := .pointer (some ⟨b, 227, none⟩)) rfl (by kernel_rfl) (by kernel_rfl) (by kernel_rfl) (fun _ _ _ h => h) (Or.inl ⟨by kernel_rfl, fun W hW => ?yq100⟩) hHeld ?rq100
  · go_simp
  refine' wpAnyH_take (i := 11) (v := .int .u64 pr) rfl (by kernel_rfl) (by kernel_rfl) (by kernel_rfl) (fun _ _ _ h => h) (Or.inl ⟨by kernel_rfl, fun W hW => ?yq101⟩) hHeld ?rq101
  · obtain ⟨z0, z1, z2, z3, -⟩ := Hc.out W hW
    go_simp
  obtain ⟨Y0, hY0⟩ : ∃ X, X92.drew = X := ⟨_, rfl⟩
  have TY : Turn no X92 Y0 := by rw [← hY0]; exact (Turn.refl no X92).drew
  rw [hY0] at hHeld ⊢
  clear hY0
  have bG := bF.turn_no TY
  refine wpAnyH_ready (rs := [3]) (by kernel_rfl) (by simp) ?_
  refine AllReadyH.cons rfl (fun K hK => ?_) AllReadyH.nil
  go_simp
  refine (HN.out.2.2.2.2.2.2.2.1 Y0).mono ?_
  rintro e X102 ⟨v103, rfl, F104⟩
  obtain ⟨a105, l106, c107, rfl⟩ := F104.form
  have b108 := F104.own.bs
  refine hK.out _ _ (hHeld.then_no F104.turn) (fun hHeld => ?_)
  clear hK
  have b109 := bG.turn_no F104.turn
  refine wpAnyH_ready (rs := [6]) (by kernel_rfl) (by simp) ?_
  refine AllReadyH.cons rfl (fun K hK => ?_) AllReadyH.nil
  go_simp
  refine (HN.out.2.2.2.2.2.2.2.2.1 X102).mono ?_
  rintro e X110 ⟨v111, rfl, F112⟩
  obtain ⟨a113, l114, c115, rfl⟩ := F112.form
  have b116 := F112.own.bs
  refine hK.out _ _ (hHeld.then_no F112.turn) (fun hHeld => ?_)
  clear hK
  have b117 := b109.turn_no F112.turn
  have b118 := b108.turn_no F112.turn
  refine wpAnyH_ready (rs := [9]) (by kernel_rfl) (by simp) ?_
  refine AllReadyH.cons rfl (fun K hK => ?_) AllReadyH.nil
  go_simp
  refine (HN.out.2.2.2.2.2.2.2.2.2.1 X110).mono ?_
  rintro e X119 ⟨v120, rfl, F121⟩
  obtain ⟨a122, l123, c124, rfl⟩ := F121.form
  have b125 := F121.own.bs
  refine hK.out _ _ (hHeld.then_no F121.turn) (fun hHeld => ?_)
  clear hK
  have b126 := b117.turn_no F121.turn
  have b127 := b118.turn_no F121.turn
  have b128 := b116.turn_no F121.turn
  refine wpAnyH_ready (rs := [12]) (by kernel_rfl) (by simp) ?_
  refine AllReadyH.cons rfl (fun K hK => ?_) AllReadyH.nil
  go_simp
  refine (HN.out.2.2.2.2.2.2.2.2.2.2 X119).mono ?_
  rintro e X129 ⟨v130, rfl, F131⟩
  obtain ⟨a132, l133, c134, rfl⟩ := F131.form
  have b135 := F131.own.bs
  refine hK.out _ _ (hHeld.then_no F131.turn) (fun hHeld => ?_)
  clear hK
  have b136 := b126.turn_no F131.turn
  have b137 := b127.turn_no F131.turn
  have b138 := b128.turn_no F131.turn
  have b139 := b125.turn_no F131.turn
  refine wpAnyH_ready (rs := [13]) (by kernel_rfl) (by simp) ?_
  refine AllReadyH.cons rfl (fun K hK => ?_) AllReadyH.nil
  go_simp
  have R141 := Row.new X129 #[.slice a89 l90 c91, .slice a105 l106 c107, .slice a113 l114 c115, .slice a122 l123 c124, .slice a132 l133 c134] 70
  have T140 : Turn no X129 (World.alloc X129 (.cells #[.slice a89 l90 c91, .slice a105 l106 c107, .slice a113 l114 c115, .slice a122 l123 c124, .slice a132 l133 c134] 70)) := (Turn.refl no X129).alloc _
  have J := join78 (World.alloc X129 (.cells #[.slice a89 l90 c91, .slice a105 l106 c107, .slice a113 l114 c115, .slice a122 l123 c124, .slice a132 l133 c134] 70)) X129.heap.size 5 [(.slice a89 l90 c91, B1), (.slice a105 l106 c107, A4), (.slice a113 l114 c115, A5), (.slice a122 l123 c124, A6), (.slice a132 l133 c134, varE pr)] (by
    intro j x hx
    match j, hx with
    | 0, hx => simp at hx; subst hx; exact ⟨R141.cell 0 _ rfl, b136.turn_no T140⟩
    | 1, hx => simp at hx; subst hx; exact ⟨R141.cell 1 _ rfl, b137.turn_no T140⟩
    | 2, hx => simp at hx; subst hx; exact ⟨R141.cell 2 _ rfl, b138.turn_no T140⟩
    | 3, hx => simp at hx; subst hx; exact ⟨R141.cell 3 _ rfl, b139.turn_no T140⟩
    | 4, hx => simp at hx; subst hx; exact ⟨R141.cell 4 _ rfl, b135.turn_no T140⟩
    | n + 5, hx => simp at hx) (by simp) (by simp [catL]; omega)
  refine hK.out _ _ (hHeld.then_no T140) (fun hHeld => ?_)
  clear hK
  refine wpAnyH_ready (rs := [14]) (by kernel_rfl) (by simp) ?_
  refine AllReadyH.cons rfl (fun K hK => ?_) AllReadyH.nil
  go_simp
  refine J.mono ?_
  rintro e X147 ⟨v142, rfl, F143⟩
  obtain ⟨a144, l145, c146, rfl⟩ := F143.form
  have hT := hHeld.then_no F143.turn
  refine hK.out _ _ hT (fun hHeld => ?_)
  clear hK J
  refine wpAnyH_ready (rs := [15]) (by kernel_rfl) (by simp) ?_
  refine AllReadyH.cons rfl (fun K hK => ?_) AllReadyH.nil
  go_simp
  refine hK.out _ _ hHeld (fun hHeld => ?_)
  clear hK
  refine wpAnyH_done (by kernel_rfl) ?_ _
  go_simp
  go_wp2_with fail
  go_ret
  exact ⟨_, rfl, by simpa [catL, hdB'] using F143.own, fun g hg => fin_new t0 (by assumption) ⟨F143.own, fun g hg => Nat.le_trans T140.size (F143.new g hg), T140.then_no F143.turn⟩ g hg, t0.then_no hHeld⟩
end Go.Proofs.YtgimecdmleofeaaDoor
