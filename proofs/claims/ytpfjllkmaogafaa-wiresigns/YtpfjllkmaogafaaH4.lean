/- proposal of the document. -/
import Derived.Test.YtpfjllkmaogafaaK3
import Derived.Test.YtpfjllkmaogafaaH3
import Derived.Deep.RegionHeld
namespace Go.Proofs.Ytpfjllkmaogafaa
open Go.RowKit
set_option linter.unusedVariables false

def poB' (nh nr nv : Nat) (X : List UInt8) (nf : Nat) : List UInt8 := varE nh ++ (varE nr ++ (varE nv ++ (X ++ varE nf)))
set_option maxRecDepth 100000 in
set_option maxHeartbeats 8000000 in
theorem prop42 (w : World) (x : Po) (ho : x.ok) (hr1 : 0 ≤ x.r) (hr2 : x.r ≤ 65535) (hv1 : -1 ≤ x.vr) (hv2 : x.vr < x.r) : Calls Try.prog 42 #[.agg x.cs.toArray, .bool false] w fun e w' => ∃ v, e = .returned v ∧ Fr w w' v (poB x) := by
  obtain ⟨c0, c1, c2, c3, ci, cse⟩ := (Row.new w x.cs.toArray 33).po ho
  obtain ⟨nr, er⟩ : ∃ k : Nat, x.r = (k : Int) := ⟨x.r.toNat, by omega⟩
  obtain ⟨nv, ev⟩ : ∃ k : Nat, x.vr + 1 = (k : Int) := ⟨(x.vr + 1).toNat, by omega⟩
  have hB : poB x = poB' x.h nr nv x.id x.f := by
    unfold poB poB'
    rw [er, ev]
    simp only [Int.toNat_natCast]
  rw [hB]
  obtain ⟨SE, hSE⟩ : ∃ S, x.se.map bv = S := ⟨_, rfl⟩
  have hsl : (Try.prog.info? 25).map (·.size) = some SE.length := by rw [← hSE, List.length_map, ho.2.1]; kernel_rfl
  have hil : (Try.prog.info? 29).map (·.size) = some (x.id.map bv).length := by rw [List.length_map, ho.1]; exact size24
  rw [hSE] at cse
  rw [er] at c1 hr1 hr2 hv2
  have hwr : IntKind.u64.wrap (nr : Int) = (nr : Int) := by rw [IntKind.wrap_u64]; omega
  have hwv : IntKind.u64.wrap (nv : Int) = (nv : Int) := by rw [IntKind.wrap_u64]; omega
  have hwi : IntKind.i64.wrap (x.vr + 1) = (nv : Int) := by rw [IntKind.wrap_i64]; omega
  have hwi2 : wrap64 (x.vr + 1) = (nv : Int) := by unfold wrap64; omega
  have l1 := varE_le x.h
  have l2 := varE_le nr
  have l3 := varE_le nv
  have l4 := varE_le x.f
  have l5 := ho.1
  have hX := fun W => hash84 W x.id ho.1
  have bh := ho.2.2.1
  have bf := ho.2.2.2
  generalize x.vr = vv at *
  generalize x.id = X at *
  generalize x.h = nh at *
  generalize x.f = nf at *
  generalize x.cs.toArray = C at *
  have t0 : Turn no w (w.alloc (.cells C 33)) := (Turn.refl no w).alloc _
  obtain ⟨w1, hw1⟩ : ∃ W, w.alloc (.cells C 33) = W := ⟨_, rfl⟩
  rw [hw1] at t0 c0 c1 c2 c3 ci cse
  have Hc := shutX (fun W (t : Turn no w1 W) => And.intro (t.keep c0 (fun q => q)) (And.intro (t.keep c1 (fun q => q)) (And.intro (t.keep c2 (fun q => q)) (And.intro (t.keep c3 (fun q => q)) (And.intro (fun j u hu => t.keep (ci j u hu) (fun q => q) : W.rangeAt w.heap.size 3 (X.map bv)) (fun j u hu => t.keep (cse j u hu) (fun q => q) : W.rangeAt w.heap.size 36 SE))))))
  have HN := shutX (And.intro (fun W => num79 W nh bh) (And.intro (fun W => num79 W nr (by omega)) (And.intro (fun W => num79 W nv (by omega)) (And.intro hX (fun W => num79 W nf bf)))))
  clear hr1 hr2 hv1 hv2 c0 c1 c2 c3 ci cse hSE hB er ev ho hX bh bf
  go_enter Try.func42, Try.ntmps42
  go_upto_region 1 with fail
  try rw [hw1]
  obtain ⟨b, hbb⟩ : ∃ b, w.heap.size = b := ⟨_, rfl⟩
  rw [hbb] at Hc
  try rw [hbb]
  have Hbb := shutX hbb
  clear hbb hw1
  refine wp_region_held_drew (S := fun W => Turn no w1 W) (by kernel_rfl) (Turn.refl no w1).drew (fun hHeld => ?_)
  refine' wpAnyH_take (i := 0) (v := .pointer (some ⟨b, 0, none⟩)) rfl (by kernel_rfl) (by kernel_rfl) (by kernel_rfl) (fun _ _ _ h => h) (Or.inl ⟨by kernel_rfl, fun W hW => ?yq1⟩) hHeld ?rq1
  · go_simp
  refine' wpAnyH_take (i := 1) (v := .int .u64 nh) rfl (by kernel_rfl) (by kernel_rfl) (by kernel_rfl) (fun _ _ _ h => h) (Or.inl ⟨by kernel_rfl, fun W hW => ?yq2⟩) hHeld ?rq2
  · obtain ⟨z0, z1, z2, z3, z4, z5⟩ := Hc.out W hW
    go_simp
  refine' wpAnyH_take (i := 3) (v := .pointer (some ⟨b, 1, none⟩)) rfl (by kernel_rfl) (by kernel_rfl) (by kernel_rfl) (fun _ _ _ h => h) (Or.inl ⟨by kernel_rfl, fun W hW => ?yq3⟩) hHeld ?rq3
  · go_simp
  refine' wpAnyH_take (i := 4) (v := .int .i64 nr) rfl (by kernel_rfl) (by kernel_rfl) (by kernel_rfl) (fun _ _ _ h => h) (Or.inl ⟨by kernel_rfl, fun W hW => ?yq4⟩) hHeld ?rq4
  · obtain ⟨z0, z1, z2, z3, z4, z5⟩ := Hc.out W hW
    go_simp
  refine' wpAnyH_take (i := 5) (v := .int .u64 nr) rfl (by kernel_rfl) (by kernel_rfl) (by kernel_rfl) (fun _ _ _ h => h) (Or.inl ⟨by kernel_rfl, fun W hW => ?yq5⟩) hHeld ?rq5
  · go_simp
  refine' wpAnyH_take (i := 7) (v := .pointer (some ⟨b, 2, none⟩)) rfl (by kernel_rfl) (by kernel_rfl) (by kernel_rfl) (fun _ _ _ h => h) (Or.inl ⟨by kernel_rfl, fun W hW => ?yq6⟩) hHeld ?rq6
  · go_simp
  refine' wpAnyH_take (i := 8) (v := .int .i64 vv) rfl (by kernel_rfl) (by kernel_rfl) (by kernel_rfl) (fun _ _ _ h => h) (Or.inl ⟨by kernel_rfl, fun W hW => ?yq7⟩) hHeld ?rq7
  · obtain ⟨z0, z1, z2, z3, z4, z5⟩ := Hc.out W hW
    go_simp
  refine' wpAnyH_take (i := 9) (v := .int .i64 nv) rfl (by kernel_rfl) (by kernel_rfl) (by kernel_rfl) (fun _ _ _ h => h) (Or.inl ⟨by kernel_rfl, fun W hW => ?yq8⟩) hHeld ?rq8
  · go_simp
  refine' wpAnyH_take (i := 10) (v := .int .u64 nv) rfl (by kernel_rfl) (by kernel_rfl) (by kernel_rfl) (fun _ _ _ h => h) (Or.inl ⟨by kernel_rfl, fun W hW => ?yq9⟩) hHeld ?rq9
  · go_simp
  refine' wpAnyH_take (i := 12) (v := .pointer (some ⟨b, 3, none⟩)) rfl (by kernel_rfl) (by kernel_rfl) (by kernel_rfl) (fun _ _ _ h => h) (Or.inl ⟨by kernel_rfl, fun W hW => ?yq10⟩) hHeld ?rq10
  · go_simp
  refine' wpAnyH_take (i := 13) (v := .agg (X.map bv).toArray) rfl (by kernel_rfl) (by kernel_rfl) (by kernel_rfl) (fun _ _ _ h => h) (yieldsIf_load_mid (by kernel_rfl) 29 (.tmp 17) rfl b 3 (by kernel_rfl) (X.map bv) _ (fun W h => (Hc.out W h).2.2.2.2.1) Try.underlying29 rfl hil) hHeld ?s13
  refine' wpAnyH_take (i := 15) (v := .pointer (some ⟨b, 35, none⟩)) rfl (by kernel_rfl) (by kernel_rfl) (by kernel_rfl) (fun _ _ _ h => h) (Or.inl ⟨by kernel_rfl, fun W hW => ?yq11⟩) hHeld ?rq11
  · go_simp
  refine' wpAnyH_take (i := 16) (v := .int .u64 nf) rfl (by kernel_rfl) (by kernel_rfl) (by kernel_rfl) (fun _ _ _ h => h) (Or.inl ⟨by kernel_rfl, fun W hW => ?yq12⟩) hHeld ?rq12
  · obtain ⟨z0, z1, z2, z3, z4, z5⟩ := Hc.out W hW
    go_simp
  refine' wpAnyH_take (i := 18) (v := .pointer (some ⟨b, 36, none⟩)) rfl (by kernel_rfl) (by kernel_rfl) (by kernel_rfl) (fun _ _ _ h => h) (Or.inl ⟨by kernel_rfl, fun W hW => ?yq13⟩) hHeld ?rq13
  · go_simp
  refine' wpAnyH_take (i := 19) (v := .agg (SE).toArray) rfl (by kernel_rfl) (by kernel_rfl) (by kernel_rfl) (fun _ _ _ h => h) (yieldsIf_load_mid (by kernel_rfl) 25 (.tmp 23) rfl b 36 (by kernel_rfl) (SE) _ (fun W h => (Hc.out W h).2.2.2.2.2) Try.underlying25 rfl hsl) hHeld ?s19
  refine' wpAnyH_take (i := 20) (v := .bool false) rfl (by kernel_rfl) (by kernel_rfl) (by kernel_rfl) (fun _ _ _ h => h) (Or.inl ⟨by kernel_rfl, fun W hW => ?yq14⟩) hHeld ?rq14
  · go_simp
  obtain ⟨X0, hX0⟩ : ∃ X, w1.drew = X := ⟨_, rfl⟩
  rw [hX0] at hHeld ⊢
  clear hX0
  refine wpAnyH_ready (rs := [2]) (by kernel_rfl) (by simp) ?_
  refine AllReadyH.cons rfl (fun K hK => ?_) AllReadyH.nil
  go_simp
  refine (HN.out.1 X0).mono ?_
  rintro e X15 ⟨v16, rfl, F17⟩
  obtain ⟨a18, l19, c20, rfl⟩ := F17.form
  have b21 := F17.own.bs
  refine hK.out _ _ (hHeld.then_no F17.turn) (fun hHeld => ?_)
  clear hK
  refine wpAnyH_ready (rs := [6]) (by kernel_rfl) (by simp) ?_
  refine AllReadyH.cons rfl (fun K hK => ?_) AllReadyH.nil
  go_simp
  refine (HN.out.2.1 X15).mono ?_
  rintro e X22 ⟨v23, rfl, F24⟩
  obtain ⟨a25, l26, c27, rfl⟩ := F24.form
  have b28 := F24.own.bs
  refine hK.out _ _ (hHeld.then_no F24.turn) (fun hHeld => ?_)
  clear hK
  have b29 := b21.turn_no F24.turn
  refine wpAnyH_ready (rs := [11]) (by kernel_rfl) (by simp) ?_
  refine AllReadyH.cons rfl (fun K hK => ?_) AllReadyH.nil
  go_simp
  refine (HN.out.2.2.1 X22).mono ?_
  rintro e X30 ⟨v31, rfl, F32⟩
  obtain ⟨a33, l34, c35, rfl⟩ := F32.form
  have b36 := F32.own.bs
  refine hK.out _ _ (hHeld.then_no F32.turn) (fun hHeld => ?_)
  clear hK
  have b37 := b29.turn_no F32.turn
  have b38 := b28.turn_no F32.turn
  refine wpAnyH_ready (rs := [14]) (by kernel_rfl) (by simp) ?_
  refine AllReadyH.cons rfl (fun K hK => ?_) AllReadyH.nil
  go_simp
  refine (HN.out.2.2.2.1 X30).mono ?_
  rintro e X39 ⟨v40, rfl, F41⟩
  obtain ⟨a42, l43, c44, rfl⟩ := F41.form
  have b45 := F41.own.bs
  refine hK.out _ _ (hHeld.then_no F41.turn) (fun hHeld => ?_)
  clear hK
  have b46 := b37.turn_no F41.turn
  have b47 := b38.turn_no F41.turn
  have b48 := b36.turn_no F41.turn
  refine wpAnyH_ready (rs := [17]) (by kernel_rfl) (by simp) ?_
  refine AllReadyH.cons rfl (fun K hK => ?_) AllReadyH.nil
  go_simp
  refine (HN.out.2.2.2.2 X39).mono ?_
  rintro e X49 ⟨v50, rfl, F51⟩
  obtain ⟨a52, l53, c54, rfl⟩ := F51.form
  have b55 := F51.own.bs
  refine hK.out _ _ (hHeld.then_no F51.turn) (fun hHeld => ?_)
  clear hK
  have b56 := b46.turn_no F51.turn
  have b57 := b47.turn_no F51.turn
  have b58 := b48.turn_no F51.turn
  have b59 := b45.turn_no F51.turn
  refine wpAnyH_ready (rs := [21]) (by kernel_rfl) (by simp) ?_
  refine AllReadyH.cons rfl (fun K hK => ?_) AllReadyH.nil
  go_simp
  refine (sealed80 X49 SE.toArray).mono ?_
  rintro e X60 ⟨rfl, T61⟩
  have b62 : Bs X60 (.slice none 0 0) [] := Or.inl ⟨rfl, rfl⟩
  refine hK.out _ _ (hHeld.then_no T61) (fun hHeld => ?_)
  clear hK
  have b63 := b56.turn_no T61
  have b64 := b57.turn_no T61
  have b65 := b58.turn_no T61
  have b66 := b59.turn_no T61
  have b67 := b55.turn_no T61
  refine wpAnyH_ready (rs := [22]) (by kernel_rfl) (by simp) ?_
  refine AllReadyH.cons rfl (fun K hK => ?_) AllReadyH.nil
  go_simp
  have R69 := Row.new X60 #[.slice a18 l19 c20, .slice a25 l26 c27, .slice a33 l34 c35, .slice a42 l43 c44, .slice a52 l53 c54, .slice none 0 0] 36
  have T68 : Turn no X60 (World.alloc X60 (.cells #[.slice a18 l19 c20, .slice a25 l26 c27, .slice a33 l34 c35, .slice a42 l43 c44, .slice a52 l53 c54, .slice none 0 0] 36)) := (Turn.refl no X60).alloc _
  have J := join78 (World.alloc X60 (.cells #[.slice a18 l19 c20, .slice a25 l26 c27, .slice a33 l34 c35, .slice a42 l43 c44, .slice a52 l53 c54, .slice none 0 0] 36)) X60.heap.size 6 [(.slice a18 l19 c20, varE nh), (.slice a25 l26 c27, varE nr), (.slice a33 l34 c35, varE nv), (.slice a42 l43 c44, X), (.slice a52 l53 c54, varE nf), (.slice none 0 0, [])] (by
    intro j x hx
    match j, hx with
    | 0, hx => simp at hx; subst hx; exact ⟨R69.cell 0 _ rfl, b63.turn_no T68⟩
    | 1, hx => simp at hx; subst hx; exact ⟨R69.cell 1 _ rfl, b64.turn_no T68⟩
    | 2, hx => simp at hx; subst hx; exact ⟨R69.cell 2 _ rfl, b65.turn_no T68⟩
    | 3, hx => simp at hx; subst hx; exact ⟨R69.cell 3 _ rfl, b66.turn_no T68⟩
    | 4, hx => simp at hx; subst hx; exact ⟨R69.cell 4 _ rfl, b67.turn_no T68⟩
    | 5, hx => simp at hx; subst hx; exact ⟨R69.cell 5 _ rfl, b62.turn_no T68⟩
    | n + 6, hx => simp at hx) (by simp) (by simp [catL]; omega)
  refine hK.out _ _ (hHeld.then_no T68) (fun hHeld => ?_)
  clear hK
  refine wpAnyH_ready (rs := [23]) (by kernel_rfl) (by simp) ?_
  refine AllReadyH.cons rfl (fun K hK => ?_) AllReadyH.nil
  go_simp
  refine J.mono ?_
  rintro e X75 ⟨v70, rfl, F71⟩
  obtain ⟨a72, l73, c74, rfl⟩ := F71.form
  have hT := hHeld.then_no F71.turn
  refine hK.out _ _ hT (fun hHeld => ?_)
  clear hK J
  refine wpAnyH_ready (rs := [24]) (by kernel_rfl) (by simp) ?_
  refine AllReadyH.cons rfl (fun K hK => ?_) AllReadyH.nil
  go_simp
  refine hK.out _ _ hHeld (fun hHeld => ?_)
  clear hK
  refine wpAnyH_done (by kernel_rfl) ?_ _
  go_simp
  go_wp2_with fail
  go_ret
  exact ⟨_, rfl, by simpa [catL, poB'] using F71.own, fun g hg => fin_new t0 (by assumption) T68 F71 g hg, t0.then_no hHeld⟩
end Go.Proofs.Ytpfjllkmaogafaa
