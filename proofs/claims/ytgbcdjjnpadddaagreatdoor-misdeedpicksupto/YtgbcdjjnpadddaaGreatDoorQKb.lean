/- Texts in one. -/
import Derived.Test.YtgbcdjjnpadddaaGreatDoorQY
import Derived.Test.YtgbcdjjnpadddaaGreatDoorQK
import Derived.Deep.RegionHeld
import Derived.Test.YtgbcdjjnpadddaaGreatDoorQU
/- vote of the document. -/
namespace Go.Proofs.YtgbcdjjnpadddaaGreatDoor
open Go.RowKit
set_option linter.unusedVariables false

theorem hash84 (w : World) (X : List UInt8) (hx : X.length = 32) : Calls Tryz.prog 112 #[.agg (X.map bv).toArray] w fun e w' => ∃ v, e = .returned v ∧ Fr w w' v X := by
  have r := Row.rangeQ (Row.new w (X.map bv).toArray 26)
  have t0 : Turn no w (w.alloc (.cells (X.map bv).toArray 26)) := (Turn.refl no w).alloc _
  have hsr := fun W (t : Turn no (w.alloc (.cells (X.map bv).toArray 26)) W) => (bs_range (fun j u hu => t.keep (r j u hu) (fun q => q)) 32 hx (by omega)).src (P := Tryz.prog) Tryz.underlying124
  rw [hx] at hsr
  have Hsr := shutX hsr
  clear hsr r
  generalize (X.map bv).toArray = C at *
  obtain ⟨w0, hw0⟩ : ∃ W, w.alloc (.cells C 26) = W := ⟨_, rfl⟩
  rw [hw0] at t0 Hsr
  go_enter Tryz.func112, Tryz.ntmps112
  go_upto_region 1 with fail
  try rw [hw0]
  go_wp2_with (at_builtin; refine wpList_append_src rfl (.tmp 3) (.tmp 4) rfl Tryz.underlying124 Tryz.info5q rfl _ [] rfl (own_empty w0 5) _ 32 (X.map bv) rfl (Hsr.out _ ((Turn.refl _ _).alloc _)) (by simp) (by simp [maxLen]) ?_)
  intro v1 w1 o1 g1 _
  have F1 := ((fr_empty w0).append (ys := X) (Turn.refl _ _) o1 g1).pre t0
  rw [List.nil_append] at F1
  obtain ⟨ad, ln, cp, rfl⟩ := o1.form
  go_wp2_with fail
  go_ret
  exact ⟨_, rfl, F1⟩
def voB' (b0 : UInt8) (nh nr : Nat) (X : List UInt8) (nt nf : Nat) : List UInt8 := [b0] ++ (varE nh ++ (varE nr ++ (X ++ (varE nt ++ varE nf))))
set_option maxRecDepth 100000 in
set_option maxHeartbeats 8000000 in
theorem vote40 (w : World) (x : Vt) (ho : x.fits) (hk1 : 1 ≤ x.k) (hk4 : x.k ≤ 2) (hr1 : 0 ≤ x.r) (hr2 : x.r ≤ 65535) : Calls Tryz.prog 83 #[.agg x.cs.toArray, .bool false] w fun e w' => ∃ v, e = .returned v ∧ Fr w w' v (voB x) := by
  obtain ⟨hok, hh, ht, hf⟩ := ho
  obtain ⟨c0, c1, c2, c3, c4, ci⟩ := (Row.new w x.cs.toArray 50).vt hok
  obtain ⟨b0, hb0⟩ : ∃ b0 : UInt8, x.k = (b0.toNat : Int) := ⟨UInt8.ofNat x.k.toNat, by simp; omega⟩
  obtain ⟨nh, eh⟩ : ∃ k : Nat, x.h = (k : Int) := ⟨x.h.toNat, by omega⟩
  obtain ⟨nr, er⟩ : ∃ k : Nat, x.r = (k : Int) := ⟨x.r.toNat, by omega⟩
  obtain ⟨nt, et⟩ : ∃ k : Nat, x.t = (k : Int) := ⟨x.t.toNat, by omega⟩
  obtain ⟨nf, ef⟩ : ∃ k : Nat, x.f = (k : Int) := ⟨x.f.toNat, by omega⟩
  have hB : voB x = voB' b0 nh nr x.id nt nf := by
    unfold voB voB'
    rw [hb0, eh, er, et, ef]
    simp only [Int.toNat_natCast]
    have : leB b0.toNat 1 = [b0] := by simp [leB]
    rw [this]
  rw [hB]
  obtain ⟨SE, hSE⟩ : ∃ S, x.se.map bv = S := ⟨_, rfl⟩
  have hsl : (Tryz.prog.info? 48).map (·.size) = some SE.length := by rw [← hSE, List.length_map, hok.2]; kernel_rfl
  have hil : (Tryz.prog.info? 26).map (·.size) = some (x.id.map bv).length := by rw [List.length_map, hok.1]; exact qsize24
  have cs : (w.alloc (.cells x.cs.toArray 50)).rangeAt w.heap.size 37 SE := fun j u hu => (Row.new w x.cs.toArray 50).cell (37 + j) u (Vt.cse hok j u (by rw [hSE]; exact hu))
  rw [hb0] at c0
  rw [eh] at c1 hh
  rw [er] at c2 hr1 hr2
  rw [et] at c3 ht
  rw [ef] at c4 hf
  have hb8 := b0.toNat_lt
  have hw8 : IntKind.u8.wrap (b0.toNat : Int) = (b0.toNat : Int) := by rw [IntKind.wrap_u8]; omega
  have hwr : IntKind.u64.wrap (nr : Int) = (nr : Int) := by rw [IntKind.wrap_u64]; omega
  have l1 := varE_le nh
  have l2 := varE_le nr
  have l3 := varE_le nt
  have l4 := varE_le nf
  have l5 := hok.1
  have hX := fun W => hash84 W x.id hok.1
  generalize x.id = X at *
  generalize x.cs.toArray = C at *
  have t0 : Turn no w (w.alloc (.cells C 50)) := (Turn.refl no w).alloc _
  obtain ⟨w1, hw1⟩ : ∃ W, w.alloc (.cells C 50) = W := ⟨_, rfl⟩
  rw [hw1] at t0 c0 c1 c2 c3 c4 ci cs
  have Hc := shutX (fun W (t : Turn no w1 W) => And.intro (t.keep c0 (fun q => q)) (And.intro (t.keep c1 (fun q => q)) (And.intro (t.keep c2 (fun q => q)) (And.intro (t.keep c3 (fun q => q)) (And.intro (t.keep c4 (fun q => q)) (And.intro (fun j u hu => t.keep (ci j u hu) (fun q => q) : W.rangeAt w.heap.size 3 (X.map bv)) (fun j u hu => t.keep (cs j u hu) (fun q => q) : W.rangeAt w.heap.size 37 SE)))))))
  have HN := shutX (And.intro (fun W => num79 W nh (by omega)) (And.intro (fun W => num79 W nr (by omega)) (And.intro hX (And.intro (fun W => num79 W nt (by omega)) (fun W => num79 W nf (by omega))))))
  clear hh ht hf hr1 hr2 c0 c1 c2 c3 c4 ci cs hSE hk1 hk4 hb8 hb0 hB eh er et ef hok hX
  go_enter Tryz.func83, Tryz.ntmps83
  go_upto_region 1 with fail
  try rw [hw1]
  obtain ⟨b, hbb⟩ : ∃ b, w.heap.size = b := ⟨_, rfl⟩
  rw [hbb] at Hc
  try rw [hbb]
  have Hbb := shutX hbb
  clear hbb hw1
  refine wp_region_held_drew (S := fun W => Turn no w1 W) (by kernel_rfl) (Turn.refl no w1).drew (fun hHeld => ?_)
  refine' wpAnyH_take (i := 0) (v := .pointer (some ⟨b, 0, none⟩)) rfl (by kernel_rfl) (by kernel_rfl) (by kernel_rfl) (fun _ _ _ h => h) (Or.inl ⟨by kernel_rfl, fun W hW => ?yq1⟩) hHeld ?rq1
  · go_simp
  refine' wpAnyH_take (i := 1) (v := .int .i64 b0.toNat) rfl (by kernel_rfl) (by kernel_rfl) (by kernel_rfl) (fun _ _ _ h => h) (Or.inl ⟨by kernel_rfl, fun W hW => ?yq2⟩) hHeld ?rq2
  · obtain ⟨z0, z1, z2, z3, z4, z5, z6⟩ := Hc.out W hW
    go_simp
  refine' wpAnyH_take (i := 2) (v := .int .u8 b0.toNat) rfl (by kernel_rfl) (by kernel_rfl) (by kernel_rfl) (fun _ _ _ h => h) (Or.inl ⟨by kernel_rfl, fun W hW => ?yq3⟩) hHeld ?rq3
  · go_simp
  refine' wpAnyH_take (i := 4) (v := .pointer (some ⟨b, 1, none⟩)) rfl (by kernel_rfl) (by kernel_rfl) (by kernel_rfl) (fun _ _ _ h => h) (Or.inl ⟨by kernel_rfl, fun W hW => ?yq4⟩) hHeld ?rq4
  · go_simp
  refine' wpAnyH_take (i := 5) (v := .int .u64 nh) rfl (by kernel_rfl) (by kernel_rfl) (by kernel_rfl) (fun _ _ _ h => h) (Or.inl ⟨by kernel_rfl, fun W hW => ?yq5⟩) hHeld ?rq5
  · obtain ⟨z0, z1, z2, z3, z4, z5, z6⟩ := Hc.out W hW
    go_simp
  refine' wpAnyH_take (i := 7) (v := .pointer (some ⟨b, 2, none⟩)) rfl (by kernel_rfl) (by kernel_rfl) (by kernel_rfl) (fun _ _ _ h => h) (Or.inl ⟨by kernel_rfl, fun W hW => ?yq6⟩) hHeld ?rq6
  · go_simp
  refine' wpAnyH_take (i := 8) (v := .int .i64 nr) rfl (by kernel_rfl) (by kernel_rfl) (by kernel_rfl) (fun _ _ _ h => h) (Or.inl ⟨by kernel_rfl, fun W hW => ?yq7⟩) hHeld ?rq7
  · obtain ⟨z0, z1, z2, z3, z4, z5, z6⟩ := Hc.out W hW
    go_simp
  refine' wpAnyH_take (i := 9) (v := .int .u64 nr) rfl (by kernel_rfl) (by kernel_rfl) (by kernel_rfl) (fun _ _ _ h => h) (Or.inl ⟨by kernel_rfl, fun W hW => ?yq8⟩) hHeld ?rq8
  · go_simp
  refine' wpAnyH_take (i := 11) (v := .pointer (some ⟨b, 3, none⟩)) rfl (by kernel_rfl) (by kernel_rfl) (by kernel_rfl) (fun _ _ _ h => h) (Or.inl ⟨by kernel_rfl, fun W hW => ?yq9⟩) hHeld ?rq9
  · go_simp
  refine' wpAnyH_take (i := 12) (v := .agg (X.map bv).toArray) rfl (by kernel_rfl) (by kernel_rfl) (by kernel_rfl) (fun _ _ _ h => h) (yieldsIf_load_mid (by kernel_rfl) 26 (.tmp 16) rfl b 3 (by kernel_rfl) (X.map bv) _ (fun W h => (Hc.out W h).2.2.2.2.2.1) Tryz.underlying26 rfl hil) hHeld ?s12
  refine' wpAnyH_take (i := 14) (v := .pointer (some ⟨b, 35, none⟩)) rfl (by kernel_rfl) (by kernel_rfl) (by kernel_rfl) (fun _ _ _ h => h) (Or.inl ⟨by kernel_rfl, fun W hW => ?yq10⟩) hHeld ?rq10
  · go_simp
  refine' wpAnyH_take (i := 15) (v := .int .u64 nt) rfl (by kernel_rfl) (by kernel_rfl) (by kernel_rfl) (fun _ _ _ h => h) (Or.inl ⟨by kernel_rfl, fun W hW => ?yq11⟩) hHeld ?rq11
  · obtain ⟨z0, z1, z2, z3, z4, z5, z6⟩ := Hc.out W hW
    go_simp
  refine' wpAnyH_take (i := 17) (v := .pointer (some ⟨b, 36, none⟩)) rfl (by kernel_rfl) (by kernel_rfl) (by kernel_rfl) (fun _ _ _ h => h) (Or.inl ⟨by kernel_rfl, fun W hW => ?yq12⟩) hHeld ?rq12
  · go_simp
  refine' wpAnyH_take (i := 18) (v := .int .u64 nf) rfl (by kernel_rfl) (by kernel_rfl) (by kernel_rfl) (fun _ _ _ h => h) (Or.inl ⟨by kernel_rfl, fun W hW => ?yq13⟩) hHeld ?rq13
  · obtain ⟨z0, z1, z2, z3, z4, z5, z6⟩ := Hc.out W hW
    go_simp
  refine' wpAnyH_take (i := 20) (v := .pointer (some ⟨b, 37, none⟩)) rfl (by kernel_rfl) (by kernel_rfl) (by kernel_rfl) (fun _ _ _ h => h) (Or.inl ⟨by kernel_rfl, fun W hW => ?yq14⟩) hHeld ?rq14
  · go_simp
  refine' wpAnyH_take (i := 21) (v := .agg (SE).toArray) rfl (by kernel_rfl) (by kernel_rfl) (by kernel_rfl) (fun _ _ _ h => h) (yieldsIf_load_mid (by kernel_rfl) 48 (.tmp 25) rfl b 37 (by kernel_rfl) (SE) _ (fun W h => (Hc.out W h).2.2.2.2.2.2) Tryz.underlying48 rfl hsl) hHeld ?s21
  refine' wpAnyH_take (i := 22) (v := .bool false) rfl (by kernel_rfl) (by kernel_rfl) (by kernel_rfl) (fun _ _ _ h => h) (Or.inl ⟨by kernel_rfl, fun W hW => ?yq15⟩) hHeld ?rq15
  · go_simp
  obtain ⟨X0, hX0⟩ : ∃ X, w1.drew = X := ⟨_, rfl⟩
  rw [hX0] at hHeld ⊢
  clear hX0
  refine wpAnyH_ready (rs := [3, 6]) (by kernel_rfl) (by simp) ?_
  refine AllReadyH.cons rfl (fun K hK => ?_) (AllReadyH.cons rfl (fun K hK => ?_) AllReadyH.nil)
  · skip
    go_simp
    have h18 := fr_one X0 b0
    obtain ⟨X16, eX16⟩ : ∃ X, World.alloc X0 (.cells #[.int .u8 b0.toNat] 5) = X := ⟨_, rfl⟩
    have T17 : Turn no X0 X16 := by rw [← eX16]; exact (Turn.refl no X0).alloc _
    have b19 : Bs X16 (.slice (some ⟨X0.heap.size, 0, none⟩) 1 1) [b0] := by rw [← eX16]; exact h18.own.bs
    have HX16 := hHeld.then_no T17
    try rw [eX16]
    refine hK.out _ _ HX16 (fun hHeld => ?_)
    clear hK h18 eX16
    obtain ⟨z20, ez20⟩ : ∃ z, X0.heap.size = z := ⟨_, rfl⟩
    rw [ez20] at b19
    try rw [ez20]
    clear ez20
    refine wpAnyH_ready (rs := [6]) (by kernel_rfl) (by simp) ?_
    refine AllReadyH.cons rfl (fun K hK => ?_) AllReadyH.nil
    go_simp
    refine (HN.out.1 X16).mono ?_
    rintro e X21 ⟨v22, rfl, F23⟩
    obtain ⟨a24, l25, c26, rfl⟩ := F23.form
    have b27 := F23.own.bs
    refine hK.out _ _ (hHeld.then_no F23.turn) (fun hHeld => ?_)
    clear hK
    have b28 := b19.turn_no F23.turn
    refine wpAnyH_ready (rs := [10]) (by kernel_rfl) (by simp) ?_
    refine AllReadyH.cons rfl (fun K hK => ?_) AllReadyH.nil
    go_simp
    refine (HN.out.2.1 X21).mono ?_
    rintro e X29 ⟨v30, rfl, F31⟩
    obtain ⟨a32, l33, c34, rfl⟩ := F31.form
    have b35 := F31.own.bs
    refine hK.out _ _ (hHeld.then_no F31.turn) (fun hHeld => ?_)
    clear hK
    have b36 := b28.turn_no F31.turn
    have b37 := b27.turn_no F31.turn
    refine wpAnyH_ready (rs := [13]) (by kernel_rfl) (by simp) ?_
    refine AllReadyH.cons rfl (fun K hK => ?_) AllReadyH.nil
    go_simp
    refine (HN.out.2.2.1 X29).mono ?_
    rintro e X38 ⟨v39, rfl, F40⟩
    obtain ⟨a41, l42, c43, rfl⟩ := F40.form
    have b44 := F40.own.bs
    refine hK.out _ _ (hHeld.then_no F40.turn) (fun hHeld => ?_)
    clear hK
    have b45 := b36.turn_no F40.turn
    have b46 := b37.turn_no F40.turn
    have b47 := b35.turn_no F40.turn
    refine wpAnyH_ready (rs := [16]) (by kernel_rfl) (by simp) ?_
    refine AllReadyH.cons rfl (fun K hK => ?_) AllReadyH.nil
    go_simp
    refine (HN.out.2.2.2.1 X38).mono ?_
    rintro e X48 ⟨v49, rfl, F50⟩
    obtain ⟨a51, l52, c53, rfl⟩ := F50.form
    have b54 := F50.own.bs
    refine hK.out _ _ (hHeld.then_no F50.turn) (fun hHeld => ?_)
    clear hK
    have b55 := b45.turn_no F50.turn
    have b56 := b46.turn_no F50.turn
    have b57 := b47.turn_no F50.turn
    have b58 := b44.turn_no F50.turn
    refine wpAnyH_ready (rs := [19]) (by kernel_rfl) (by simp) ?_
    refine AllReadyH.cons rfl (fun K hK => ?_) AllReadyH.nil
    go_simp
    refine (HN.out.2.2.2.2 X48).mono ?_
    rintro e X59 ⟨v60, rfl, F61⟩
    obtain ⟨a62, l63, c64, rfl⟩ := F61.form
    have b65 := F61.own.bs
    refine hK.out _ _ (hHeld.then_no F61.turn) (fun hHeld => ?_)
    clear hK
    have b66 := b55.turn_no F61.turn
    have b67 := b56.turn_no F61.turn
    have b68 := b57.turn_no F61.turn
    have b69 := b58.turn_no F61.turn
    have b70 := b54.turn_no F61.turn
    refine wpAnyH_ready (rs := [23]) (by kernel_rfl) (by simp) ?_
    refine AllReadyH.cons rfl (fun K hK => ?_) AllReadyH.nil
    go_simp
    refine (sealed80 X59 SE.toArray).mono ?_
    rintro e X71 ⟨rfl, T72⟩
    have b73 : Bs X71 (.slice none 0 0) [] := Or.inl ⟨rfl, rfl⟩
    refine hK.out _ _ (hHeld.then_no T72) (fun hHeld => ?_)
    clear hK
    have b74 := b66.turn_no T72
    have b75 := b67.turn_no T72
    have b76 := b68.turn_no T72
    have b77 := b69.turn_no T72
    have b78 := b70.turn_no T72
    have b79 := b65.turn_no T72
    refine wpAnyH_ready (rs := [24]) (by kernel_rfl) (by simp) ?_
    refine AllReadyH.cons rfl (fun K hK => ?_) AllReadyH.nil
    go_simp
    have R81 := Row.new X71 #[.slice (some ⟨z20, 0, none⟩) 1 1, .slice a24 l25 c26, .slice a32 l33 c34, .slice a41 l42 c43, .slice a51 l52 c53, .slice a62 l63 c64, .slice none 0 0] 124
    have T80 : Turn no X71 (World.alloc X71 (.cells #[.slice (some ⟨z20, 0, none⟩) 1 1, .slice a24 l25 c26, .slice a32 l33 c34, .slice a41 l42 c43, .slice a51 l52 c53, .slice a62 l63 c64, .slice none 0 0] 124)) := (Turn.refl no X71).alloc _
    have J := join78 (World.alloc X71 (.cells #[.slice (some ⟨z20, 0, none⟩) 1 1, .slice a24 l25 c26, .slice a32 l33 c34, .slice a41 l42 c43, .slice a51 l52 c53, .slice a62 l63 c64, .slice none 0 0] 124)) X71.heap.size 7 [(.slice (some ⟨z20, 0, none⟩) 1 1, [b0]), (.slice a24 l25 c26, varE nh), (.slice a32 l33 c34, varE nr), (.slice a41 l42 c43, X), (.slice a51 l52 c53, varE nt), (.slice a62 l63 c64, varE nf), (.slice none 0 0, [])] (by
      intro j x hx
      match j, hx with
      | 0, hx => simp at hx; subst hx; exact ⟨R81.cell 0 _ rfl, b74.turn_no T80⟩
      | 1, hx => simp at hx; subst hx; exact ⟨R81.cell 1 _ rfl, b75.turn_no T80⟩
      | 2, hx => simp at hx; subst hx; exact ⟨R81.cell 2 _ rfl, b76.turn_no T80⟩
      | 3, hx => simp at hx; subst hx; exact ⟨R81.cell 3 _ rfl, b77.turn_no T80⟩
      | 4, hx => simp at hx; subst hx; exact ⟨R81.cell 4 _ rfl, b78.turn_no T80⟩
      | 5, hx => simp at hx; subst hx; exact ⟨R81.cell 5 _ rfl, b79.turn_no T80⟩
      | 6, hx => simp at hx; subst hx; exact ⟨R81.cell 6 _ rfl, b73.turn_no T80⟩
      | n + 7, hx => simp at hx) (by simp) (by simp [catL]; omega)
    refine hK.out _ _ (hHeld.then_no T80) (fun hHeld => ?_)
    clear hK
    refine wpAnyH_ready (rs := [25]) (by kernel_rfl) (by simp) ?_
    refine AllReadyH.cons rfl (fun K hK => ?_) AllReadyH.nil
    go_simp
    refine J.mono ?_
    rintro e X87 ⟨v82, rfl, F83⟩
    obtain ⟨a84, l85, c86, rfl⟩ := F83.form
    have hT := hHeld.then_no F83.turn
    refine hK.out _ _ hT (fun hHeld => ?_)
    clear hK J
    refine wpAnyH_ready (rs := [26]) (by kernel_rfl) (by simp) ?_
    refine AllReadyH.cons rfl (fun K hK => ?_) AllReadyH.nil
    go_simp
    refine hK.out _ _ hHeld (fun hHeld => ?_)
    clear hK
    refine wpAnyH_done (by kernel_rfl) ?_ _
    go_simp
    go_wp2_with fail
    go_ret
    exact ⟨_, rfl, by simpa [catL, voB'] using F83.own, fun g hg => fin_new t0 (by assumption) T80 F83 g hg, t0.then_no hHeld⟩
  · skip
    go_simp
    refine (HN.out.1 X0).mono ?_
    rintro e X88 ⟨v89, rfl, F90⟩
    obtain ⟨a91, l92, c93, rfl⟩ := F90.form
    have b94 := F90.own.bs
    refine hK.out _ _ (hHeld.then_no F90.turn) (fun hHeld => ?_)
    clear hK
    refine wpAnyH_ready (rs := [3, 10]) (by kernel_rfl) (by simp) ?_
    refine AllReadyH.cons rfl (fun K hK => ?_) (AllReadyH.cons rfl (fun K hK => ?_) AllReadyH.nil)
    · skip
      go_simp
      have h97 := fr_one X88 b0
      obtain ⟨X95, eX95⟩ : ∃ X, World.alloc X88 (.cells #[.int .u8 b0.toNat] 5) = X := ⟨_, rfl⟩
      have T96 : Turn no X88 X95 := by rw [← eX95]; exact (Turn.refl no X88).alloc _
      have b98 : Bs X95 (.slice (some ⟨X88.heap.size, 0, none⟩) 1 1) [b0] := by rw [← eX95]; exact h97.own.bs
      have HX95 := hHeld.then_no T96
      try rw [eX95]
      refine hK.out _ _ HX95 (fun hHeld => ?_)
      clear hK h97 eX95
      have b100 := b94.turn_no T96
      obtain ⟨z99, ez99⟩ : ∃ z, X88.heap.size = z := ⟨_, rfl⟩
      rw [ez99] at b98
      try rw [ez99]
      clear ez99
      refine wpAnyH_ready (rs := [10]) (by kernel_rfl) (by simp) ?_
      refine AllReadyH.cons rfl (fun K hK => ?_) AllReadyH.nil
      go_simp
      refine (HN.out.2.1 X95).mono ?_
      rintro e X101 ⟨v102, rfl, F103⟩
      obtain ⟨a104, l105, c106, rfl⟩ := F103.form
      have b107 := F103.own.bs
      refine hK.out _ _ (hHeld.then_no F103.turn) (fun hHeld => ?_)
      clear hK
      have b108 := b100.turn_no F103.turn
      have b109 := b98.turn_no F103.turn
      refine wpAnyH_ready (rs := [13]) (by kernel_rfl) (by simp) ?_
      refine AllReadyH.cons rfl (fun K hK => ?_) AllReadyH.nil
      go_simp
      refine (HN.out.2.2.1 X101).mono ?_
      rintro e X110 ⟨v111, rfl, F112⟩
      obtain ⟨a113, l114, c115, rfl⟩ := F112.form
      have b116 := F112.own.bs
      refine hK.out _ _ (hHeld.then_no F112.turn) (fun hHeld => ?_)
      clear hK
      have b117 := b108.turn_no F112.turn
      have b118 := b109.turn_no F112.turn
      have b119 := b107.turn_no F112.turn
      refine wpAnyH_ready (rs := [16]) (by kernel_rfl) (by simp) ?_
      refine AllReadyH.cons rfl (fun K hK => ?_) AllReadyH.nil
      go_simp
      refine (HN.out.2.2.2.1 X110).mono ?_
      rintro e X120 ⟨v121, rfl, F122⟩
      obtain ⟨a123, l124, c125, rfl⟩ := F122.form
      have b126 := F122.own.bs
      refine hK.out _ _ (hHeld.then_no F122.turn) (fun hHeld => ?_)
      clear hK
      have b127 := b117.turn_no F122.turn
      have b128 := b118.turn_no F122.turn
      have b129 := b119.turn_no F122.turn
      have b130 := b116.turn_no F122.turn
      refine wpAnyH_ready (rs := [19]) (by kernel_rfl) (by simp) ?_
      refine AllReadyH.cons rfl (fun K hK => ?_) AllReadyH.nil
      go_simp
      refine (HN.out.2.2.2.2 X120).mono ?_
      rintro e X131 ⟨v132, rfl, F133⟩
      obtain ⟨a134, l135, c136, rfl⟩ := F133.form
      have b137 := F133.own.bs
      refine hK.out _ _ (hHeld.then_no F133.turn) (fun hHeld => ?_)
      clear hK
      have b138 := b127.turn_no F133.turn
      have b139 := b128.turn_no F133.turn
      have b140 := b129.turn_no F133.turn
      have b141 := b130.turn_no F133.turn
      have b142 := b126.turn_no F133.turn
      refine wpAnyH_ready (rs := [23]) (by kernel_rfl) (by simp) ?_
      refine AllReadyH.cons rfl (fun K hK => ?_) AllReadyH.nil
      go_simp
      refine (sealed80 X131 SE.toArray).mono ?_
      rintro e X143 ⟨rfl, T144⟩
      have b145 : Bs X143 (.slice none 0 0) [] := Or.inl ⟨rfl, rfl⟩
      refine hK.out _ _ (hHeld.then_no T144) (fun hHeld => ?_)
      clear hK
      have b146 := b138.turn_no T144
      have b147 := b139.turn_no T144
      have b148 := b140.turn_no T144
      have b149 := b141.turn_no T144
      have b150 := b142.turn_no T144
      have b151 := b137.turn_no T144
      refine wpAnyH_ready (rs := [24]) (by kernel_rfl) (by simp) ?_
      refine AllReadyH.cons rfl (fun K hK => ?_) AllReadyH.nil
      go_simp
      have R153 := Row.new X143 #[.slice (some ⟨z99, 0, none⟩) 1 1, .slice a91 l92 c93, .slice a104 l105 c106, .slice a113 l114 c115, .slice a123 l124 c125, .slice a134 l135 c136, .slice none 0 0] 124
      have T152 : Turn no X143 (World.alloc X143 (.cells #[.slice (some ⟨z99, 0, none⟩) 1 1, .slice a91 l92 c93, .slice a104 l105 c106, .slice a113 l114 c115, .slice a123 l124 c125, .slice a134 l135 c136, .slice none 0 0] 124)) := (Turn.refl no X143).alloc _
      have J := join78 (World.alloc X143 (.cells #[.slice (some ⟨z99, 0, none⟩) 1 1, .slice a91 l92 c93, .slice a104 l105 c106, .slice a113 l114 c115, .slice a123 l124 c125, .slice a134 l135 c136, .slice none 0 0] 124)) X143.heap.size 7 [(.slice (some ⟨z99, 0, none⟩) 1 1, [b0]), (.slice a91 l92 c93, varE nh), (.slice a104 l105 c106, varE nr), (.slice a113 l114 c115, X), (.slice a123 l124 c125, varE nt), (.slice a134 l135 c136, varE nf), (.slice none 0 0, [])] (by
        intro j x hx
        match j, hx with
        | 0, hx => simp at hx; subst hx; exact ⟨R153.cell 0 _ rfl, b147.turn_no T152⟩
        | 1, hx => simp at hx; subst hx; exact ⟨R153.cell 1 _ rfl, b146.turn_no T152⟩
        | 2, hx => simp at hx; subst hx; exact ⟨R153.cell 2 _ rfl, b148.turn_no T152⟩
        | 3, hx => simp at hx; subst hx; exact ⟨R153.cell 3 _ rfl, b149.turn_no T152⟩
        | 4, hx => simp at hx; subst hx; exact ⟨R153.cell 4 _ rfl, b150.turn_no T152⟩
        | 5, hx => simp at hx; subst hx; exact ⟨R153.cell 5 _ rfl, b151.turn_no T152⟩
        | 6, hx => simp at hx; subst hx; exact ⟨R153.cell 6 _ rfl, b145.turn_no T152⟩
        | n + 7, hx => simp at hx) (by simp) (by simp [catL]; omega)
      refine hK.out _ _ (hHeld.then_no T152) (fun hHeld => ?_)
      clear hK
      refine wpAnyH_ready (rs := [25]) (by kernel_rfl) (by simp) ?_
      refine AllReadyH.cons rfl (fun K hK => ?_) AllReadyH.nil
      go_simp
      refine J.mono ?_
      rintro e X159 ⟨v154, rfl, F155⟩
      obtain ⟨a156, l157, c158, rfl⟩ := F155.form
      have hT := hHeld.then_no F155.turn
      refine hK.out _ _ hT (fun hHeld => ?_)
      clear hK J
      refine wpAnyH_ready (rs := [26]) (by kernel_rfl) (by simp) ?_
      refine AllReadyH.cons rfl (fun K hK => ?_) AllReadyH.nil
      go_simp
      refine hK.out _ _ hHeld (fun hHeld => ?_)
      clear hK
      refine wpAnyH_done (by kernel_rfl) ?_ _
      go_simp
      go_wp2_with fail
      go_ret
      exact ⟨_, rfl, by simpa [catL, voB'] using F155.own, fun g hg => fin_new t0 (by assumption) T152 F155 g hg, t0.then_no hHeld⟩
    · skip
      go_simp
      refine (HN.out.2.1 X88).mono ?_
      rintro e X160 ⟨v161, rfl, F162⟩
      obtain ⟨a163, l164, c165, rfl⟩ := F162.form
      have b166 := F162.own.bs
      refine hK.out _ _ (hHeld.then_no F162.turn) (fun hHeld => ?_)
      clear hK
      have b167 := b94.turn_no F162.turn
      refine wpAnyH_ready (rs := [3, 13]) (by kernel_rfl) (by simp) ?_
      refine AllReadyH.cons rfl (fun K hK => ?_) (AllReadyH.cons rfl (fun K hK => ?_) AllReadyH.nil)
      · skip
        go_simp
        have h170 := fr_one X160 b0
        obtain ⟨X168, eX168⟩ : ∃ X, World.alloc X160 (.cells #[.int .u8 b0.toNat] 5) = X := ⟨_, rfl⟩
        have T169 : Turn no X160 X168 := by rw [← eX168]; exact (Turn.refl no X160).alloc _
        have b171 : Bs X168 (.slice (some ⟨X160.heap.size, 0, none⟩) 1 1) [b0] := by rw [← eX168]; exact h170.own.bs
        have HX168 := hHeld.then_no T169
        try rw [eX168]
        refine hK.out _ _ HX168 (fun hHeld => ?_)
        clear hK h170 eX168
        have b173 := b167.turn_no T169
        have b174 := b166.turn_no T169
        obtain ⟨z172, ez172⟩ : ∃ z, X160.heap.size = z := ⟨_, rfl⟩
        rw [ez172] at b171
        try rw [ez172]
        clear ez172
        refine wpAnyH_ready (rs := [13]) (by kernel_rfl) (by simp) ?_
        refine AllReadyH.cons rfl (fun K hK => ?_) AllReadyH.nil
        go_simp
        refine (HN.out.2.2.1 X168).mono ?_
        rintro e X175 ⟨v176, rfl, F177⟩
        obtain ⟨a178, l179, c180, rfl⟩ := F177.form
        have b181 := F177.own.bs
        refine hK.out _ _ (hHeld.then_no F177.turn) (fun hHeld => ?_)
        clear hK
        have b182 := b173.turn_no F177.turn
        have b183 := b174.turn_no F177.turn
        have b184 := b171.turn_no F177.turn
        refine wpAnyH_ready (rs := [16]) (by kernel_rfl) (by simp) ?_
        refine AllReadyH.cons rfl (fun K hK => ?_) AllReadyH.nil
        go_simp
        refine (HN.out.2.2.2.1 X175).mono ?_
        rintro e X185 ⟨v186, rfl, F187⟩
        obtain ⟨a188, l189, c190, rfl⟩ := F187.form
        have b191 := F187.own.bs
        refine hK.out _ _ (hHeld.then_no F187.turn) (fun hHeld => ?_)
        clear hK
        have b192 := b182.turn_no F187.turn
        have b193 := b183.turn_no F187.turn
        have b194 := b184.turn_no F187.turn
        have b195 := b181.turn_no F187.turn
        refine wpAnyH_ready (rs := [19]) (by kernel_rfl) (by simp) ?_
        refine AllReadyH.cons rfl (fun K hK => ?_) AllReadyH.nil
        go_simp
        refine (HN.out.2.2.2.2 X185).mono ?_
        rintro e X196 ⟨v197, rfl, F198⟩
        obtain ⟨a199, l200, c201, rfl⟩ := F198.form
        have b202 := F198.own.bs
        refine hK.out _ _ (hHeld.then_no F198.turn) (fun hHeld => ?_)
        clear hK
        have b203 := b192.turn_no F198.turn
        have b204 := b193.turn_no F198.turn
        have b205 := b194.turn_no F198.turn
        have b206 := b195.turn_no F198.turn
        have b207 := b191.turn_no F198.turn
        refine wpAnyH_ready (rs := [23]) (by kernel_rfl) (by simp) ?_
        refine AllReadyH.cons rfl (fun K hK => ?_) AllReadyH.nil
        go_simp
        refine (sealed80 X196 SE.toArray).mono ?_
        rintro e X208 ⟨rfl, T209⟩
        have b210 : Bs X208 (.slice none 0 0) [] := Or.inl ⟨rfl, rfl⟩
        refine hK.out _ _ (hHeld.then_no T209) (fun hHeld => ?_)
        clear hK
        have b211 := b203.turn_no T209
        have b212 := b204.turn_no T209
        have b213 := b205.turn_no T209
        have b214 := b206.turn_no T209
        have b215 := b207.turn_no T209
        have b216 := b202.turn_no T209
        refine wpAnyH_ready (rs := [24]) (by kernel_rfl) (by simp) ?_
        refine AllReadyH.cons rfl (fun K hK => ?_) AllReadyH.nil
        go_simp
        have R218 := Row.new X208 #[.slice (some ⟨z172, 0, none⟩) 1 1, .slice a91 l92 c93, .slice a163 l164 c165, .slice a178 l179 c180, .slice a188 l189 c190, .slice a199 l200 c201, .slice none 0 0] 124
        have T217 : Turn no X208 (World.alloc X208 (.cells #[.slice (some ⟨z172, 0, none⟩) 1 1, .slice a91 l92 c93, .slice a163 l164 c165, .slice a178 l179 c180, .slice a188 l189 c190, .slice a199 l200 c201, .slice none 0 0] 124)) := (Turn.refl no X208).alloc _
        have J := join78 (World.alloc X208 (.cells #[.slice (some ⟨z172, 0, none⟩) 1 1, .slice a91 l92 c93, .slice a163 l164 c165, .slice a178 l179 c180, .slice a188 l189 c190, .slice a199 l200 c201, .slice none 0 0] 124)) X208.heap.size 7 [(.slice (some ⟨z172, 0, none⟩) 1 1, [b0]), (.slice a91 l92 c93, varE nh), (.slice a163 l164 c165, varE nr), (.slice a178 l179 c180, X), (.slice a188 l189 c190, varE nt), (.slice a199 l200 c201, varE nf), (.slice none 0 0, [])] (by
          intro j x hx
          match j, hx with
          | 0, hx => simp at hx; subst hx; exact ⟨R218.cell 0 _ rfl, b213.turn_no T217⟩
          | 1, hx => simp at hx; subst hx; exact ⟨R218.cell 1 _ rfl, b211.turn_no T217⟩
          | 2, hx => simp at hx; subst hx; exact ⟨R218.cell 2 _ rfl, b212.turn_no T217⟩
          | 3, hx => simp at hx; subst hx; exact ⟨R218.cell 3 _ rfl, b214.turn_no T217⟩
          | 4, hx => simp at hx; subst hx; exact ⟨R218.cell 4 _ rfl, b215.turn_no T217⟩
          | 5, hx => simp at hx; subst hx; exact ⟨R218.cell 5 _ rfl, b216.turn_no T217⟩
          | 6, hx => simp at hx; subst hx; exact ⟨R218.cell 6 _ rfl, b210.turn_no T217⟩
          | n + 7, hx => simp at hx) (by simp) (by simp [catL]; omega)
        refine hK.out _ _ (hHeld.then_no T217) (fun hHeld => ?_)
        clear hK
        refine wpAnyH_ready (rs := [25]) (by kernel_rfl) (by simp) ?_
        refine AllReadyH.cons rfl (fun K hK => ?_) AllReadyH.nil
        go_simp
        refine J.mono ?_
        rintro e X224 ⟨v219, rfl, F220⟩
        obtain ⟨a221, l222, c223, rfl⟩ := F220.form
        have hT := hHeld.then_no F220.turn
        refine hK.out _ _ hT (fun hHeld => ?_)
        clear hK J
        refine wpAnyH_ready (rs := [26]) (by kernel_rfl) (by simp) ?_
        refine AllReadyH.cons rfl (fun K hK => ?_) AllReadyH.nil
        go_simp
        refine hK.out _ _ hHeld (fun hHeld => ?_)
        clear hK
        refine wpAnyH_done (by kernel_rfl) ?_ _
        go_simp
        go_wp2_with fail
        go_ret
        exact ⟨_, rfl, by simpa [catL, voB'] using F220.own, fun g hg => fin_new t0 (by assumption) T217 F220 g hg, t0.then_no hHeld⟩
      · skip
        go_simp
        refine (HN.out.2.2.1 X160).mono ?_
        rintro e X225 ⟨v226, rfl, F227⟩
        obtain ⟨a228, l229, c230, rfl⟩ := F227.form
        have b231 := F227.own.bs
        refine hK.out _ _ (hHeld.then_no F227.turn) (fun hHeld => ?_)
        clear hK
        have b232 := b167.turn_no F227.turn
        have b233 := b166.turn_no F227.turn
        refine wpAnyH_ready (rs := [3, 16]) (by kernel_rfl) (by simp) ?_
        refine AllReadyH.cons rfl (fun K hK => ?_) (AllReadyH.cons rfl (fun K hK => ?_) AllReadyH.nil)
        · skip
          go_simp
          have h236 := fr_one X225 b0
          obtain ⟨X234, eX234⟩ : ∃ X, World.alloc X225 (.cells #[.int .u8 b0.toNat] 5) = X := ⟨_, rfl⟩
          have T235 : Turn no X225 X234 := by rw [← eX234]; exact (Turn.refl no X225).alloc _
          have b237 : Bs X234 (.slice (some ⟨X225.heap.size, 0, none⟩) 1 1) [b0] := by rw [← eX234]; exact h236.own.bs
          have HX234 := hHeld.then_no T235
          try rw [eX234]
          refine hK.out _ _ HX234 (fun hHeld => ?_)
          clear hK h236 eX234
          have b239 := b232.turn_no T235
          have b240 := b233.turn_no T235
          have b241 := b231.turn_no T235
          obtain ⟨z238, ez238⟩ : ∃ z, X225.heap.size = z := ⟨_, rfl⟩
          rw [ez238] at b237
          try rw [ez238]
          clear ez238
          refine wpAnyH_ready (rs := [16]) (by kernel_rfl) (by simp) ?_
          refine AllReadyH.cons rfl (fun K hK => ?_) AllReadyH.nil
          go_simp
          refine (HN.out.2.2.2.1 X234).mono ?_
          rintro e X242 ⟨v243, rfl, F244⟩
          obtain ⟨a245, l246, c247, rfl⟩ := F244.form
          have b248 := F244.own.bs
          refine hK.out _ _ (hHeld.then_no F244.turn) (fun hHeld => ?_)
          clear hK
          have b249 := b239.turn_no F244.turn
          have b250 := b240.turn_no F244.turn
          have b251 := b241.turn_no F244.turn
          have b252 := b237.turn_no F244.turn
          refine wpAnyH_ready (rs := [19]) (by kernel_rfl) (by simp) ?_
          refine AllReadyH.cons rfl (fun K hK => ?_) AllReadyH.nil
          go_simp
          refine (HN.out.2.2.2.2 X242).mono ?_
          rintro e X253 ⟨v254, rfl, F255⟩
          obtain ⟨a256, l257, c258, rfl⟩ := F255.form
          have b259 := F255.own.bs
          refine hK.out _ _ (hHeld.then_no F255.turn) (fun hHeld => ?_)
          clear hK
          have b260 := b249.turn_no F255.turn
          have b261 := b250.turn_no F255.turn
          have b262 := b251.turn_no F255.turn
          have b263 := b252.turn_no F255.turn
          have b264 := b248.turn_no F255.turn
          refine wpAnyH_ready (rs := [23]) (by kernel_rfl) (by simp) ?_
          refine AllReadyH.cons rfl (fun K hK => ?_) AllReadyH.nil
          go_simp
          refine (sealed80 X253 SE.toArray).mono ?_
          rintro e X265 ⟨rfl, T266⟩
          have b267 : Bs X265 (.slice none 0 0) [] := Or.inl ⟨rfl, rfl⟩
          refine hK.out _ _ (hHeld.then_no T266) (fun hHeld => ?_)
          clear hK
          have b268 := b260.turn_no T266
          have b269 := b261.turn_no T266
          have b270 := b262.turn_no T266
          have b271 := b263.turn_no T266
          have b272 := b264.turn_no T266
          have b273 := b259.turn_no T266
          refine wpAnyH_ready (rs := [24]) (by kernel_rfl) (by simp) ?_
          refine AllReadyH.cons rfl (fun K hK => ?_) AllReadyH.nil
          go_simp
          have R275 := Row.new X265 #[.slice (some ⟨z238, 0, none⟩) 1 1, .slice a91 l92 c93, .slice a163 l164 c165, .slice a228 l229 c230, .slice a245 l246 c247, .slice a256 l257 c258, .slice none 0 0] 124
          have T274 : Turn no X265 (World.alloc X265 (.cells #[.slice (some ⟨z238, 0, none⟩) 1 1, .slice a91 l92 c93, .slice a163 l164 c165, .slice a228 l229 c230, .slice a245 l246 c247, .slice a256 l257 c258, .slice none 0 0] 124)) := (Turn.refl no X265).alloc _
          have J := join78 (World.alloc X265 (.cells #[.slice (some ⟨z238, 0, none⟩) 1 1, .slice a91 l92 c93, .slice a163 l164 c165, .slice a228 l229 c230, .slice a245 l246 c247, .slice a256 l257 c258, .slice none 0 0] 124)) X265.heap.size 7 [(.slice (some ⟨z238, 0, none⟩) 1 1, [b0]), (.slice a91 l92 c93, varE nh), (.slice a163 l164 c165, varE nr), (.slice a228 l229 c230, X), (.slice a245 l246 c247, varE nt), (.slice a256 l257 c258, varE nf), (.slice none 0 0, [])] (by
            intro j x hx
            match j, hx with
            | 0, hx => simp at hx; subst hx; exact ⟨R275.cell 0 _ rfl, b271.turn_no T274⟩
            | 1, hx => simp at hx; subst hx; exact ⟨R275.cell 1 _ rfl, b268.turn_no T274⟩
            | 2, hx => simp at hx; subst hx; exact ⟨R275.cell 2 _ rfl, b269.turn_no T274⟩
            | 3, hx => simp at hx; subst hx; exact ⟨R275.cell 3 _ rfl, b270.turn_no T274⟩
            | 4, hx => simp at hx; subst hx; exact ⟨R275.cell 4 _ rfl, b272.turn_no T274⟩
            | 5, hx => simp at hx; subst hx; exact ⟨R275.cell 5 _ rfl, b273.turn_no T274⟩
            | 6, hx => simp at hx; subst hx; exact ⟨R275.cell 6 _ rfl, b267.turn_no T274⟩
            | n + 7, hx => simp at hx) (by simp) (by simp [catL]; omega)
          refine hK.out _ _ (hHeld.then_no T274) (fun hHeld => ?_)
          clear hK
          refine wpAnyH_ready (rs := [25]) (by kernel_rfl) (by simp) ?_
          refine AllReadyH.cons rfl (fun K hK => ?_) AllReadyH.nil
          go_simp
          refine J.mono ?_
          rintro e X281 ⟨v276, rfl, F277⟩
          obtain ⟨a278, l279, c280, rfl⟩ := F277.form
          have hT := hHeld.then_no F277.turn
          refine hK.out _ _ hT (fun hHeld => ?_)
          clear hK J
          refine wpAnyH_ready (rs := [26]) (by kernel_rfl) (by simp) ?_
          refine AllReadyH.cons rfl (fun K hK => ?_) AllReadyH.nil
          go_simp
          refine hK.out _ _ hHeld (fun hHeld => ?_)
          clear hK
          refine wpAnyH_done (by kernel_rfl) ?_ _
          go_simp
          go_wp2_with fail
          go_ret
          exact ⟨_, rfl, by simpa [catL, voB'] using F277.own, fun g hg => fin_new t0 (by assumption) T274 F277 g hg, t0.then_no hHeld⟩
        · skip
          go_simp
          refine (HN.out.2.2.2.1 X225).mono ?_
          rintro e X282 ⟨v283, rfl, F284⟩
          obtain ⟨a285, l286, c287, rfl⟩ := F284.form
          have b288 := F284.own.bs
          refine hK.out _ _ (hHeld.then_no F284.turn) (fun hHeld => ?_)
          clear hK
          have b289 := b232.turn_no F284.turn
          have b290 := b233.turn_no F284.turn
          have b291 := b231.turn_no F284.turn
          refine wpAnyH_ready (rs := [3, 19]) (by kernel_rfl) (by simp) ?_
          refine AllReadyH.cons rfl (fun K hK => ?_) (AllReadyH.cons rfl (fun K hK => ?_) AllReadyH.nil)
          · skip
            go_simp
            have h294 := fr_one X282 b0
            obtain ⟨X292, eX292⟩ : ∃ X, World.alloc X282 (.cells #[.int .u8 b0.toNat] 5) = X := ⟨_, rfl⟩
            have T293 : Turn no X282 X292 := by rw [← eX292]; exact (Turn.refl no X282).alloc _
            have b295 : Bs X292 (.slice (some ⟨X282.heap.size, 0, none⟩) 1 1) [b0] := by rw [← eX292]; exact h294.own.bs
            have HX292 := hHeld.then_no T293
            try rw [eX292]
            refine hK.out _ _ HX292 (fun hHeld => ?_)
            clear hK h294 eX292
            have b297 := b289.turn_no T293
            have b298 := b290.turn_no T293
            have b299 := b291.turn_no T293
            have b300 := b288.turn_no T293
            obtain ⟨z296, ez296⟩ : ∃ z, X282.heap.size = z := ⟨_, rfl⟩
            rw [ez296] at b295
            try rw [ez296]
            clear ez296
            refine wpAnyH_ready (rs := [19]) (by kernel_rfl) (by simp) ?_
            refine AllReadyH.cons rfl (fun K hK => ?_) AllReadyH.nil
            go_simp
            refine (HN.out.2.2.2.2 X292).mono ?_
            rintro e X301 ⟨v302, rfl, F303⟩
            obtain ⟨a304, l305, c306, rfl⟩ := F303.form
            have b307 := F303.own.bs
            refine hK.out _ _ (hHeld.then_no F303.turn) (fun hHeld => ?_)
            clear hK
            have b308 := b297.turn_no F303.turn
            have b309 := b298.turn_no F303.turn
            have b310 := b299.turn_no F303.turn
            have b311 := b300.turn_no F303.turn
            have b312 := b295.turn_no F303.turn
            refine wpAnyH_ready (rs := [23]) (by kernel_rfl) (by simp) ?_
            refine AllReadyH.cons rfl (fun K hK => ?_) AllReadyH.nil
            go_simp
            refine (sealed80 X301 SE.toArray).mono ?_
            rintro e X313 ⟨rfl, T314⟩
            have b315 : Bs X313 (.slice none 0 0) [] := Or.inl ⟨rfl, rfl⟩
            refine hK.out _ _ (hHeld.then_no T314) (fun hHeld => ?_)
            clear hK
            have b316 := b308.turn_no T314
            have b317 := b309.turn_no T314
            have b318 := b310.turn_no T314
            have b319 := b311.turn_no T314
            have b320 := b312.turn_no T314
            have b321 := b307.turn_no T314
            refine wpAnyH_ready (rs := [24]) (by kernel_rfl) (by simp) ?_
            refine AllReadyH.cons rfl (fun K hK => ?_) AllReadyH.nil
            go_simp
            have R323 := Row.new X313 #[.slice (some ⟨z296, 0, none⟩) 1 1, .slice a91 l92 c93, .slice a163 l164 c165, .slice a228 l229 c230, .slice a285 l286 c287, .slice a304 l305 c306, .slice none 0 0] 124
            have T322 : Turn no X313 (World.alloc X313 (.cells #[.slice (some ⟨z296, 0, none⟩) 1 1, .slice a91 l92 c93, .slice a163 l164 c165, .slice a228 l229 c230, .slice a285 l286 c287, .slice a304 l305 c306, .slice none 0 0] 124)) := (Turn.refl no X313).alloc _
            have J := join78 (World.alloc X313 (.cells #[.slice (some ⟨z296, 0, none⟩) 1 1, .slice a91 l92 c93, .slice a163 l164 c165, .slice a228 l229 c230, .slice a285 l286 c287, .slice a304 l305 c306, .slice none 0 0] 124)) X313.heap.size 7 [(.slice (some ⟨z296, 0, none⟩) 1 1, [b0]), (.slice a91 l92 c93, varE nh), (.slice a163 l164 c165, varE nr), (.slice a228 l229 c230, X), (.slice a285 l286 c287, varE nt), (.slice a304 l305 c306, varE nf), (.slice none 0 0, [])] (by
              intro j x hx
              match j, hx with
              | 0, hx => simp at hx; subst hx; exact ⟨R323.cell 0 _ rfl, b320.turn_no T322⟩
              | 1, hx => simp at hx; subst hx; exact ⟨R323.cell 1 _ rfl, b316.turn_no T322⟩
              | 2, hx => simp at hx; subst hx; exact ⟨R323.cell 2 _ rfl, b317.turn_no T322⟩
              | 3, hx => simp at hx; subst hx; exact ⟨R323.cell 3 _ rfl, b318.turn_no T322⟩
              | 4, hx => simp at hx; subst hx; exact ⟨R323.cell 4 _ rfl, b319.turn_no T322⟩
              | 5, hx => simp at hx; subst hx; exact ⟨R323.cell 5 _ rfl, b321.turn_no T322⟩
              | 6, hx => simp at hx; subst hx; exact ⟨R323.cell 6 _ rfl, b315.turn_no T322⟩
              | n + 7, hx => simp at hx) (by simp) (by simp [catL]; omega)
            refine hK.out _ _ (hHeld.then_no T322) (fun hHeld => ?_)
            clear hK
            refine wpAnyH_ready (rs := [25]) (by kernel_rfl) (by simp) ?_
            refine AllReadyH.cons rfl (fun K hK => ?_) AllReadyH.nil
            go_simp
            refine J.mono ?_
            rintro e X329 ⟨v324, rfl, F325⟩
            obtain ⟨a326, l327, c328, rfl⟩ := F325.form
            have hT := hHeld.then_no F325.turn
            refine hK.out _ _ hT (fun hHeld => ?_)
            clear hK J
            refine wpAnyH_ready (rs := [26]) (by kernel_rfl) (by simp) ?_
            refine AllReadyH.cons rfl (fun K hK => ?_) AllReadyH.nil
            go_simp
            refine hK.out _ _ hHeld (fun hHeld => ?_)
            clear hK
            refine wpAnyH_done (by kernel_rfl) ?_ _
            go_simp
            go_wp2_with fail
            go_ret
            exact ⟨_, rfl, by simpa [catL, voB'] using F325.own, fun g hg => fin_new t0 (by assumption) T322 F325 g hg, t0.then_no hHeld⟩
          · skip
            go_simp
            refine (HN.out.2.2.2.2 X282).mono ?_
            rintro e X330 ⟨v331, rfl, F332⟩
            obtain ⟨a333, l334, c335, rfl⟩ := F332.form
            have b336 := F332.own.bs
            refine hK.out _ _ (hHeld.then_no F332.turn) (fun hHeld => ?_)
            clear hK
            have b337 := b289.turn_no F332.turn
            have b338 := b290.turn_no F332.turn
            have b339 := b291.turn_no F332.turn
            have b340 := b288.turn_no F332.turn
            refine wpAnyH_ready (rs := [3, 23]) (by kernel_rfl) (by simp) ?_
            refine AllReadyH.cons rfl (fun K hK => ?_) (AllReadyH.cons rfl (fun K hK => ?_) AllReadyH.nil)
            · skip
              go_simp
              have h343 := fr_one X330 b0
              obtain ⟨X341, eX341⟩ : ∃ X, World.alloc X330 (.cells #[.int .u8 b0.toNat] 5) = X := ⟨_, rfl⟩
              have T342 : Turn no X330 X341 := by rw [← eX341]; exact (Turn.refl no X330).alloc _
              have b344 : Bs X341 (.slice (some ⟨X330.heap.size, 0, none⟩) 1 1) [b0] := by rw [← eX341]; exact h343.own.bs
              have HX341 := hHeld.then_no T342
              try rw [eX341]
              refine hK.out _ _ HX341 (fun hHeld => ?_)
              clear hK h343 eX341
              have b346 := b337.turn_no T342
              have b347 := b338.turn_no T342
              have b348 := b339.turn_no T342
              have b349 := b340.turn_no T342
              have b350 := b336.turn_no T342
              obtain ⟨z345, ez345⟩ : ∃ z, X330.heap.size = z := ⟨_, rfl⟩
              rw [ez345] at b344
              try rw [ez345]
              clear ez345
              refine wpAnyH_ready (rs := [23]) (by kernel_rfl) (by simp) ?_
              refine AllReadyH.cons rfl (fun K hK => ?_) AllReadyH.nil
              go_simp
              refine (sealed80 X341 SE.toArray).mono ?_
              rintro e X351 ⟨rfl, T352⟩
              have b353 : Bs X351 (.slice none 0 0) [] := Or.inl ⟨rfl, rfl⟩
              refine hK.out _ _ (hHeld.then_no T352) (fun hHeld => ?_)
              clear hK
              have b354 := b346.turn_no T352
              have b355 := b347.turn_no T352
              have b356 := b348.turn_no T352
              have b357 := b349.turn_no T352
              have b358 := b350.turn_no T352
              have b359 := b344.turn_no T352
              refine wpAnyH_ready (rs := [24]) (by kernel_rfl) (by simp) ?_
              refine AllReadyH.cons rfl (fun K hK => ?_) AllReadyH.nil
              go_simp
              have R361 := Row.new X351 #[.slice (some ⟨z345, 0, none⟩) 1 1, .slice a91 l92 c93, .slice a163 l164 c165, .slice a228 l229 c230, .slice a285 l286 c287, .slice a333 l334 c335, .slice none 0 0] 124
              have T360 : Turn no X351 (World.alloc X351 (.cells #[.slice (some ⟨z345, 0, none⟩) 1 1, .slice a91 l92 c93, .slice a163 l164 c165, .slice a228 l229 c230, .slice a285 l286 c287, .slice a333 l334 c335, .slice none 0 0] 124)) := (Turn.refl no X351).alloc _
              have J := join78 (World.alloc X351 (.cells #[.slice (some ⟨z345, 0, none⟩) 1 1, .slice a91 l92 c93, .slice a163 l164 c165, .slice a228 l229 c230, .slice a285 l286 c287, .slice a333 l334 c335, .slice none 0 0] 124)) X351.heap.size 7 [(.slice (some ⟨z345, 0, none⟩) 1 1, [b0]), (.slice a91 l92 c93, varE nh), (.slice a163 l164 c165, varE nr), (.slice a228 l229 c230, X), (.slice a285 l286 c287, varE nt), (.slice a333 l334 c335, varE nf), (.slice none 0 0, [])] (by
                intro j x hx
                match j, hx with
                | 0, hx => simp at hx; subst hx; exact ⟨R361.cell 0 _ rfl, b359.turn_no T360⟩
                | 1, hx => simp at hx; subst hx; exact ⟨R361.cell 1 _ rfl, b354.turn_no T360⟩
                | 2, hx => simp at hx; subst hx; exact ⟨R361.cell 2 _ rfl, b355.turn_no T360⟩
                | 3, hx => simp at hx; subst hx; exact ⟨R361.cell 3 _ rfl, b356.turn_no T360⟩
                | 4, hx => simp at hx; subst hx; exact ⟨R361.cell 4 _ rfl, b357.turn_no T360⟩
                | 5, hx => simp at hx; subst hx; exact ⟨R361.cell 5 _ rfl, b358.turn_no T360⟩
                | 6, hx => simp at hx; subst hx; exact ⟨R361.cell 6 _ rfl, b353.turn_no T360⟩
                | n + 7, hx => simp at hx) (by simp) (by simp [catL]; omega)
              refine hK.out _ _ (hHeld.then_no T360) (fun hHeld => ?_)
              clear hK
              refine wpAnyH_ready (rs := [25]) (by kernel_rfl) (by simp) ?_
              refine AllReadyH.cons rfl (fun K hK => ?_) AllReadyH.nil
              go_simp
              refine J.mono ?_
              rintro e X367 ⟨v362, rfl, F363⟩
              obtain ⟨a364, l365, c366, rfl⟩ := F363.form
              have hT := hHeld.then_no F363.turn
              refine hK.out _ _ hT (fun hHeld => ?_)
              clear hK J
              refine wpAnyH_ready (rs := [26]) (by kernel_rfl) (by simp) ?_
              refine AllReadyH.cons rfl (fun K hK => ?_) AllReadyH.nil
              go_simp
              refine hK.out _ _ hHeld (fun hHeld => ?_)
              clear hK
              refine wpAnyH_done (by kernel_rfl) ?_ _
              go_simp
              go_wp2_with fail
              go_ret
              exact ⟨_, rfl, by simpa [catL, voB'] using F363.own, fun g hg => fin_new t0 (by assumption) T360 F363 g hg, t0.then_no hHeld⟩
            · skip
              go_simp
              refine (sealed80 X330 SE.toArray).mono ?_
              rintro e X368 ⟨rfl, T369⟩
              have b370 : Bs X368 (.slice none 0 0) [] := Or.inl ⟨rfl, rfl⟩
              refine hK.out _ _ (hHeld.then_no T369) (fun hHeld => ?_)
              clear hK
              have b371 := b337.turn_no T369
              have b372 := b338.turn_no T369
              have b373 := b339.turn_no T369
              have b374 := b340.turn_no T369
              have b375 := b336.turn_no T369
              refine wpAnyH_ready (rs := [3]) (by kernel_rfl) (by simp) ?_
              refine AllReadyH.cons rfl (fun K hK => ?_) AllReadyH.nil
              go_simp
              have h378 := fr_one X368 b0
              obtain ⟨X376, eX376⟩ : ∃ X, World.alloc X368 (.cells #[.int .u8 b0.toNat] 5) = X := ⟨_, rfl⟩
              have T377 : Turn no X368 X376 := by rw [← eX376]; exact (Turn.refl no X368).alloc _
              have b379 : Bs X376 (.slice (some ⟨X368.heap.size, 0, none⟩) 1 1) [b0] := by rw [← eX376]; exact h378.own.bs
              have HX376 := hHeld.then_no T377
              try rw [eX376]
              refine hK.out _ _ HX376 (fun hHeld => ?_)
              clear hK h378 eX376
              have b381 := b371.turn_no T377
              have b382 := b372.turn_no T377
              have b383 := b373.turn_no T377
              have b384 := b374.turn_no T377
              have b385 := b375.turn_no T377
              have b386 := b370.turn_no T377
              obtain ⟨z380, ez380⟩ : ∃ z, X368.heap.size = z := ⟨_, rfl⟩
              rw [ez380] at b379
              try rw [ez380]
              clear ez380
              refine wpAnyH_ready (rs := [24]) (by kernel_rfl) (by simp) ?_
              refine AllReadyH.cons rfl (fun K hK => ?_) AllReadyH.nil
              go_simp
              have R388 := Row.new X376 #[.slice (some ⟨z380, 0, none⟩) 1 1, .slice a91 l92 c93, .slice a163 l164 c165, .slice a228 l229 c230, .slice a285 l286 c287, .slice a333 l334 c335, .slice none 0 0] 124
              have T387 : Turn no X376 (World.alloc X376 (.cells #[.slice (some ⟨z380, 0, none⟩) 1 1, .slice a91 l92 c93, .slice a163 l164 c165, .slice a228 l229 c230, .slice a285 l286 c287, .slice a333 l334 c335, .slice none 0 0] 124)) := (Turn.refl no X376).alloc _
              have J := join78 (World.alloc X376 (.cells #[.slice (some ⟨z380, 0, none⟩) 1 1, .slice a91 l92 c93, .slice a163 l164 c165, .slice a228 l229 c230, .slice a285 l286 c287, .slice a333 l334 c335, .slice none 0 0] 124)) X376.heap.size 7 [(.slice (some ⟨z380, 0, none⟩) 1 1, [b0]), (.slice a91 l92 c93, varE nh), (.slice a163 l164 c165, varE nr), (.slice a228 l229 c230, X), (.slice a285 l286 c287, varE nt), (.slice a333 l334 c335, varE nf), (.slice none 0 0, [])] (by
                intro j x hx
                match j, hx with
                | 0, hx => simp at hx; subst hx; exact ⟨R388.cell 0 _ rfl, b379.turn_no T387⟩
                | 1, hx => simp at hx; subst hx; exact ⟨R388.cell 1 _ rfl, b381.turn_no T387⟩
                | 2, hx => simp at hx; subst hx; exact ⟨R388.cell 2 _ rfl, b382.turn_no T387⟩
                | 3, hx => simp at hx; subst hx; exact ⟨R388.cell 3 _ rfl, b383.turn_no T387⟩
                | 4, hx => simp at hx; subst hx; exact ⟨R388.cell 4 _ rfl, b384.turn_no T387⟩
                | 5, hx => simp at hx; subst hx; exact ⟨R388.cell 5 _ rfl, b385.turn_no T387⟩
                | 6, hx => simp at hx; subst hx; exact ⟨R388.cell 6 _ rfl, b386.turn_no T387⟩
                | n + 7, hx => simp at hx) (by simp) (by simp [catL]; omega)
              refine hK.out _ _ (hHeld.then_no T387) (fun hHeld => ?_)
              clear hK
              refine wpAnyH_ready (rs := [25]) (by kernel_rfl) (by simp) ?_
              refine AllReadyH.cons rfl (fun K hK => ?_) AllReadyH.nil
              go_simp
              refine J.mono ?_
              rintro e X394 ⟨v389, rfl, F390⟩
              obtain ⟨a391, l392, c393, rfl⟩ := F390.form
              have hT := hHeld.then_no F390.turn
              refine hK.out _ _ hT (fun hHeld => ?_)
              clear hK J
              refine wpAnyH_ready (rs := [26]) (by kernel_rfl) (by simp) ?_
              refine AllReadyH.cons rfl (fun K hK => ?_) AllReadyH.nil
              go_simp
              refine hK.out _ _ hHeld (fun hHeld => ?_)
              clear hK
              refine wpAnyH_done (by kernel_rfl) ?_ _
              go_simp
              go_wp2_with fail
              go_ret
              exact ⟨_, rfl, by simpa [catL, voB'] using F390.own, fun g hg => fin_new t0 (by assumption) T387 F390 g hg, t0.then_no hHeld⟩
end Go.Proofs.YtgbcdjjnpadddaaGreatDoor



/- What is signed, by the document. -/
namespace Go.Proofs.YtgbcdjjnpadddaaGreatDoor
open Go.RowKit
set_option linter.unusedVariables false

theorem voB_len {x : Vt} (h : x.id.length = 32) : (voB x).length ≤ 100 := by
  have b1 := varE_le x.h.toNat; have b2 := varE_le x.r.toNat; have b3 := varE_le x.t.toNat; have b4 := varE_le x.f.toNat
  simp only [voB, List.length_append, leB_length]
  omega
set_option maxRecDepth 100000 in
set_option maxHeartbeats 8000000 in
theorem rvoteBytes11 (w : World) (ch : ByteArray) (x : Vt) (ho : x.fits) : Calls Tryz.prog 52 #[.string ch, .agg x.cs.toArray] w (Told w (plainSv ch x) (sBv ch x)) := by
  have P := fun W => plain12 W x ho.1
  have hz : (Tryz.prog.info? 50).map (·.size) = some x.cs.length := by rw [Vt.len ho.1]; exact qsize29
  have cr := Row.rangeQ (Row.new w x.cs.toArray 50)
  have t0 : Turn no w (w.alloc (.cells x.cs.toArray 50)) := (Turn.refl no w).alloc _
  unfold sBv
  by_cases he : plainSv ch x = 0
  · rw [if_pos he, he]
    have hz0 := plainSv_zero he
    have hch := hz0.1
    have hcB : cB ch = true ∧ plainE x = 0 := by
      unfold plainSv at he
      cases hc : cB ch
      · rw [hc] at he; cases he
      · rw [hc] at he; exact ⟨rfl, he⟩
    obtain ⟨hc, hpe⟩ := hcB
    rw [hpe] at P
    have TX := fun W => vote40 W x ho hz0.2.1 hz0.2.2.1 hz0.2.2.2.1 hz0.2.2.2.2
    have HT := shutX (And.intro TX (fun W => text37 W ch hch))
    have hSB : stBv ch x = [86] ++ (varE ch.size ++ ch.data.toList) ++ voB x := by simp [stBv, leB, List.append_assoc]
    have hlen : (varE ch.size ++ ch.data.toList).length + (voB x).length + 10 ≤ 140737488355328 := by
      have a1 := varE_le ch.size
      have a2 : ch.data.toList.length = ch.size := by rw [Array.length_toList]; rfl
      have a3 := voB_len ho.1.1
      rw [List.length_append]
      omega
    rw [hSB]
    clear TX he hpe hch hSB hz0
    generalize voB x = TB at *
    generalize varE ch.size ++ ch.data.toList = CB at *
    generalize x.cs = D at *
    obtain ⟨w1, hw1⟩ : ∃ W, w.alloc (.cells D.toArray 50) = W := ⟨_, rfl⟩
    rw [hw1] at t0 cr
    have Hr := shutX (fun W (t : Turn no w1 W) => (fun j u hu => t.keep (cr j u hu) (fun q => q) : W.rangeAt w.heap.size 0 D))
    go_enter Tryz.func52, Tryz.ntmps52
    go_upto_region 1 with fail
    try rw [hw1]
    go_upto_region 6 with (first | (guard_target =~ wpList _ _ _ ({ dst := _, op := Op.load 50 _, .. } :: _) _ _; refine wpList_load_mid rfl 50 (.tmp 3) rfl w.heap.size 0 rfl D _ cr Tryz.underlying50 rfl hz ?_) | (go_at_call 80; refine (named35 _ ch).mono ?_; rintro e w2 ⟨rfl, rfl⟩; rw [hc]) | (go_at_call 81; refine (P _).mono ?_; rintro e w2 ⟨rfl, t2⟩))
    have t02 := t0.then_no t2
    refine wp_region_held_drew (S := fun W => Turn no w2 W) (by kernel_rfl) (Turn.refl no w2).drew (fun hHeld => ?_)
    refine' wpAnyH_take (i := 1) (v := .string ch) rfl (by kernel_rfl) (by kernel_rfl) (by kernel_rfl) (fun _ _ _ h => h) (Or.inl ⟨by kernel_rfl, fun W hW => ?y1⟩) hHeld ?r1
    · go_simp
    refine' wpAnyH_take (i := 4) (v := .agg D.toArray) rfl (by kernel_rfl) (by kernel_rfl) (by kernel_rfl) (fun _ _ _ h => h) (yieldsIf_load_mid (by kernel_rfl) 50 (.tmp 3) rfl w.heap.size 0 (by kernel_rfl) D _ (fun W h => Hr.out W (t2.then_no h)) Tryz.underlying50 rfl hz) hHeld ?s4
    obtain ⟨X0, hX0⟩ : ∃ X, w2.drew = X := ⟨_, rfl⟩
    rw [hX0] at hHeld ⊢
    clear hX0
    refine wpAnyH_ready (rs := [0, 2]) (by kernel_rfl) (by simp) ?_
    refine AllReadyH.cons rfl (fun K hK => ?_) (AllReadyH.cons rfl (fun K hK => ?_) AllReadyH.nil)
    · go_simp
      have o0 := (fr_one X0 86).pre hHeld
      obtain ⟨XA, eXA⟩ : ∃ X, World.alloc X0 (.cells #[.int .u8 86] 5) = X := ⟨_, rfl⟩
      have o0' : Fr w2 XA (.slice (some ⟨X0.heap.size, 0, none⟩) 1 1) [86] := by rw [← eXA]; exact o0
      try rw [eXA]
      refine hK.out _ _ o0'.turn (fun hHeld => ?_)
      clear hK eXA o0
      obtain ⟨z, ez⟩ : ∃ z, X0.heap.size = z := ⟨_, rfl⟩
      rw [ez] at o0'
      try rw [ez]
      clear ez
      refine wpAnyH_ready (rs := [2]) (by kernel_rfl) (by simp) ?_
      refine AllReadyH.cons rfl (fun K hK => ?_) AllReadyH.nil
      go_simp
      refine (HT.out.2 XA).mono ?_
      rintro e XB ⟨vt, rfl, FT⟩
      obtain ⟨ta, tl, tc, rfl⟩ := FT.form
      refine hK.out _ _ (hHeld.then_no FT.turn) (fun hHeld => ?_)
      clear hK
      have oB : Fr w2 XB (.slice (some ⟨z, 0, none⟩) 1 1) [86] := ⟨o0'.own.turn_no FT.turn, o0'.new, hHeld⟩
      have bB := FT.own.bs
      refine wpAnyH_ready (rs := [3]) (by kernel_rfl) (by simp) ?_
      refine AllReadyH.cons rfl (fun K hK => ?_) AllReadyH.nil
      refine step_append_src rfl (.tmp 15) (.tmp 17) rfl Tryz.underlying124 Tryz.info5q rfl (.slice (some ⟨z, 0, none⟩) 1 1) ([86].map bv) (by simp [Act.eval]) oB.own _ CB.length (CB.map bv) (by simp [Act.eval]) (bB.src (P := Tryz.prog) Tryz.underlying124) (by simp; omega) (by simp [maxLen]; omega) ?_
      intro v3XB w3XB o3XB g3XB
      have F3XB := oB.append (ys := CB) (Turn.refl _ _) (by simpa using o3XB) g3XB
      obtain ⟨a3XB, l3XB, c3XB, rfl⟩ := o3XB.form
      have HH3XB := F3XB.turn
      refine hK.out _ _ HH3XB (fun hHeld => ?_)
      clear hK
      refine wpAnyH_ready (rs := [5]) (by kernel_rfl) (by simp) ?_
      refine AllReadyH.cons rfl (fun K hK => ?_) AllReadyH.nil
      go_simp
      refine (HT.out.1 w3XB).mono ?_
      rintro e w5XB ⟨v5XB, rfl, F5XB⟩
      obtain ⟨a5XB, l5XB, c5XB, rfl⟩ := F5XB.form
      refine hK.out _ _ (hHeld.then_no F5XB.turn) (fun hHeld => ?_)
      clear hK
      have F6XB : Fr w2 w5XB (.slice a3XB l3XB c3XB) ([86] ++ CB) := ⟨F3XB.own.turn_no F5XB.turn, F3XB.new, hHeld⟩
      refine wpAnyH_ready (rs := [6]) (by kernel_rfl) (by simp) ?_
      refine AllReadyH.cons rfl (fun K hK => ?_) AllReadyH.nil
      refine step_append_src rfl (.tmp 18) (.tmp 20) rfl Tryz.underlying124 Tryz.info5q rfl (.slice a3XB l3XB c3XB) (([86] ++ CB).map bv) (by simp [Act.eval]) F6XB.own _ TB.length (TB.map bv) (by simp [Act.eval]) (F5XB.own.bs.src (P := Tryz.prog) Tryz.underlying124) (by simp; omega) (by simp [maxLen]; omega) ?_
      intro v7XB w7XB o7XB g7XB
      have F7XB := F6XB.append (ys := TB) (Turn.refl _ _) o7XB g7XB
      obtain ⟨a7XB, l7XB, c7XB, rfl⟩ := o7XB.form
      refine hK.out _ _ F7XB.turn (fun hHeld => ?_)
      clear hK
      refine wpAnyH_ready (rs := [7]) (by kernel_rfl) (by simp) ?_
      refine AllReadyH.cons rfl (fun K hK => ?_) AllReadyH.nil
      go_simp
      refine hK.out _ _ hHeld (fun hHeld => ?_)
      clear hK
      refine wpAnyH_ready (rs := [8]) (by kernel_rfl) (by simp) ?_
      refine AllReadyH.cons rfl (fun K hK => ?_) AllReadyH.nil
      go_simp
      refine hK.out _ _ hHeld (fun hHeld => ?_)
      clear hK
      refine wpAnyH_done (by kernel_rfl) ?_ _
      go_simp
      go_wp2_with fail
      go_ret2
      exact ⟨_, rfl, by simpa [List.append_assoc] using F7XB.own, fun g hg => Nat.le_trans t02.size (F7XB.new g hg), t02.then_no F7XB.turn⟩
    · go_simp
      refine (HT.out.2 X0).mono ?_
      rintro e XC ⟨vt, rfl, FT⟩
      obtain ⟨ta, tl, tc, rfl⟩ := FT.form
      refine hK.out _ _ (hHeld.then_no FT.turn) (fun hHeld => ?_)
      clear hK
      refine wpAnyH_ready (rs := [0]) (by kernel_rfl) (by simp) ?_
      refine AllReadyH.cons rfl (fun K hK => ?_) AllReadyH.nil
      go_simp
      have o0 := (fr_one XC 86).pre hHeld
      obtain ⟨XD, eXD⟩ : ∃ X, World.alloc XC (.cells #[.int .u8 86] 5) = X := ⟨_, rfl⟩
      have o0' : Fr w2 XD (.slice (some ⟨XC.heap.size, 0, none⟩) 1 1) [86] := by rw [← eXD]; exact o0
      have tD : Turn no XC XD := by rw [← eXD]; exact (Turn.refl no XC).alloc _
      try rw [eXD]
      refine hK.out _ _ o0'.turn (fun hHeld => ?_)
      clear hK eXD o0
      obtain ⟨z, ez⟩ : ∃ z, XC.heap.size = z := ⟨_, rfl⟩
      rw [ez] at o0'
      try rw [ez]
      clear ez
      have bB := FT.own.bs.turn_no tD
      refine wpAnyH_ready (rs := [3]) (by kernel_rfl) (by simp) ?_
      refine AllReadyH.cons rfl (fun K hK => ?_) AllReadyH.nil
      refine step_append_src rfl (.tmp 15) (.tmp 17) rfl Tryz.underlying124 Tryz.info5q rfl (.slice (some ⟨z, 0, none⟩) 1 1) ([86].map bv) (by simp [Act.eval]) o0'.own _ CB.length (CB.map bv) (by simp [Act.eval]) (bB.src (P := Tryz.prog) Tryz.underlying124) (by simp; omega) (by simp [maxLen]; omega) ?_
      intro v3XD w3XD o3XD g3XD
      have F3XD := o0'.append (ys := CB) (Turn.refl _ _) (by simpa using o3XD) g3XD
      obtain ⟨a3XD, l3XD, c3XD, rfl⟩ := o3XD.form
      have HH3XD := F3XD.turn
      refine hK.out _ _ HH3XD (fun hHeld => ?_)
      clear hK
      refine wpAnyH_ready (rs := [5]) (by kernel_rfl) (by simp) ?_
      refine AllReadyH.cons rfl (fun K hK => ?_) AllReadyH.nil
      go_simp
      refine (HT.out.1 w3XD).mono ?_
      rintro e w5XD ⟨v5XD, rfl, F5XD⟩
      obtain ⟨a5XD, l5XD, c5XD, rfl⟩ := F5XD.form
      refine hK.out _ _ (hHeld.then_no F5XD.turn) (fun hHeld => ?_)
      clear hK
      have F6XD : Fr w2 w5XD (.slice a3XD l3XD c3XD) ([86] ++ CB) := ⟨F3XD.own.turn_no F5XD.turn, F3XD.new, hHeld⟩
      refine wpAnyH_ready (rs := [6]) (by kernel_rfl) (by simp) ?_
      refine AllReadyH.cons rfl (fun K hK => ?_) AllReadyH.nil
      refine step_append_src rfl (.tmp 18) (.tmp 20) rfl Tryz.underlying124 Tryz.info5q rfl (.slice a3XD l3XD c3XD) (([86] ++ CB).map bv) (by simp [Act.eval]) F6XD.own _ TB.length (TB.map bv) (by simp [Act.eval]) (F5XD.own.bs.src (P := Tryz.prog) Tryz.underlying124) (by simp; omega) (by simp [maxLen]; omega) ?_
      intro v7XD w7XD o7XD g7XD
      have F7XD := F6XD.append (ys := TB) (Turn.refl _ _) o7XD g7XD
      obtain ⟨a7XD, l7XD, c7XD, rfl⟩ := o7XD.form
      refine hK.out _ _ F7XD.turn (fun hHeld => ?_)
      clear hK
      refine wpAnyH_ready (rs := [7]) (by kernel_rfl) (by simp) ?_
      refine AllReadyH.cons rfl (fun K hK => ?_) AllReadyH.nil
      go_simp
      refine hK.out _ _ hHeld (fun hHeld => ?_)
      clear hK
      refine wpAnyH_ready (rs := [8]) (by kernel_rfl) (by simp) ?_
      refine AllReadyH.cons rfl (fun K hK => ?_) AllReadyH.nil
      go_simp
      refine hK.out _ _ hHeld (fun hHeld => ?_)
      clear hK
      refine wpAnyH_done (by kernel_rfl) ?_ _
      go_simp
      go_wp2_with fail
      go_ret2
      exact ⟨_, rfl, by simpa [List.append_assoc] using F7XD.own, fun g hg => Nat.le_trans t02.size (F7XD.new g hg), t02.then_no F7XD.turn⟩
  · rw [if_neg he]
    have he' : (plainSv ch x != 0) = true := by simpa using he
    cases hc : cB ch
    · have e1 : plainSv ch x = 41 := by unfold plainSv; rw [hc]; rfl
      rw [e1]
      generalize x.cs.toArray = C at *
      go_enter Tryz.func52, Tryz.ntmps52
      go_wp2_with (go_at_call 80; refine (named35 _ ch).mono ?_; rintro e w2 ⟨rfl, rfl⟩; rw [hc])
      go_ret2
      exact ⟨_, rfl, Own.nil _ _, fun g q => (by cases q), t0⟩
    · have e1 : plainSv ch x = plainE x := by unfold plainSv; rw [hc]; rfl
      rw [e1] at he' ⊢
      generalize plainE x = pe at *
      generalize x.cs = D at *
      go_enter Tryz.func52, Tryz.ntmps52
      go_wp2_with (first | (guard_target =~ wpList _ _ _ ({ dst := _, op := Op.load 50 _, .. } :: _) _ _; refine wpList_load_mid rfl 50 (.tmp 3) rfl w.heap.size 0 rfl D _ cr Tryz.underlying50 rfl hz ?_) | (go_at_call 80; refine (named35 _ ch).mono ?_; rintro e w2 ⟨rfl, rfl⟩; rw [hc]) | (go_at_call 81; refine (P _).mono ?_; rintro e w2 ⟨rfl, t2⟩))
      go_ret2
      exact ⟨_, rfl, Own.nil _ _, fun g q => (by cases q), t0.then_no t2⟩
end Go.Proofs.YtgbcdjjnpadddaaGreatDoor


