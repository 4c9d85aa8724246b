/- tx of the document, with its seal. -/
import Derived.Test.YtgimecdmleofeaaDoorR4
import Derived.Test.YtgimecdmleofeaaDoorTk
import Derived.Deep.RegionHeld
namespace Go.Proofs.YtgimecdmleofeaaDoor
open Go.RowKit
set_option linter.unusedVariables false

def txB' (b0 : UInt8) (fr tt am fe nn : Nat) : List UInt8 := [b0] ++ (varE fr ++ (varE tt ++ (varE am ++ (varE fe ++ varE nn))))
theorem txB_eq {x : Tx} {b0 : UInt8} (hb : x.k = (b0.toNat : Int)) : txB x = txB' b0 x.fr x.to x.am x.fe x.no := by
  unfold txB txB'
  rw [hb, Int.toNat_natCast]
  have : leB b0.toNat 1 = [b0] := by simp [leB]
  rw [this]
set_option maxRecDepth 100000 in
set_option maxHeartbeats 8000000 in
theorem tx32 (w : World) (x : Tx) (ho : x.ok) (hk1 : 1 ≤ x.k) (hk4 : x.k ≤ 4) : Calls Tryd.prog 32 #[.agg x.cs.toArray, .bool true] w fun e w' => ∃ v, e = .returned v ∧ Fr w w' v (txB x ++ x.se) := by
  obtain ⟨c0, c1, c2, c3, c4, c5, cr⟩ := (Row.new w x.cs.toArray 27).tx
  simp only [Nat.zero_add] at c1 c2 c3 c4 c5
  have cse : (w.alloc (.cells x.cs.toArray 27)).rangeAt w.heap.size 6 (x.se.map bv) := fun j u hu => by
    have := cr (6 + j) u (by unfold Tx.cs; rw [show 6 + j = j + 1 + 1 + 1 + 1 + 1 + 1 by omega]; exact hu)
    simpa using this
  obtain ⟨hs, b1, b2, b3, b4, b5⟩ := ho
  obtain ⟨b0, hb0⟩ : ∃ b0 : UInt8, x.k = (b0.toNat : Int) := ⟨UInt8.ofNat x.k.toNat, by simp; omega⟩
  rw [txB_eq hb0]
  rw [hb0] at c0
  have hb8 := b0.toNat_lt
  have hw8 : IntKind.u8.wrap (b0.toNat : Int) = (b0.toNat : Int) := by rw [IntKind.wrap_u8]; omega
  have l1 := varE_le x.fr
  have l2 := varE_le x.to
  have l3 := varE_le x.am
  have l4 := varE_le x.fe
  have l5 := varE_le x.no
  have hsl : (Tryd.prog.info? 25).map (·.size) = some (x.se.map bv).length := by rw [List.length_map, hs]; kernel_rfl
  generalize x.fr = fr at *
  generalize x.to = tt at *
  generalize x.am = am at *
  generalize x.fe = fe at *
  generalize x.no = nn at *
  generalize x.se = E at *
  generalize x.cs.toArray = C at *
  have t0 : Turn no w (w.alloc (.cells C 27)) := (Turn.refl no w).alloc _
  obtain ⟨w1, hw1⟩ : ∃ W, w.alloc (.cells C 27) = W := ⟨_, rfl⟩
  rw [hw1] at t0 c0 c1 c2 c3 c4 c5 cse
  have Hc := shutX (fun W (t : Turn no w1 W) => And.intro (t.keep c0 (fun q => q)) (And.intro (t.keep c1 (fun q => q)) (And.intro (t.keep c2 (fun q => q)) (And.intro (t.keep c3 (fun q => q)) (And.intro (t.keep c4 (fun q => q)) (And.intro (t.keep c5 (fun q => q)) (fun j u hu => t.keep (cse j u hu) (fun q => q) : W.rangeAt w.heap.size 6 (E.map bv))))))))
  have HN := shutX (And.intro (fun W => num79 W fr (by omega)) (And.intro (fun W => num79 W tt (by omega)) (And.intro (fun W => num79 W am (by omega)) (And.intro (fun W => num79 W fe (by omega)) (And.intro (fun W => num79 W nn (by omega)) (fun W => sealed74 W E hs))))))
  clear c0 c1 c2 c3 c4 c5 cse hk1 hk4 hb8 hb0 b1 b2 b3 b4 b5 cr
  go_enter Tryd.func32, Tryd.ntmps32
  go_upto_region 1 with fail
  try rw [hw1]
  obtain ⟨b, hbb⟩ : ∃ b, w.heap.size = b := ⟨_, rfl⟩
  rw [hbb] at Hc
  try rw [hbb]
  have Hbb := shutX hbb
  clear hbb hw1
  refine wp_region_held_drew (S := fun W => Turn no w1 W) (by kernel_rfl) (Turn.refl no w1).drew (fun hHeld => ?_)
  refine' wpAnyH_take (i := 0) (v := .pointer (some ⟨b, 0, none⟩)) rfl (by kernel_rfl) (by kernel_rfl) (by kernel_rfl) (fun _ _ _ h => h) (Or.inl ⟨by kernel_rfl, fun W hW => ?yq1⟩) hHeld ?rq1
  · go_simp
  refine' wpAnyH_take (i := 1) (v := .int .i64 b0.toNat) rfl (by kernel_rfl) (by kernel_rfl) (by kernel_rfl) (fun _ _ _ h => h) (Or.inl ⟨by kernel_rfl, fun W hW => ?yq2⟩) hHeld ?rq2
  · obtain ⟨z0, z1, z2, z3, z4, z5, z6⟩ := Hc.out W hW
    go_simp
  refine' wpAnyH_take (i := 2) (v := .int .u8 b0.toNat) rfl (by kernel_rfl) (by kernel_rfl) (by kernel_rfl) (fun _ _ _ h => h) (Or.inl ⟨by kernel_rfl, fun W hW => ?yq3⟩) hHeld ?rq3
  · go_simp
  refine' wpAnyH_take (i := 4) (v := .pointer (some ⟨b, 1, none⟩)) rfl (by kernel_rfl) (by kernel_rfl) (by kernel_rfl) (fun _ _ _ h => h) (Or.inl ⟨by kernel_rfl, fun W hW => ?yq4⟩) hHeld ?rq4
  · go_simp
  refine' wpAnyH_take (i := 5) (v := .int .u64 fr) rfl (by kernel_rfl) (by kernel_rfl) (by kernel_rfl) (fun _ _ _ h => h) (Or.inl ⟨by kernel_rfl, fun W hW => ?yq5⟩) hHeld ?rq5
  · obtain ⟨z0, z1, z2, z3, z4, z5, z6⟩ := Hc.out W hW
    go_simp
  refine' wpAnyH_take (i := 7) (v := .pointer (some ⟨b, 2, none⟩)) rfl (by kernel_rfl) (by kernel_rfl) (by kernel_rfl) (fun _ _ _ h => h) (Or.inl ⟨by kernel_rfl, fun W hW => ?yq6⟩) hHeld ?rq6
  · go_simp
  refine' wpAnyH_take (i := 8) (v := .int .u64 tt) rfl (by kernel_rfl) (by kernel_rfl) (by kernel_rfl) (fun _ _ _ h => h) (Or.inl ⟨by kernel_rfl, fun W hW => ?yq7⟩) hHeld ?rq7
  · obtain ⟨z0, z1, z2, z3, z4, z5, z6⟩ := Hc.out W hW
    go_simp
  refine' wpAnyH_take (i := 10) (v := .pointer (some ⟨b, 3, none⟩)) rfl (by kernel_rfl) (by kernel_rfl) (by kernel_rfl) (fun _ _ _ h => h) (Or.inl ⟨by kernel_rfl, fun W hW => ?yq8⟩) hHeld ?rq8
  · go_simp
  refine' wpAnyH_take (i := 11) (v := .int .u64 am) rfl (by kernel_rfl) (by kernel_rfl) (by kernel_rfl) (fun _ _ _ h => h) (Or.inl ⟨by kernel_rfl, fun W hW => ?yq9⟩) hHeld ?rq9
  · obtain ⟨z0, z1, z2, z3, z4, z5, z6⟩ := Hc.out W hW
    go_simp
  refine' wpAnyH_take (i := 13) (v := .pointer (some ⟨b, 4, none⟩)) rfl (by kernel_rfl) (by kernel_rfl) (by kernel_rfl) (fun _ _ _ h => h) (Or.inl ⟨by kernel_rfl, fun W hW => ?yq10⟩) hHeld ?rq10
  · go_simp
  refine' wpAnyH_take (i := 14) (v := .int .u64 fe) rfl (by kernel_rfl) (by kernel_rfl) (by kernel_rfl) (fun _ _ _ h => h) (Or.inl ⟨by kernel_rfl, fun W hW => ?yq11⟩) hHeld ?rq11
  · obtain ⟨z0, z1, z2, z3, z4, z5, z6⟩ := Hc.out W hW
    go_simp
  refine' wpAnyH_take (i := 16) (v := .pointer (some ⟨b, 5, none⟩)) rfl (by kernel_rfl) (by kernel_rfl) (by kernel_rfl) (fun _ _ _ h => h) (Or.inl ⟨by kernel_rfl, fun W hW => ?yq12⟩) hHeld ?rq12
  · go_simp
  refine' wpAnyH_take (i := 17) (v := .int .u64 nn) rfl (by kernel_rfl) (by kernel_rfl) (by kernel_rfl) (fun _ _ _ h => h) (Or.inl ⟨by kernel_rfl, fun W hW => ?yq13⟩) hHeld ?rq13
  · obtain ⟨z0, z1, z2, z3, z4, z5, z6⟩ := Hc.out W hW
    go_simp
  refine' wpAnyH_take (i := 19) (v := .pointer (some ⟨b, 6, none⟩)) rfl (by kernel_rfl) (by kernel_rfl) (by kernel_rfl) (fun _ _ _ h => h) (Or.inl ⟨by kernel_rfl, fun W hW => ?yq14⟩) hHeld ?rq14
  · go_simp
  refine' wpAnyH_take (i := 20) (v := .agg (E.map bv).toArray) rfl (by kernel_rfl) (by kernel_rfl) (by kernel_rfl) (fun _ _ _ h => h) (yieldsIf_load_mid (by kernel_rfl) 25 (.tmp 24) rfl b 6 (by kernel_rfl) (E.map bv) _ (fun W h => (Hc.out W h).2.2.2.2.2.2) Tryd.underlying25 rfl hsl) hHeld ?sq15
  refine' wpAnyH_take (i := 21) (v := .bool true) rfl (by kernel_rfl) (by kernel_rfl) (by kernel_rfl) (fun _ _ _ h => h) (Or.inl ⟨by kernel_rfl, fun W hW => ?yq16⟩) hHeld ?rq16
  · go_simp
  obtain ⟨X0, hX0⟩ : ∃ X, w1.drew = X := ⟨_, rfl⟩
  rw [hX0] at hHeld ⊢
  clear hX0
  refine wpAnyH_ready (rs := [3, 6]) (by kernel_rfl) (by simp) ?_
  refine AllReadyH.cons rfl (fun K hK => ?_) (AllReadyH.cons rfl (fun K hK => ?_) AllReadyH.nil)
  · skip
    go_simp
    have h19 := fr_one X0 b0
    obtain ⟨X17, eX17⟩ : ∃ X, World.alloc X0 (.cells #[.int .u8 b0.toNat] 5) = X := ⟨_, rfl⟩
    have T18 : Turn no X0 X17 := by rw [← eX17]; exact (Turn.refl no X0).alloc _
    have b20 : Bs X17 (.slice (some ⟨X0.heap.size, 0, none⟩) 1 1) [b0] := by rw [← eX17]; exact h19.own.bs
    have HX17 := hHeld.then_no T18
    try rw [eX17]
    refine hK.out _ _ HX17 (fun hHeld => ?_)
    clear hK h19 eX17
    obtain ⟨z21, ez21⟩ : ∃ z, X0.heap.size = z := ⟨_, rfl⟩
    rw [ez21] at b20
    try rw [ez21]
    clear ez21
    refine wpAnyH_ready (rs := [6]) (by kernel_rfl) (by simp) ?_
    refine AllReadyH.cons rfl (fun K hK => ?_) AllReadyH.nil
    go_simp
    refine (HN.out.1 X17).mono ?_
    rintro e X22 ⟨v23, rfl, F24⟩
    obtain ⟨a25, l26, c27, rfl⟩ := F24.form
    have b28 := F24.own.bs
    refine hK.out _ _ (hHeld.then_no F24.turn) (fun hHeld => ?_)
    clear hK
    have b29 := b20.turn_no F24.turn
    refine wpAnyH_ready (rs := [9]) (by kernel_rfl) (by simp) ?_
    refine AllReadyH.cons rfl (fun K hK => ?_) AllReadyH.nil
    go_simp
    refine (HN.out.2.1 X22).mono ?_
    rintro e X30 ⟨v31, rfl, F32⟩
    obtain ⟨a33, l34, c35, rfl⟩ := F32.form
    have b36 := F32.own.bs
    refine hK.out _ _ (hHeld.then_no F32.turn) (fun hHeld => ?_)
    clear hK
    have b37 := b29.turn_no F32.turn
    have b38 := b28.turn_no F32.turn
    refine wpAnyH_ready (rs := [12]) (by kernel_rfl) (by simp) ?_
    refine AllReadyH.cons rfl (fun K hK => ?_) AllReadyH.nil
    go_simp
    refine (HN.out.2.2.1 X30).mono ?_
    rintro e X39 ⟨v40, rfl, F41⟩
    obtain ⟨a42, l43, c44, rfl⟩ := F41.form
    have b45 := F41.own.bs
    refine hK.out _ _ (hHeld.then_no F41.turn) (fun hHeld => ?_)
    clear hK
    have b46 := b37.turn_no F41.turn
    have b47 := b38.turn_no F41.turn
    have b48 := b36.turn_no F41.turn
    refine wpAnyH_ready (rs := [15]) (by kernel_rfl) (by simp) ?_
    refine AllReadyH.cons rfl (fun K hK => ?_) AllReadyH.nil
    go_simp
    refine (HN.out.2.2.2.1 X39).mono ?_
    rintro e X49 ⟨v50, rfl, F51⟩
    obtain ⟨a52, l53, c54, rfl⟩ := F51.form
    have b55 := F51.own.bs
    refine hK.out _ _ (hHeld.then_no F51.turn) (fun hHeld => ?_)
    clear hK
    have b56 := b46.turn_no F51.turn
    have b57 := b47.turn_no F51.turn
    have b58 := b48.turn_no F51.turn
    have b59 := b45.turn_no F51.turn
    refine wpAnyH_ready (rs := [18]) (by kernel_rfl) (by simp) ?_
    refine AllReadyH.cons rfl (fun K hK => ?_) AllReadyH.nil
    go_simp
    refine (HN.out.2.2.2.2.1 X49).mono ?_
    rintro e X60 ⟨v61, rfl, F62⟩
    obtain ⟨a63, l64, c65, rfl⟩ := F62.form
    have b66 := F62.own.bs
    refine hK.out _ _ (hHeld.then_no F62.turn) (fun hHeld => ?_)
    clear hK
    have b67 := b56.turn_no F62.turn
    have b68 := b57.turn_no F62.turn
    have b69 := b58.turn_no F62.turn
    have b70 := b59.turn_no F62.turn
    have b71 := b55.turn_no F62.turn
    refine wpAnyH_ready (rs := [22]) (by kernel_rfl) (by simp) ?_
    refine AllReadyH.cons rfl (fun K hK => ?_) AllReadyH.nil
    go_simp
    refine (HN.out.2.2.2.2.2 X60).mono ?_
    rintro e X72 ⟨v73, rfl, F74⟩
    obtain ⟨a75, l76, c77, rfl⟩ := F74.form
    have b78 := F74.own.bs
    refine hK.out _ _ (hHeld.then_no F74.turn) (fun hHeld => ?_)
    clear hK
    have b79 := b67.turn_no F74.turn
    have b80 := b68.turn_no F74.turn
    have b81 := b69.turn_no F74.turn
    have b82 := b70.turn_no F74.turn
    have b83 := b71.turn_no F74.turn
    have b84 := b66.turn_no F74.turn
    refine wpAnyH_ready (rs := [23]) (by kernel_rfl) (by simp) ?_
    refine AllReadyH.cons rfl (fun K hK => ?_) AllReadyH.nil
    go_simp
    have R86 := Row.new X72 #[.slice (some ⟨z21, 0, none⟩) 1 1, .slice a25 l26 c27, .slice a33 l34 c35, .slice a42 l43 c44, .slice a52 l53 c54, .slice a63 l64 c65, .slice a75 l76 c77] 70
    have T85 : Turn no X72 (World.alloc X72 (.cells #[.slice (some ⟨z21, 0, none⟩) 1 1, .slice a25 l26 c27, .slice a33 l34 c35, .slice a42 l43 c44, .slice a52 l53 c54, .slice a63 l64 c65, .slice a75 l76 c77] 70)) := (Turn.refl no X72).alloc _
    have J := join78 (World.alloc X72 (.cells #[.slice (some ⟨z21, 0, none⟩) 1 1, .slice a25 l26 c27, .slice a33 l34 c35, .slice a42 l43 c44, .slice a52 l53 c54, .slice a63 l64 c65, .slice a75 l76 c77] 70)) X72.heap.size 7 [(.slice (some ⟨z21, 0, none⟩) 1 1, [b0]), (.slice a25 l26 c27, varE fr), (.slice a33 l34 c35, varE tt), (.slice a42 l43 c44, varE am), (.slice a52 l53 c54, varE fe), (.slice a63 l64 c65, varE nn), (.slice a75 l76 c77, E)] (by
      intro j x hx
      match j, hx with
      | 0, hx => simp at hx; subst hx; exact ⟨R86.cell 0 _ rfl, b79.turn_no T85⟩
      | 1, hx => simp at hx; subst hx; exact ⟨R86.cell 1 _ rfl, b80.turn_no T85⟩
      | 2, hx => simp at hx; subst hx; exact ⟨R86.cell 2 _ rfl, b81.turn_no T85⟩
      | 3, hx => simp at hx; subst hx; exact ⟨R86.cell 3 _ rfl, b82.turn_no T85⟩
      | 4, hx => simp at hx; subst hx; exact ⟨R86.cell 4 _ rfl, b83.turn_no T85⟩
      | 5, hx => simp at hx; subst hx; exact ⟨R86.cell 5 _ rfl, b84.turn_no T85⟩
      | 6, hx => simp at hx; subst hx; exact ⟨R86.cell 6 _ rfl, b78.turn_no T85⟩
      | n + 7, hx => simp at hx) (by simp) (by simp [catL]; omega)
    refine hK.out _ _ (hHeld.then_no T85) (fun hHeld => ?_)
    clear hK
    refine wpAnyH_ready (rs := [24]) (by kernel_rfl) (by simp) ?_
    refine AllReadyH.cons rfl (fun K hK => ?_) AllReadyH.nil
    go_simp
    refine J.mono ?_
    rintro e X92 ⟨v87, rfl, F88⟩
    obtain ⟨a89, l90, c91, rfl⟩ := F88.form
    have hT := hHeld.then_no F88.turn
    refine hK.out _ _ hT (fun hHeld => ?_)
    clear hK J
    refine wpAnyH_ready (rs := [25]) (by kernel_rfl) (by simp) ?_
    refine AllReadyH.cons rfl (fun K hK => ?_) AllReadyH.nil
    go_simp
    refine hK.out _ _ hHeld (fun hHeld => ?_)
    clear hK
    refine wpAnyH_done (by kernel_rfl) ?_ _
    go_simp
    go_wp2_with fail
    go_ret
    exact ⟨_, rfl, by simpa [catL, txB'] using F88.own, fun g hg => fin_new t0 (by assumption) ⟨F88.own, fun g hg => Nat.le_trans T85.size (F88.new g hg), T85.then_no F88.turn⟩ g hg, t0.then_no hHeld⟩
  · skip
    go_simp
    refine (HN.out.1 X0).mono ?_
    rintro e X93 ⟨v94, rfl, F95⟩
    obtain ⟨a96, l97, c98, rfl⟩ := F95.form
    have b99 := F95.own.bs
    refine hK.out _ _ (hHeld.then_no F95.turn) (fun hHeld => ?_)
    clear hK
    refine wpAnyH_ready (rs := [3, 9]) (by kernel_rfl) (by simp) ?_
    refine AllReadyH.cons rfl (fun K hK => ?_) (AllReadyH.cons rfl (fun K hK => ?_) AllReadyH.nil)
    · skip
      go_simp
      have h102 := fr_one X93 b0
      obtain ⟨X100, eX100⟩ : ∃ X, World.alloc X93 (.cells #[.int .u8 b0.toNat] 5) = X := ⟨_, rfl⟩
      have T101 : Turn no X93 X100 := by rw [← eX100]; exact (Turn.refl no X93).alloc _
      have b103 : Bs X100 (.slice (some ⟨X93.heap.size, 0, none⟩) 1 1) [b0] := by rw [← eX100]; exact h102.own.bs
      have HX100 := hHeld.then_no T101
      try rw [eX100]
      refine hK.out _ _ HX100 (fun hHeld => ?_)
      clear hK h102 eX100
      have b105 := b99.turn_no T101
      obtain ⟨z104, ez104⟩ : ∃ z, X93.heap.size = z := ⟨_, rfl⟩
      rw [ez104] at b103
      try rw [ez104]
      clear ez104
      refine wpAnyH_ready (rs := [9]) (by kernel_rfl) (by simp) ?_
      refine AllReadyH.cons rfl (fun K hK => ?_) AllReadyH.nil
      go_simp
      refine (HN.out.2.1 X100).mono ?_
      rintro e X106 ⟨v107, rfl, F108⟩
      obtain ⟨a109, l110, c111, rfl⟩ := F108.form
      have b112 := F108.own.bs
      refine hK.out _ _ (hHeld.then_no F108.turn) (fun hHeld => ?_)
      clear hK
      have b113 := b105.turn_no F108.turn
      have b114 := b103.turn_no F108.turn
      refine wpAnyH_ready (rs := [12]) (by kernel_rfl) (by simp) ?_
      refine AllReadyH.cons rfl (fun K hK => ?_) AllReadyH.nil
      go_simp
      refine (HN.out.2.2.1 X106).mono ?_
      rintro e X115 ⟨v116, rfl, F117⟩
      obtain ⟨a118, l119, c120, rfl⟩ := F117.form
      have b121 := F117.own.bs
      refine hK.out _ _ (hHeld.then_no F117.turn) (fun hHeld => ?_)
      clear hK
      have b122 := b113.turn_no F117.turn
      have b123 := b114.turn_no F117.turn
      have b124 := b112.turn_no F117.turn
      refine wpAnyH_ready (rs := [15]) (by kernel_rfl) (by simp) ?_
      refine AllReadyH.cons rfl (fun K hK => ?_) AllReadyH.nil
      go_simp
      refine (HN.out.2.2.2.1 X115).mono ?_
      rintro e X125 ⟨v126, rfl, F127⟩
      obtain ⟨a128, l129, c130, rfl⟩ := F127.form
      have b131 := F127.own.bs
      refine hK.out _ _ (hHeld.then_no F127.turn) (fun hHeld => ?_)
      clear hK
      have b132 := b122.turn_no F127.turn
      have b133 := b123.turn_no F127.turn
      have b134 := b124.turn_no F127.turn
      have b135 := b121.turn_no F127.turn
      refine wpAnyH_ready (rs := [18]) (by kernel_rfl) (by simp) ?_
      refine AllReadyH.cons rfl (fun K hK => ?_) AllReadyH.nil
      go_simp
      refine (HN.out.2.2.2.2.1 X125).mono ?_
      rintro e X136 ⟨v137, rfl, F138⟩
      obtain ⟨a139, l140, c141, rfl⟩ := F138.form
      have b142 := F138.own.bs
      refine hK.out _ _ (hHeld.then_no F138.turn) (fun hHeld => ?_)
      clear hK
      have b143 := b132.turn_no F138.turn
      have b144 := b133.turn_no F138.turn
      have b145 := b134.turn_no F138.turn
      have b146 := b135.turn_no F138.turn
      have b147 := b131.turn_no F138.turn
      refine wpAnyH_ready (rs := [22]) (by kernel_rfl) (by simp) ?_
      refine AllReadyH.cons rfl (fun K hK => ?_) AllReadyH.nil
      go_simp
      refine (HN.out.2.2.2.2.2 X136).mono ?_
      rintro e X148 ⟨v149, rfl, F150⟩
      obtain ⟨a151, l152, c153, rfl⟩ := F150.form
      have b154 := F150.own.bs
      refine hK.out _ _ (hHeld.then_no F150.turn) (fun hHeld => ?_)
      clear hK
      have b155 := b143.turn_no F150.turn
      have b156 := b144.turn_no F150.turn
      have b157 := b145.turn_no F150.turn
      have b158 := b146.turn_no F150.turn
      have b159 := b147.turn_no F150.turn
      have b160 := b142.turn_no F150.turn
      refine wpAnyH_ready (rs := [23]) (by kernel_rfl) (by simp) ?_
      refine AllReadyH.cons rfl (fun K hK => ?_) AllReadyH.nil
      go_simp
      have R162 := Row.new X148 #[.slice (some ⟨z104, 0, none⟩) 1 1, .slice a96 l97 c98, .slice a109 l110 c111, .slice a118 l119 c120, .slice a128 l129 c130, .slice a139 l140 c141, .slice a151 l152 c153] 70
      have T161 : Turn no X148 (World.alloc X148 (.cells #[.slice (some ⟨z104, 0, none⟩) 1 1, .slice a96 l97 c98, .slice a109 l110 c111, .slice a118 l119 c120, .slice a128 l129 c130, .slice a139 l140 c141, .slice a151 l152 c153] 70)) := (Turn.refl no X148).alloc _
      have J := join78 (World.alloc X148 (.cells #[.slice (some ⟨z104, 0, none⟩) 1 1, .slice a96 l97 c98, .slice a109 l110 c111, .slice a118 l119 c120, .slice a128 l129 c130, .slice a139 l140 c141, .slice a151 l152 c153] 70)) X148.heap.size 7 [(.slice (some ⟨z104, 0, none⟩) 1 1, [b0]), (.slice a96 l97 c98, varE fr), (.slice a109 l110 c111, varE tt), (.slice a118 l119 c120, varE am), (.slice a128 l129 c130, varE fe), (.slice a139 l140 c141, varE nn), (.slice a151 l152 c153, E)] (by
        intro j x hx
        match j, hx with
        | 0, hx => simp at hx; subst hx; exact ⟨R162.cell 0 _ rfl, b156.turn_no T161⟩
        | 1, hx => simp at hx; subst hx; exact ⟨R162.cell 1 _ rfl, b155.turn_no T161⟩
        | 2, hx => simp at hx; subst hx; exact ⟨R162.cell 2 _ rfl, b157.turn_no T161⟩
        | 3, hx => simp at hx; subst hx; exact ⟨R162.cell 3 _ rfl, b158.turn_no T161⟩
        | 4, hx => simp at hx; subst hx; exact ⟨R162.cell 4 _ rfl, b159.turn_no T161⟩
        | 5, hx => simp at hx; subst hx; exact ⟨R162.cell 5 _ rfl, b160.turn_no T161⟩
        | 6, hx => simp at hx; subst hx; exact ⟨R162.cell 6 _ rfl, b154.turn_no T161⟩
        | n + 7, hx => simp at hx) (by simp) (by simp [catL]; omega)
      refine hK.out _ _ (hHeld.then_no T161) (fun hHeld => ?_)
      clear hK
      refine wpAnyH_ready (rs := [24]) (by kernel_rfl) (by simp) ?_
      refine AllReadyH.cons rfl (fun K hK => ?_) AllReadyH.nil
      go_simp
      refine J.mono ?_
      rintro e X168 ⟨v163, rfl, F164⟩
      obtain ⟨a165, l166, c167, rfl⟩ := F164.form
      have hT := hHeld.then_no F164.turn
      refine hK.out _ _ hT (fun hHeld => ?_)
      clear hK J
      refine wpAnyH_ready (rs := [25]) (by kernel_rfl) (by simp) ?_
      refine AllReadyH.cons rfl (fun K hK => ?_) AllReadyH.nil
      go_simp
      refine hK.out _ _ hHeld (fun hHeld => ?_)
      clear hK
      refine wpAnyH_done (by kernel_rfl) ?_ _
      go_simp
      go_wp2_with fail
      go_ret
      exact ⟨_, rfl, by simpa [catL, txB'] using F164.own, fun g hg => fin_new t0 (by assumption) ⟨F164.own, fun g hg => Nat.le_trans T161.size (F164.new g hg), T161.then_no F164.turn⟩ g hg, t0.then_no hHeld⟩
    · skip
      go_simp
      refine (HN.out.2.1 X93).mono ?_
      rintro e X169 ⟨v170, rfl, F171⟩
      obtain ⟨a172, l173, c174, rfl⟩ := F171.form
      have b175 := F171.own.bs
      refine hK.out _ _ (hHeld.then_no F171.turn) (fun hHeld => ?_)
      clear hK
      have b176 := b99.turn_no F171.turn
      refine wpAnyH_ready (rs := [3, 12]) (by kernel_rfl) (by simp) ?_
      refine AllReadyH.cons rfl (fun K hK => ?_) (AllReadyH.cons rfl (fun K hK => ?_) AllReadyH.nil)
      · skip
        go_simp
        have h179 := fr_one X169 b0
        obtain ⟨X177, eX177⟩ : ∃ X, World.alloc X169 (.cells #[.int .u8 b0.toNat] 5) = X := ⟨_, rfl⟩
        have T178 : Turn no X169 X177 := by rw [← eX177]; exact (Turn.refl no X169).alloc _
        have b180 : Bs X177 (.slice (some ⟨X169.heap.size, 0, none⟩) 1 1) [b0] := by rw [← eX177]; exact h179.own.bs
        have HX177 := hHeld.then_no T178
        try rw [eX177]
        refine hK.out _ _ HX177 (fun hHeld => ?_)
        clear hK h179 eX177
        have b182 := b176.turn_no T178
        have b183 := b175.turn_no T178
        obtain ⟨z181, ez181⟩ : ∃ z, X169.heap.size = z := ⟨_, rfl⟩
        rw [ez181] at b180
        try rw [ez181]
        clear ez181
        refine wpAnyH_ready (rs := [12]) (by kernel_rfl) (by simp) ?_
        refine AllReadyH.cons rfl (fun K hK => ?_) AllReadyH.nil
        go_simp
        refine (HN.out.2.2.1 X177).mono ?_
        rintro e X184 ⟨v185, rfl, F186⟩
        obtain ⟨a187, l188, c189, rfl⟩ := F186.form
        have b190 := F186.own.bs
        refine hK.out _ _ (hHeld.then_no F186.turn) (fun hHeld => ?_)
        clear hK
        have b191 := b182.turn_no F186.turn
        have b192 := b183.turn_no F186.turn
        have b193 := b180.turn_no F186.turn
        refine wpAnyH_ready (rs := [15]) (by kernel_rfl) (by simp) ?_
        refine AllReadyH.cons rfl (fun K hK => ?_) AllReadyH.nil
        go_simp
        refine (HN.out.2.2.2.1 X184).mono ?_
        rintro e X194 ⟨v195, rfl, F196⟩
        obtain ⟨a197, l198, c199, rfl⟩ := F196.form
        have b200 := F196.own.bs
        refine hK.out _ _ (hHeld.then_no F196.turn) (fun hHeld => ?_)
        clear hK
        have b201 := b191.turn_no F196.turn
        have b202 := b192.turn_no F196.turn
        have b203 := b193.turn_no F196.turn
        have b204 := b190.turn_no F196.turn
        refine wpAnyH_ready (rs := [18]) (by kernel_rfl) (by simp) ?_
        refine AllReadyH.cons rfl (fun K hK => ?_) AllReadyH.nil
        go_simp
        refine (HN.out.2.2.2.2.1 X194).mono ?_
        rintro e X205 ⟨v206, rfl, F207⟩
        obtain ⟨a208, l209, c210, rfl⟩ := F207.form
        have b211 := F207.own.bs
        refine hK.out _ _ (hHeld.then_no F207.turn) (fun hHeld => ?_)
        clear hK
        have b212 := b201.turn_no F207.turn
        have b213 := b202.turn_no F207.turn
        have b214 := b203.turn_no F207.turn
        have b215 := b204.turn_no F207.turn
        have b216 := b200.turn_no F207.turn
        refine wpAnyH_ready (rs := [22]) (by kernel_rfl) (by simp) ?_
        refine AllReadyH.cons rfl (fun K hK => ?_) AllReadyH.nil
        go_simp
        refine (HN.out.2.2.2.2.2 X205).mono ?_
        rintro e X217 ⟨v218, rfl, F219⟩
        obtain ⟨a220, l221, c222, rfl⟩ := F219.form
        have b223 := F219.own.bs
        refine hK.out _ _ (hHeld.then_no F219.turn) (fun hHeld => ?_)
        clear hK
        have b224 := b212.turn_no F219.turn
        have b225 := b213.turn_no F219.turn
        have b226 := b214.turn_no F219.turn
        have b227 := b215.turn_no F219.turn
        have b228 := b216.turn_no F219.turn
        have b229 := b211.turn_no F219.turn
        refine wpAnyH_ready (rs := [23]) (by kernel_rfl) (by simp) ?_
        refine AllReadyH.cons rfl (fun K hK => ?_) AllReadyH.nil
        go_simp
        have R231 := Row.new X217 #[.slice (some ⟨z181, 0, none⟩) 1 1, .slice a96 l97 c98, .slice a172 l173 c174, .slice a187 l188 c189, .slice a197 l198 c199, .slice a208 l209 c210, .slice a220 l221 c222] 70
        have T230 : Turn no X217 (World.alloc X217 (.cells #[.slice (some ⟨z181, 0, none⟩) 1 1, .slice a96 l97 c98, .slice a172 l173 c174, .slice a187 l188 c189, .slice a197 l198 c199, .slice a208 l209 c210, .slice a220 l221 c222] 70)) := (Turn.refl no X217).alloc _
        have J := join78 (World.alloc X217 (.cells #[.slice (some ⟨z181, 0, none⟩) 1 1, .slice a96 l97 c98, .slice a172 l173 c174, .slice a187 l188 c189, .slice a197 l198 c199, .slice a208 l209 c210, .slice a220 l221 c222] 70)) X217.heap.size 7 [(.slice (some ⟨z181, 0, none⟩) 1 1, [b0]), (.slice a96 l97 c98, varE fr), (.slice a172 l173 c174, varE tt), (.slice a187 l188 c189, varE am), (.slice a197 l198 c199, varE fe), (.slice a208 l209 c210, varE nn), (.slice a220 l221 c222, E)] (by
          intro j x hx
          match j, hx with
          | 0, hx => simp at hx; subst hx; exact ⟨R231.cell 0 _ rfl, b226.turn_no T230⟩
          | 1, hx => simp at hx; subst hx; exact ⟨R231.cell 1 _ rfl, b224.turn_no T230⟩
          | 2, hx => simp at hx; subst hx; exact ⟨R231.cell 2 _ rfl, b225.turn_no T230⟩
          | 3, hx => simp at hx; subst hx; exact ⟨R231.cell 3 _ rfl, b227.turn_no T230⟩
          | 4, hx => simp at hx; subst hx; exact ⟨R231.cell 4 _ rfl, b228.turn_no T230⟩
          | 5, hx => simp at hx; subst hx; exact ⟨R231.cell 5 _ rfl, b229.turn_no T230⟩
          | 6, hx => simp at hx; subst hx; exact ⟨R231.cell 6 _ rfl, b223.turn_no T230⟩
          | n + 7, hx => simp at hx) (by simp) (by simp [catL]; omega)
        refine hK.out _ _ (hHeld.then_no T230) (fun hHeld => ?_)
        clear hK
        refine wpAnyH_ready (rs := [24]) (by kernel_rfl) (by simp) ?_
        refine AllReadyH.cons rfl (fun K hK => ?_) AllReadyH.nil
        go_simp
        refine J.mono ?_
        rintro e X237 ⟨v232, rfl, F233⟩
        obtain ⟨a234, l235, c236, rfl⟩ := F233.form
        have hT := hHeld.then_no F233.turn
        refine hK.out _ _ hT (fun hHeld => ?_)
        clear hK J
        refine wpAnyH_ready (rs := [25]) (by kernel_rfl) (by simp) ?_
        refine AllReadyH.cons rfl (fun K hK => ?_) AllReadyH.nil
        go_simp
        refine hK.out _ _ hHeld (fun hHeld => ?_)
        clear hK
        refine wpAnyH_done (by kernel_rfl) ?_ _
        go_simp
        go_wp2_with fail
        go_ret
        exact ⟨_, rfl, by simpa [catL, txB'] using F233.own, fun g hg => fin_new t0 (by assumption) ⟨F233.own, fun g hg => Nat.le_trans T230.size (F233.new g hg), T230.then_no F233.turn⟩ g hg, t0.then_no hHeld⟩
      · skip
        go_simp
        refine (HN.out.2.2.1 X169).mono ?_
        rintro e X238 ⟨v239, rfl, F240⟩
        obtain ⟨a241, l242, c243, rfl⟩ := F240.form
        have b244 := F240.own.bs
        refine hK.out _ _ (hHeld.then_no F240.turn) (fun hHeld => ?_)
        clear hK
        have b245 := b176.turn_no F240.turn
        have b246 := b175.turn_no F240.turn
        refine wpAnyH_ready (rs := [3, 15]) (by kernel_rfl) (by simp) ?_
        refine AllReadyH.cons rfl (fun K hK => ?_) (AllReadyH.cons rfl (fun K hK => ?_) AllReadyH.nil)
        · skip
          go_simp
          have h249 := fr_one X238 b0
          obtain ⟨X247, eX247⟩ : ∃ X, World.alloc X238 (.cells #[.int .u8 b0.toNat] 5) = X := ⟨_, rfl⟩
          have T248 : Turn no X238 X247 := by rw [← eX247]; exact (Turn.refl no X238).alloc _
          have b250 : Bs X247 (.slice (some ⟨X238.heap.size, 0, none⟩) 1 1) [b0] := by rw [← eX247]; exact h249.own.bs
          have HX247 := hHeld.then_no T248
          try rw [eX247]
          refine hK.out _ _ HX247 (fun hHeld => ?_)
          clear hK h249 eX247
          have b252 := b245.turn_no T248
          have b253 := b246.turn_no T248
          have b254 := b244.turn_no T248
          obtain ⟨z251, ez251⟩ : ∃ z, X238.heap.size = z := ⟨_, rfl⟩
          rw [ez251] at b250
          try rw [ez251]
          clear ez251
          refine wpAnyH_ready (rs := [15]) (by kernel_rfl) (by simp) ?_
          refine AllReadyH.cons rfl (fun K hK => ?_) AllReadyH.nil
          go_simp
          refine (HN.out.2.2.2.1 X247).mono ?_
          rintro e X255 ⟨v256, rfl, F257⟩
          obtain ⟨a258, l259, c260, rfl⟩ := F257.form
          have b261 := F257.own.bs
          refine hK.out _ _ (hHeld.then_no F257.turn) (fun hHeld => ?_)
          clear hK
          have b262 := b252.turn_no F257.turn
          have b263 := b253.turn_no F257.turn
          have b264 := b254.turn_no F257.turn
          have b265 := b250.turn_no F257.turn
          refine wpAnyH_ready (rs := [18]) (by kernel_rfl) (by simp) ?_
          refine AllReadyH.cons rfl (fun K hK => ?_) AllReadyH.nil
          go_simp
          refine (HN.out.2.2.2.2.1 X255).mono ?_
          rintro e X266 ⟨v267, rfl, F268⟩
          obtain ⟨a269, l270, c271, rfl⟩ := F268.form
          have b272 := F268.own.bs
          refine hK.out _ _ (hHeld.then_no F268.turn) (fun hHeld => ?_)
          clear hK
          have b273 := b262.turn_no F268.turn
          have b274 := b263.turn_no F268.turn
          have b275 := b264.turn_no F268.turn
          have b276 := b265.turn_no F268.turn
          have b277 := b261.turn_no F268.turn
          refine wpAnyH_ready (rs := [22]) (by kernel_rfl) (by simp) ?_
          refine AllReadyH.cons rfl (fun K hK => ?_) AllReadyH.nil
          go_simp
          refine (HN.out.2.2.2.2.2 X266).mono ?_
          rintro e X278 ⟨v279, rfl, F280⟩
          obtain ⟨a281, l282, c283, rfl⟩ := F280.form
          have b284 := F280.own.bs
          refine hK.out _ _ (hHeld.then_no F280.turn) (fun hHeld => ?_)
          clear hK
          have b285 := b273.turn_no F280.turn
          have b286 := b274.turn_no F280.turn
          have b287 := b275.turn_no F280.turn
          have b288 := b276.turn_no F280.turn
          have b289 := b277.turn_no F280.turn
          have b290 := b272.turn_no F280.turn
          refine wpAnyH_ready (rs := [23]) (by kernel_rfl) (by simp) ?_
          refine AllReadyH.cons rfl (fun K hK => ?_) AllReadyH.nil
          go_simp
          have R292 := Row.new X278 #[.slice (some ⟨z251, 0, none⟩) 1 1, .slice a96 l97 c98, .slice a172 l173 c174, .slice a241 l242 c243, .slice a258 l259 c260, .slice a269 l270 c271, .slice a281 l282 c283] 70
          have T291 : Turn no X278 (World.alloc X278 (.cells #[.slice (some ⟨z251, 0, none⟩) 1 1, .slice a96 l97 c98, .slice a172 l173 c174, .slice a241 l242 c243, .slice a258 l259 c260, .slice a269 l270 c271, .slice a281 l282 c283] 70)) := (Turn.refl no X278).alloc _
          have J := join78 (World.alloc X278 (.cells #[.slice (some ⟨z251, 0, none⟩) 1 1, .slice a96 l97 c98, .slice a172 l173 c174, .slice a241 l242 c243, .slice a258 l259 c260, .slice a269 l270 c271, .slice a281 l282 c283] 70)) X278.heap.size 7 [(.slice (some ⟨z251, 0, none⟩) 1 1, [b0]), (.slice a96 l97 c98, varE fr), (.slice a172 l173 c174, varE tt), (.slice a241 l242 c243, varE am), (.slice a258 l259 c260, varE fe), (.slice a269 l270 c271, varE nn), (.slice a281 l282 c283, E)] (by
            intro j x hx
            match j, hx with
            | 0, hx => simp at hx; subst hx; exact ⟨R292.cell 0 _ rfl, b288.turn_no T291⟩
            | 1, hx => simp at hx; subst hx; exact ⟨R292.cell 1 _ rfl, b285.turn_no T291⟩
            | 2, hx => simp at hx; subst hx; exact ⟨R292.cell 2 _ rfl, b286.turn_no T291⟩
            | 3, hx => simp at hx; subst hx; exact ⟨R292.cell 3 _ rfl, b287.turn_no T291⟩
            | 4, hx => simp at hx; subst hx; exact ⟨R292.cell 4 _ rfl, b289.turn_no T291⟩
            | 5, hx => simp at hx; subst hx; exact ⟨R292.cell 5 _ rfl, b290.turn_no T291⟩
            | 6, hx => simp at hx; subst hx; exact ⟨R292.cell 6 _ rfl, b284.turn_no T291⟩
            | n + 7, hx => simp at hx) (by simp) (by simp [catL]; omega)
          refine hK.out _ _ (hHeld.then_no T291) (fun hHeld => ?_)
          clear hK
          refine wpAnyH_ready (rs := [24]) (by kernel_rfl) (by simp) ?_
          refine AllReadyH.cons rfl (fun K hK => ?_) AllReadyH.nil
          go_simp
          refine J.mono ?_
          rintro e X298 ⟨v293, rfl, F294⟩
          obtain ⟨a295, l296, c297, rfl⟩ := F294.form
          have hT := hHeld.then_no F294.turn
          refine hK.out _ _ hT (fun hHeld => ?_)
          clear hK J
          refine wpAnyH_ready (rs := [25]) (by kernel_rfl) (by simp) ?_
          refine AllReadyH.cons rfl (fun K hK => ?_) AllReadyH.nil
          go_simp
          refine hK.out _ _ hHeld (fun hHeld => ?_)
          clear hK
          refine wpAnyH_done (by kernel_rfl) ?_ _
          go_simp
          go_wp2_with fail
          go_ret
          exact ⟨_, rfl, by simpa [catL, txB'] using F294.own, fun g hg => fin_new t0 (by assumption) ⟨F294.own, fun g hg => Nat.le_trans T291.size (F294.new g hg), T291.then_no F294.turn⟩ g hg, t0.then_no hHeld⟩
        · skip
          go_simp
          refine (HN.out.2.2.2.1 X238).mono ?_
          rintro e X299 ⟨v300, rfl, F301⟩
          obtain ⟨a302, l303, c304, rfl⟩ := F301.form
          have b305 := F301.own.bs
          refine hK.out _ _ (hHeld.then_no F301.turn) (fun hHeld => ?_)
          clear hK
          have b306 := b245.turn_no F301.turn
          have b307 := b246.turn_no F301.turn
          have b308 := b244.turn_no F301.turn
          refine wpAnyH_ready (rs := [3, 18]) (by kernel_rfl) (by simp) ?_
          refine AllReadyH.cons rfl (fun K hK => ?_) (AllReadyH.cons rfl (fun K hK => ?_) AllReadyH.nil)
          · skip
            go_simp
            have h311 := fr_one X299 b0
            obtain ⟨X309, eX309⟩ : ∃ X, World.alloc X299 (.cells #[.int .u8 b0.toNat] 5) = X := ⟨_, rfl⟩
            have T310 : Turn no X299 X309 := by rw [← eX309]; exact (Turn.refl no X299).alloc _
            have b312 : Bs X309 (.slice (some ⟨X299.heap.size, 0, none⟩) 1 1) [b0] := by rw [← eX309]; exact h311.own.bs
            have HX309 := hHeld.then_no T310
            try rw [eX309]
            refine hK.out _ _ HX309 (fun hHeld => ?_)
            clear hK h311 eX309
            have b314 := b306.turn_no T310
            have b315 := b307.turn_no T310
            have b316 := b308.turn_no T310
            have b317 := b305.turn_no T310
            obtain ⟨z313, ez313⟩ : ∃ z, X299.heap.size = z := ⟨_, rfl⟩
            rw [ez313] at b312
            try rw [ez313]
            clear ez313
            refine wpAnyH_ready (rs := [18]) (by kernel_rfl) (by simp) ?_
            refine AllReadyH.cons rfl (fun K hK => ?_) AllReadyH.nil
            go_simp
            refine (HN.out.2.2.2.2.1 X309).mono ?_
            rintro e X318 ⟨v319, rfl, F320⟩
            obtain ⟨a321, l322, c323, rfl⟩ := F320.form
            have b324 := F320.own.bs
            refine hK.out _ _ (hHeld.then_no F320.turn) (fun hHeld => ?_)
            clear hK
            have b325 := b314.turn_no F320.turn
            have b326 := b315.turn_no F320.turn
            have b327 := b316.turn_no F320.turn
            have b328 := b317.turn_no F320.turn
            have b329 := b312.turn_no F320.turn
            refine wpAnyH_ready (rs := [22]) (by kernel_rfl) (by simp) ?_
            refine AllReadyH.cons rfl (fun K hK => ?_) AllReadyH.nil
            go_simp
            refine (HN.out.2.2.2.2.2 X318).mono ?_
            rintro e X330 ⟨v331, rfl, F332⟩
            obtain ⟨a333, l334, c335, rfl⟩ := F332.form
            have b336 := F332.own.bs
            refine hK.out _ _ (hHeld.then_no F332.turn) (fun hHeld => ?_)
            clear hK
            have b337 := b325.turn_no F332.turn
            have b338 := b326.turn_no F332.turn
            have b339 := b327.turn_no F332.turn
            have b340 := b328.turn_no F332.turn
            have b341 := b329.turn_no F332.turn
            have b342 := b324.turn_no F332.turn
            refine wpAnyH_ready (rs := [23]) (by kernel_rfl) (by simp) ?_
            refine AllReadyH.cons rfl (fun K hK => ?_) AllReadyH.nil
            go_simp
            have R344 := Row.new X330 #[.slice (some ⟨z313, 0, none⟩) 1 1, .slice a96 l97 c98, .slice a172 l173 c174, .slice a241 l242 c243, .slice a302 l303 c304, .slice a321 l322 c323, .slice a333 l334 c335] 70
            have T343 : Turn no X330 (World.alloc X330 (.cells #[.slice (some ⟨z313, 0, none⟩) 1 1, .slice a96 l97 c98, .slice a172 l173 c174, .slice a241 l242 c243, .slice a302 l303 c304, .slice a321 l322 c323, .slice a333 l334 c335] 70)) := (Turn.refl no X330).alloc _
            have J := join78 (World.alloc X330 (.cells #[.slice (some ⟨z313, 0, none⟩) 1 1, .slice a96 l97 c98, .slice a172 l173 c174, .slice a241 l242 c243, .slice a302 l303 c304, .slice a321 l322 c323, .slice a333 l334 c335] 70)) X330.heap.size 7 [(.slice (some ⟨z313, 0, none⟩) 1 1, [b0]), (.slice a96 l97 c98, varE fr), (.slice a172 l173 c174, varE tt), (.slice a241 l242 c243, varE am), (.slice a302 l303 c304, varE fe), (.slice a321 l322 c323, varE nn), (.slice a333 l334 c335, E)] (by
              intro j x hx
              match j, hx with
              | 0, hx => simp at hx; subst hx; exact ⟨R344.cell 0 _ rfl, b341.turn_no T343⟩
              | 1, hx => simp at hx; subst hx; exact ⟨R344.cell 1 _ rfl, b337.turn_no T343⟩
              | 2, hx => simp at hx; subst hx; exact ⟨R344.cell 2 _ rfl, b338.turn_no T343⟩
              | 3, hx => simp at hx; subst hx; exact ⟨R344.cell 3 _ rfl, b339.turn_no T343⟩
              | 4, hx => simp at hx; subst hx; exact ⟨R344.cell 4 _ rfl, b340.turn_no T343⟩
              | 5, hx => simp at hx; subst hx; exact ⟨R344.cell 5 _ rfl, b342.turn_no T343⟩
              | 6, hx => simp at hx; subst hx; exact ⟨R344.cell 6 _ rfl, b336.turn_no T343⟩
              | n + 7, hx => simp at hx) (by simp) (by simp [catL]; omega)
            refine hK.out _ _ (hHeld.then_no T343) (fun hHeld => ?_)
            clear hK
            refine wpAnyH_ready (rs := [24]) (by kernel_rfl) (by simp) ?_
            refine AllReadyH.cons rfl (fun K hK => ?_) AllReadyH.nil
            go_simp
            refine J.mono ?_
            rintro e X350 ⟨v345, rfl, F346⟩
            obtain ⟨a347, l348, c349, rfl⟩ := F346.form
            have hT := hHeld.then_no F346.turn
            refine hK.out _ _ hT (fun hHeld => ?_)
            clear hK J
            refine wpAnyH_ready (rs := [25]) (by kernel_rfl) (by simp) ?_
            refine AllReadyH.cons rfl (fun K hK => ?_) AllReadyH.nil
            go_simp
            refine hK.out _ _ hHeld (fun hHeld => ?_)
            clear hK
            refine wpAnyH_done (by kernel_rfl) ?_ _
            go_simp
            go_wp2_with fail
            go_ret
            exact ⟨_, rfl, by simpa [catL, txB'] using F346.own, fun g hg => fin_new t0 (by assumption) ⟨F346.own, fun g hg => Nat.le_trans T343.size (F346.new g hg), T343.then_no F346.turn⟩ g hg, t0.then_no hHeld⟩
          · skip
            go_simp
            refine (HN.out.2.2.2.2.1 X299).mono ?_
            rintro e X351 ⟨v352, rfl, F353⟩
            obtain ⟨a354, l355, c356, rfl⟩ := F353.form
            have b357 := F353.own.bs
            refine hK.out _ _ (hHeld.then_no F353.turn) (fun hHeld => ?_)
            clear hK
            have b358 := b306.turn_no F353.turn
            have b359 := b307.turn_no F353.turn
            have b360 := b308.turn_no F353.turn
            have b361 := b305.turn_no F353.turn
            refine wpAnyH_ready (rs := [3, 22]) (by kernel_rfl) (by simp) ?_
            refine AllReadyH.cons rfl (fun K hK => ?_) (AllReadyH.cons rfl (fun K hK => ?_) AllReadyH.nil)
            · skip
              go_simp
              have h364 := fr_one X351 b0
              obtain ⟨X362, eX362⟩ : ∃ X, World.alloc X351 (.cells #[.int .u8 b0.toNat] 5) = X := ⟨_, rfl⟩
              have T363 : Turn no X351 X362 := by rw [← eX362]; exact (Turn.refl no X351).alloc _
              have b365 : Bs X362 (.slice (some ⟨X351.heap.size, 0, none⟩) 1 1) [b0] := by rw [← eX362]; exact h364.own.bs
              have HX362 := hHeld.then_no T363
              try rw [eX362]
              refine hK.out _ _ HX362 (fun hHeld => ?_)
              clear hK h364 eX362
              have b367 := b358.turn_no T363
              have b368 := b359.turn_no T363
              have b369 := b360.turn_no T363
              have b370 := b361.turn_no T363
              have b371 := b357.turn_no T363
              obtain ⟨z366, ez366⟩ : ∃ z, X351.heap.size = z := ⟨_, rfl⟩
              rw [ez366] at b365
              try rw [ez366]
              clear ez366
              refine wpAnyH_ready (rs := [22]) (by kernel_rfl) (by simp) ?_
              refine AllReadyH.cons rfl (fun K hK => ?_) AllReadyH.nil
              go_simp
              refine (HN.out.2.2.2.2.2 X362).mono ?_
              rintro e X372 ⟨v373, rfl, F374⟩
              obtain ⟨a375, l376, c377, rfl⟩ := F374.form
              have b378 := F374.own.bs
              refine hK.out _ _ (hHeld.then_no F374.turn) (fun hHeld => ?_)
              clear hK
              have b379 := b367.turn_no F374.turn
              have b380 := b368.turn_no F374.turn
              have b381 := b369.turn_no F374.turn
              have b382 := b370.turn_no F374.turn
              have b383 := b371.turn_no F374.turn
              have b384 := b365.turn_no F374.turn
              refine wpAnyH_ready (rs := [23]) (by kernel_rfl) (by simp) ?_
              refine AllReadyH.cons rfl (fun K hK => ?_) AllReadyH.nil
              go_simp
              have R386 := Row.new X372 #[.slice (some ⟨z366, 0, none⟩) 1 1, .slice a96 l97 c98, .slice a172 l173 c174, .slice a241 l242 c243, .slice a302 l303 c304, .slice a354 l355 c356, .slice a375 l376 c377] 70
              have T385 : Turn no X372 (World.alloc X372 (.cells #[.slice (some ⟨z366, 0, none⟩) 1 1, .slice a96 l97 c98, .slice a172 l173 c174, .slice a241 l242 c243, .slice a302 l303 c304, .slice a354 l355 c356, .slice a375 l376 c377] 70)) := (Turn.refl no X372).alloc _
              have J := join78 (World.alloc X372 (.cells #[.slice (some ⟨z366, 0, none⟩) 1 1, .slice a96 l97 c98, .slice a172 l173 c174, .slice a241 l242 c243, .slice a302 l303 c304, .slice a354 l355 c356, .slice a375 l376 c377] 70)) X372.heap.size 7 [(.slice (some ⟨z366, 0, none⟩) 1 1, [b0]), (.slice a96 l97 c98, varE fr), (.slice a172 l173 c174, varE tt), (.slice a241 l242 c243, varE am), (.slice a302 l303 c304, varE fe), (.slice a354 l355 c356, varE nn), (.slice a375 l376 c377, E)] (by
                intro j x hx
                match j, hx with
                | 0, hx => simp at hx; subst hx; exact ⟨R386.cell 0 _ rfl, b384.turn_no T385⟩
                | 1, hx => simp at hx; subst hx; exact ⟨R386.cell 1 _ rfl, b379.turn_no T385⟩
                | 2, hx => simp at hx; subst hx; exact ⟨R386.cell 2 _ rfl, b380.turn_no T385⟩
                | 3, hx => simp at hx; subst hx; exact ⟨R386.cell 3 _ rfl, b381.turn_no T385⟩
                | 4, hx => simp at hx; subst hx; exact ⟨R386.cell 4 _ rfl, b382.turn_no T385⟩
                | 5, hx => simp at hx; subst hx; exact ⟨R386.cell 5 _ rfl, b383.turn_no T385⟩
                | 6, hx => simp at hx; subst hx; exact ⟨R386.cell 6 _ rfl, b378.turn_no T385⟩
                | n + 7, hx => simp at hx) (by simp) (by simp [catL]; omega)
              refine hK.out _ _ (hHeld.then_no T385) (fun hHeld => ?_)
              clear hK
              refine wpAnyH_ready (rs := [24]) (by kernel_rfl) (by simp) ?_
              refine AllReadyH.cons rfl (fun K hK => ?_) AllReadyH.nil
              go_simp
              refine J.mono ?_
              rintro e X392 ⟨v387, rfl, F388⟩
              obtain ⟨a389, l390, c391, rfl⟩ := F388.form
              have hT := hHeld.then_no F388.turn
              refine hK.out _ _ hT (fun hHeld => ?_)
              clear hK J
              refine wpAnyH_ready (rs := [25]) (by kernel_rfl) (by simp) ?_
              refine AllReadyH.cons rfl (fun K hK => ?_) AllReadyH.nil
              go_simp
              refine hK.out _ _ hHeld (fun hHeld => ?_)
              clear hK
              refine wpAnyH_done (by kernel_rfl) ?_ _
              go_simp
              go_wp2_with fail
              go_ret
              exact ⟨_, rfl, by simpa [catL, txB'] using F388.own, fun g hg => fin_new t0 (by assumption) ⟨F388.own, fun g hg => Nat.le_trans T385.size (F388.new g hg), T385.then_no F388.turn⟩ g hg, t0.then_no hHeld⟩
            · skip
              go_simp
              refine (HN.out.2.2.2.2.2 X351).mono ?_
              rintro e X393 ⟨v394, rfl, F395⟩
              obtain ⟨a396, l397, c398, rfl⟩ := F395.form
              have b399 := F395.own.bs
              refine hK.out _ _ (hHeld.then_no F395.turn) (fun hHeld => ?_)
              clear hK
              have b400 := b358.turn_no F395.turn
              have b401 := b359.turn_no F395.turn
              have b402 := b360.turn_no F395.turn
              have b403 := b361.turn_no F395.turn
              have b404 := b357.turn_no F395.turn
              refine wpAnyH_ready (rs := [3]) (by kernel_rfl) (by simp) ?_
              refine AllReadyH.cons rfl (fun K hK => ?_) AllReadyH.nil
              go_simp
              have h407 := fr_one X393 b0
              obtain ⟨X405, eX405⟩ : ∃ X, World.alloc X393 (.cells #[.int .u8 b0.toNat] 5) = X := ⟨_, rfl⟩
              have T406 : Turn no X393 X405 := by rw [← eX405]; exact (Turn.refl no X393).alloc _
              have b408 : Bs X405 (.slice (some ⟨X393.heap.size, 0, none⟩) 1 1) [b0] := by rw [← eX405]; exact h407.own.bs
              have HX405 := hHeld.then_no T406
              try rw [eX405]
              refine hK.out _ _ HX405 (fun hHeld => ?_)
              clear hK h407 eX405
              have b410 := b400.turn_no T406
              have b411 := b401.turn_no T406
              have b412 := b402.turn_no T406
              have b413 := b403.turn_no T406
              have b414 := b404.turn_no T406
              have b415 := b399.turn_no T406
              obtain ⟨z409, ez409⟩ : ∃ z, X393.heap.size = z := ⟨_, rfl⟩
              rw [ez409] at b408
              try rw [ez409]
              clear ez409
              refine wpAnyH_ready (rs := [23]) (by kernel_rfl) (by simp) ?_
              refine AllReadyH.cons rfl (fun K hK => ?_) AllReadyH.nil
              go_simp
              have R417 := Row.new X405 #[.slice (some ⟨z409, 0, none⟩) 1 1, .slice a96 l97 c98, .slice a172 l173 c174, .slice a241 l242 c243, .slice a302 l303 c304, .slice a354 l355 c356, .slice a396 l397 c398] 70
              have T416 : Turn no X405 (World.alloc X405 (.cells #[.slice (some ⟨z409, 0, none⟩) 1 1, .slice a96 l97 c98, .slice a172 l173 c174, .slice a241 l242 c243, .slice a302 l303 c304, .slice a354 l355 c356, .slice a396 l397 c398] 70)) := (Turn.refl no X405).alloc _
              have J := join78 (World.alloc X405 (.cells #[.slice (some ⟨z409, 0, none⟩) 1 1, .slice a96 l97 c98, .slice a172 l173 c174, .slice a241 l242 c243, .slice a302 l303 c304, .slice a354 l355 c356, .slice a396 l397 c398] 70)) X405.heap.size 7 [(.slice (some ⟨z409, 0, none⟩) 1 1, [b0]), (.slice a96 l97 c98, varE fr), (.slice a172 l173 c174, varE tt), (.slice a241 l242 c243, varE am), (.slice a302 l303 c304, varE fe), (.slice a354 l355 c356, varE nn), (.slice a396 l397 c398, E)] (by
                intro j x hx
                match j, hx with
                | 0, hx => simp at hx; subst hx; exact ⟨R417.cell 0 _ rfl, b408.turn_no T416⟩
                | 1, hx => simp at hx; subst hx; exact ⟨R417.cell 1 _ rfl, b410.turn_no T416⟩
                | 2, hx => simp at hx; subst hx; exact ⟨R417.cell 2 _ rfl, b411.turn_no T416⟩
                | 3, hx => simp at hx; subst hx; exact ⟨R417.cell 3 _ rfl, b412.turn_no T416⟩
                | 4, hx => simp at hx; subst hx; exact ⟨R417.cell 4 _ rfl, b413.turn_no T416⟩
                | 5, hx => simp at hx; subst hx; exact ⟨R417.cell 5 _ rfl, b414.turn_no T416⟩
                | 6, hx => simp at hx; subst hx; exact ⟨R417.cell 6 _ rfl, b415.turn_no T416⟩
                | n + 7, hx => simp at hx) (by simp) (by simp [catL]; omega)
              refine hK.out _ _ (hHeld.then_no T416) (fun hHeld => ?_)
              clear hK
              refine wpAnyH_ready (rs := [24]) (by kernel_rfl) (by simp) ?_
              refine AllReadyH.cons rfl (fun K hK => ?_) AllReadyH.nil
              go_simp
              refine J.mono ?_
              rintro e X423 ⟨v418, rfl, F419⟩
              obtain ⟨a420, l421, c422, rfl⟩ := F419.form
              have hT := hHeld.then_no F419.turn
              refine hK.out _ _ hT (fun hHeld => ?_)
              clear hK J
              refine wpAnyH_ready (rs := [25]) (by kernel_rfl) (by simp) ?_
              refine AllReadyH.cons rfl (fun K hK => ?_) AllReadyH.nil
              go_simp
              refine hK.out _ _ hHeld (fun hHeld => ?_)
              clear hK
              refine wpAnyH_done (by kernel_rfl) ?_ _
              go_simp
              go_wp2_with fail
              go_ret
              exact ⟨_, rfl, by simpa [catL, txB'] using F419.own, fun g hg => fin_new t0 (by assumption) ⟨F419.own, fun g hg => Nat.le_trans T416.size (F419.new g hg), T416.then_no F419.turn⟩ g hg, t0.then_no hHeld⟩
end Go.Proofs.YtgimecdmleofeaaDoor
