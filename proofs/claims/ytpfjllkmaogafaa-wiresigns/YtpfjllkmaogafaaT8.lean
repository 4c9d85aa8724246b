/- tx of the document. -/
import Derived.Test.YtpfjllkmaogafaaT7
import Derived.Deep.RegionHeld
namespace Go.Proofs.Ytpfjllkmaogafaa
open Go.RowKit
set_option linter.unusedVariables false

def txB' (b0 : UInt8) (fr tt am fe nn : Nat) : List UInt8 := [b0] ++ (varE fr ++ (varE tt ++ (varE am ++ (varE fe ++ varE nn))))
theorem fin_new {w w1 X X2 X3 : World} {v : Value} {B : List UInt8} (t0 : Turn no w w1) (t1 : Turn no w1 X) (t2 : Turn no X X2) (F : Fr X2 X3 v B) (g : Nat) (hg : v.ownBlock = some g) : w.heap.size ≤ g :=
  Nat.le_trans ((t0.then_no t1).then_no t2).size (F.new g hg)
theorem txB_eq {x : Tx} {b0 : UInt8} (hb : x.k = (b0.toNat : Int)) : txB x = txB' b0 x.fr x.to x.am x.fe x.no := by
  unfold txB txB'
  rw [hb, Int.toNat_natCast]
  have : leB b0.toNat 1 = [b0] := by simp [leB]
  rw [this]
set_option maxRecDepth 100000 in
set_option maxHeartbeats 8000000 in
theorem tx38 (w : World) (x : Tx) (ho : x.ok) (hk1 : 1 ≤ x.k) (hk4 : x.k ≤ 4) : Calls Try.prog 38 #[.agg x.cs.toArray, .bool false] w fun e w' => ∃ v, e = .returned v ∧ Fr w w' v (txB x) := by
  obtain ⟨b0, hb0⟩ : ∃ b0 : UInt8, x.k = (b0.toNat : Int) := ⟨UInt8.ofNat x.k.toNat, by simp; omega⟩
  rw [txB_eq hb0]
  obtain ⟨c0, c1, c2, c3, c4, c5, cr⟩ := (Row.new w x.cs.toArray 27).tx
  simp only [Nat.zero_add] at c1 c2 c3 c4 c5
  obtain ⟨SE, hSE⟩ : ∃ S, x.se.map bv = S := ⟨_, rfl⟩
  have hsl : (Try.prog.info? 25).map (·.size) = some SE.length := by rw [← hSE, List.length_map, ho.1]; kernel_rfl
  have cs : (w.alloc (.cells x.cs.toArray 27)).rangeAt w.heap.size 6 SE := fun j u hu => by
    have := cr (6 + j) u (by rw [← hSE] at hu; unfold Tx.cs; rw [show 6 + j = j + 1 + 1 + 1 + 1 + 1 + 1 by omega]; exact hu)
    simpa using this
  obtain ⟨_, b1, b2, b3, b4, b5⟩ := ho
  rw [hb0] at c0
  have hb8 := b0.toNat_lt
  have hw8 : IntKind.u8.wrap (b0.toNat : Int) = (b0.toNat : Int) := by rw [IntKind.wrap_u8]; omega
  have l1 := varE_le x.fr
  have l2 := varE_le x.to
  have l3 := varE_le x.am
  have l4 := varE_le x.fe
  have l5 := varE_le x.no
  generalize x.fr = fr at *
  generalize x.to = tt at *
  generalize x.am = am at *
  generalize x.fe = fe at *
  generalize x.no = nn at *
  generalize x.cs.toArray = C at *
  have t0 : Turn no w (w.alloc (.cells C 27)) := (Turn.refl no w).alloc _
  obtain ⟨w1, hw1⟩ : ∃ W, w.alloc (.cells C 27) = W := ⟨_, rfl⟩
  rw [hw1] at t0 c0 c1 c2 c3 c4 c5 cs
  have Hc := shutX (fun W (t : Turn no w1 W) => And.intro (t.keep c0 (fun q => q)) (And.intro (t.keep c1 (fun q => q)) (And.intro (t.keep c2 (fun q => q)) (And.intro (t.keep c3 (fun q => q)) (And.intro (t.keep c4 (fun q => q)) (And.intro (t.keep c5 (fun q => q)) (fun j u hu => t.keep (cs j u hu) (fun q => q) : W.rangeAt w.heap.size 6 SE)))))))
  have HN := shutX (And.intro (fun W => num79 W fr b1) (And.intro (fun W => num79 W tt b2) (And.intro (fun W => num79 W am b3) (And.intro (fun W => num79 W fe b4) (fun W => num79 W nn b5)))))
  clear b1 b2 b3 b4 b5 c0 c1 c2 c3 c4 c5 cs cr hSE hk1 hk4 hb8 hb0
  go_enter Try.func38, Try.ntmps38
  go_upto_region 1 with fail
  try rw [hw1]
  obtain ⟨b, hbb⟩ : ∃ b, w.heap.size = b := ⟨_, rfl⟩
  rw [hbb] at Hc
  try rw [hbb]
  have Hbb := shutX hbb
  clear hbb hw1
  refine wp_region_held_drew (S := fun W => Turn no w1 W) (by kernel_rfl) (Turn.refl no w1).drew (fun hHeld => ?_)
  refine' wpAnyH_take (i := 0) (v := .pointer (some ⟨b, 0, none⟩)) rfl (by kernel_rfl) (by kernel_rfl) (by kernel_rfl) (fun _ _ _ h => h) (Or.inl ⟨by kernel_rfl, fun W hW => ?yq1⟩) hHeld ?rq1
  · go_simp
  refine' wpAnyH_take (i := 1) (v := .int .i64 b0.toNat) rfl (by kernel_rfl) (by kernel_rfl) (by kernel_rfl) (fun _ _ _ h => h) (Or.inl ⟨by kernel_rfl, fun W hW => ?yq2⟩) hHeld ?rq2
  · obtain ⟨z0, z1, z2, z3, z4, z5, z6⟩ := Hc.out W hW
    go_simp
  refine' wpAnyH_take (i := 2) (v := .int .u8 b0.toNat) rfl (by kernel_rfl) (by kernel_rfl) (by kernel_rfl) (fun _ _ _ h => h) (Or.inl ⟨by kernel_rfl, fun W hW => ?yq3⟩) hHeld ?rq3
  · go_simp
  refine' wpAnyH_take (i := 4) (v := .pointer (some ⟨b, 1, none⟩)) rfl (by kernel_rfl) (by kernel_rfl) (by kernel_rfl) (fun _ _ _ h => h) (Or.inl ⟨by kernel_rfl, fun W hW => ?yq4⟩) hHeld ?rq4
  · go_simp
  refine' wpAnyH_take (i := 5) (v := .int .u64 fr) rfl (by kernel_rfl) (by kernel_rfl) (by kernel_rfl) (fun _ _ _ h => h) (Or.inl ⟨by kernel_rfl, fun W hW => ?yq5⟩) hHeld ?rq5
  · obtain ⟨z0, z1, z2, z3, z4, z5, z6⟩ := Hc.out W hW
    go_simp
  refine' wpAnyH_take (i := 7) (v := .pointer (some ⟨b, 2, none⟩)) rfl (by kernel_rfl) (by kernel_rfl) (by kernel_rfl) (fun _ _ _ h => h) (Or.inl ⟨by kernel_rfl, fun W hW => ?yq6⟩) hHeld ?rq6
  · go_simp
  refine' wpAnyH_take (i := 8) (v := .int .u64 tt) rfl (by kernel_rfl) (by kernel_rfl) (by kernel_rfl) (fun _ _ _ h => h) (Or.inl ⟨by kernel_rfl, fun W hW => ?yq7⟩) hHeld ?rq7
  · obtain ⟨z0, z1, z2, z3, z4, z5, z6⟩ := Hc.out W hW
    go_simp
  refine' wpAnyH_take (i := 10) (v := .pointer (some ⟨b, 3, none⟩)) rfl (by kernel_rfl) (by kernel_rfl) (by kernel_rfl) (fun _ _ _ h => h) (Or.inl ⟨by kernel_rfl, fun W hW => ?yq8⟩) hHeld ?rq8
  · go_simp
  refine' wpAnyH_take (i := 11) (v := .int .u64 am) rfl (by kernel_rfl) (by kernel_rfl) (by kernel_rfl) (fun _ _ _ h => h) (Or.inl ⟨by kernel_rfl, fun W hW => ?yq9⟩) hHeld ?rq9
  · obtain ⟨z0, z1, z2, z3, z4, z5, z6⟩ := Hc.out W hW
    go_simp
  refine' wpAnyH_take (i := 13) (v := .pointer (some ⟨b, 4, none⟩)) rfl (by kernel_rfl) (by kernel_rfl) (by kernel_rfl) (fun _ _ _ h => h) (Or.inl ⟨by kernel_rfl, fun W hW => ?yq10⟩) hHeld ?rq10
  · go_simp
  refine' wpAnyH_take (i := 14) (v := .int .u64 fe) rfl (by kernel_rfl) (by kernel_rfl) (by kernel_rfl) (fun _ _ _ h => h) (Or.inl ⟨by kernel_rfl, fun W hW => ?yq11⟩) hHeld ?rq11
  · obtain ⟨z0, z1, z2, z3, z4, z5, z6⟩ := Hc.out W hW
    go_simp
  refine' wpAnyH_take (i := 16) (v := .pointer (some ⟨b, 5, none⟩)) rfl (by kernel_rfl) (by kernel_rfl) (by kernel_rfl) (fun _ _ _ h => h) (Or.inl ⟨by kernel_rfl, fun W hW => ?yq12⟩) hHeld ?rq12
  · go_simp
  refine' wpAnyH_take (i := 17) (v := .int .u64 nn) rfl (by kernel_rfl) (by kernel_rfl) (by kernel_rfl) (fun _ _ _ h => h) (Or.inl ⟨by kernel_rfl, fun W hW => ?yq13⟩) hHeld ?rq13
  · obtain ⟨z0, z1, z2, z3, z4, z5, z6⟩ := Hc.out W hW
    go_simp
  refine' wpAnyH_take (i := 19) (v := .pointer (some ⟨b, 6, none⟩)) rfl (by kernel_rfl) (by kernel_rfl) (by kernel_rfl) (fun _ _ _ h => h) (Or.inl ⟨by kernel_rfl, fun W hW => ?yq14⟩) hHeld ?rq14
  · go_simp
  refine' wpAnyH_take (i := 20) (v := .agg SE.toArray) rfl (by kernel_rfl) (by kernel_rfl) (by kernel_rfl) (fun _ _ _ h => h) (yieldsIf_load_mid (by kernel_rfl) 25 (.tmp 24) rfl b 6 (by kernel_rfl) SE _ (fun W h => (Hc.out W h).2.2.2.2.2.2) Try.underlying25 rfl hsl) hHeld ?s20
  refine' wpAnyH_take (i := 21) (v := .bool false) rfl (by kernel_rfl) (by kernel_rfl) (by kernel_rfl) (fun _ _ _ h => h) (Or.inl ⟨by kernel_rfl, fun W hW => ?yq15⟩) hHeld ?rq15
  · go_simp
  obtain ⟨X0, hX0⟩ : ∃ X, w1.drew = X := ⟨_, rfl⟩
  rw [hX0] at hHeld ⊢
  clear hX0
  refine wpAnyH_ready (rs := [3, 6]) (by kernel_rfl) (by simp) ?_
  refine AllReadyH.cons rfl (fun K hK => ?_) (AllReadyH.cons rfl (fun K hK => ?_) AllReadyH.nil)
  · skip
    go_simp
    have h18 := fr_one X0 b0
    obtain ⟨X16, eX16⟩ : ∃ X, World.alloc X0 (.cells #[.int .u8 b0.toNat] 5) = X := ⟨_, rfl⟩
    have T17 : Turn no X0 X16 := by rw [← eX16]; exact (Turn.refl no X0).alloc _
    have b19 : Bs X16 (.slice (some ⟨X0.heap.size, 0, none⟩) 1 1) [b0] := by rw [← eX16]; exact h18.own.bs
    have HX16 := hHeld.then_no T17
    try rw [eX16]
    refine hK.out _ _ HX16 (fun hHeld => ?_)
    clear hK h18 eX16
    obtain ⟨z20, ez20⟩ : ∃ z, X0.heap.size = z := ⟨_, rfl⟩
    rw [ez20] at b19
    try rw [ez20]
    clear ez20
    refine wpAnyH_ready (rs := [6]) (by kernel_rfl) (by simp) ?_
    refine AllReadyH.cons rfl (fun K hK => ?_) AllReadyH.nil
    go_simp
    refine (HN.out.1 X16).mono ?_
    rintro e X21 ⟨v22, rfl, F23⟩
    obtain ⟨a24, l25, c26, rfl⟩ := F23.form
    have b27 := F23.own.bs
    refine hK.out _ _ (hHeld.then_no F23.turn) (fun hHeld => ?_)
    clear hK
    have b28 := b19.turn_no F23.turn
    refine wpAnyH_ready (rs := [9]) (by kernel_rfl) (by simp) ?_
    refine AllReadyH.cons rfl (fun K hK => ?_) AllReadyH.nil
    go_simp
    refine (HN.out.2.1 X21).mono ?_
    rintro e X29 ⟨v30, rfl, F31⟩
    obtain ⟨a32, l33, c34, rfl⟩ := F31.form
    have b35 := F31.own.bs
    refine hK.out _ _ (hHeld.then_no F31.turn) (fun hHeld => ?_)
    clear hK
    have b36 := b28.turn_no F31.turn
    have b37 := b27.turn_no F31.turn
    refine wpAnyH_ready (rs := [12]) (by kernel_rfl) (by simp) ?_
    refine AllReadyH.cons rfl (fun K hK => ?_) AllReadyH.nil
    go_simp
    refine (HN.out.2.2.1 X29).mono ?_
    rintro e X38 ⟨v39, rfl, F40⟩
    obtain ⟨a41, l42, c43, rfl⟩ := F40.form
    have b44 := F40.own.bs
    refine hK.out _ _ (hHeld.then_no F40.turn) (fun hHeld => ?_)
    clear hK
    have b45 := b36.turn_no F40.turn
    have b46 := b37.turn_no F40.turn
    have b47 := b35.turn_no F40.turn
    refine wpAnyH_ready (rs := [15]) (by kernel_rfl) (by simp) ?_
    refine AllReadyH.cons rfl (fun K hK => ?_) AllReadyH.nil
    go_simp
    refine (HN.out.2.2.2.1 X38).mono ?_
    rintro e X48 ⟨v49, rfl, F50⟩
    obtain ⟨a51, l52, c53, rfl⟩ := F50.form
    have b54 := F50.own.bs
    refine hK.out _ _ (hHeld.then_no F50.turn) (fun hHeld => ?_)
    clear hK
    have b55 := b45.turn_no F50.turn
    have b56 := b46.turn_no F50.turn
    have b57 := b47.turn_no F50.turn
    have b58 := b44.turn_no F50.turn
    refine wpAnyH_ready (rs := [18]) (by kernel_rfl) (by simp) ?_
    refine AllReadyH.cons rfl (fun K hK => ?_) AllReadyH.nil
    go_simp
    refine (HN.out.2.2.2.2 X48).mono ?_
    rintro e X59 ⟨v60, rfl, F61⟩
    obtain ⟨a62, l63, c64, rfl⟩ := F61.form
    have b65 := F61.own.bs
    refine hK.out _ _ (hHeld.then_no F61.turn) (fun hHeld => ?_)
    clear hK
    have b66 := b55.turn_no F61.turn
    have b67 := b56.turn_no F61.turn
    have b68 := b57.turn_no F61.turn
    have b69 := b58.turn_no F61.turn
    have b70 := b54.turn_no F61.turn
    refine wpAnyH_ready (rs := [22]) (by kernel_rfl) (by simp) ?_
    refine AllReadyH.cons rfl (fun K hK => ?_) AllReadyH.nil
    go_simp
    refine (sealed80 X59 SE.toArray).mono ?_
    rintro e X71 ⟨rfl, T72⟩
    have b73 : Bs X71 (.slice none 0 0) [] := Or.inl ⟨rfl, rfl⟩
    refine hK.out _ _ (hHeld.then_no T72) (fun hHeld => ?_)
    clear hK
    have b74 := b66.turn_no T72
    have b75 := b67.turn_no T72
    have b76 := b68.turn_no T72
    have b77 := b69.turn_no T72
    have b78 := b70.turn_no T72
    have b79 := b65.turn_no T72
    refine wpAnyH_ready (rs := [23]) (by kernel_rfl) (by simp) ?_
    refine AllReadyH.cons rfl (fun K hK => ?_) AllReadyH.nil
    go_simp
    have R82 := Row.new X71 #[.slice (some ⟨z20, 0, none⟩) 1 1, .slice a24 l25 c26, .slice a32 l33 c34, .slice a41 l42 c43, .slice a51 l52 c53, .slice a62 l63 c64, .slice none 0 0] 36
    have T81 : Turn no X71 (World.alloc X71 (.cells #[.slice (some ⟨z20, 0, none⟩) 1 1, .slice a24 l25 c26, .slice a32 l33 c34, .slice a41 l42 c43, .slice a51 l52 c53, .slice a62 l63 c64, .slice none 0 0] 36)) := (Turn.refl no X71).alloc _
    have J := join78 (World.alloc X71 (.cells #[.slice (some ⟨z20, 0, none⟩) 1 1, .slice a24 l25 c26, .slice a32 l33 c34, .slice a41 l42 c43, .slice a51 l52 c53, .slice a62 l63 c64, .slice none 0 0] 36)) X71.heap.size 7 [(.slice (some ⟨z20, 0, none⟩) 1 1, [b0]), (.slice a24 l25 c26, varE fr), (.slice a32 l33 c34, varE tt), (.slice a41 l42 c43, varE am), (.slice a51 l52 c53, varE fe), (.slice a62 l63 c64, varE nn), (.slice none 0 0, [])] (by
      intro j x hx
      match j, hx with
      | 0, hx => simp at hx; subst hx; exact ⟨R82.cell 0 _ rfl, b74.turn_no T81⟩
      | 1, hx => simp at hx; subst hx; exact ⟨R82.cell 1 _ rfl, b75.turn_no T81⟩
      | 2, hx => simp at hx; subst hx; exact ⟨R82.cell 2 _ rfl, b76.turn_no T81⟩
      | 3, hx => simp at hx; subst hx; exact ⟨R82.cell 3 _ rfl, b77.turn_no T81⟩
      | 4, hx => simp at hx; subst hx; exact ⟨R82.cell 4 _ rfl, b78.turn_no T81⟩
      | 5, hx => simp at hx; subst hx; exact ⟨R82.cell 5 _ rfl, b79.turn_no T81⟩
      | 6, hx => simp at hx; subst hx; exact ⟨R82.cell 6 _ rfl, b73.turn_no T81⟩
      | n + 7, hx => simp at hx) (by simp) (by simp [catL]; omega)
    refine hK.out _ _ (hHeld.then_no T81) (fun hHeld => ?_)
    clear hK
    refine wpAnyH_ready (rs := [24]) (by kernel_rfl) (by simp) ?_
    refine AllReadyH.cons rfl (fun K hK => ?_) AllReadyH.nil
    go_simp
    refine J.mono ?_
    rintro e X88 ⟨v83, rfl, F84⟩
    obtain ⟨a85, l86, c87, rfl⟩ := F84.form
    have hT := hHeld.then_no F84.turn
    refine hK.out _ _ hT (fun hHeld => ?_)
    clear hK J
    refine wpAnyH_ready (rs := [25]) (by kernel_rfl) (by simp) ?_
    refine AllReadyH.cons rfl (fun K hK => ?_) AllReadyH.nil
    go_simp
    refine hK.out _ _ hHeld (fun hHeld => ?_)
    clear hK
    refine wpAnyH_done (by kernel_rfl) ?_ _
    go_simp
    go_wp2_with fail
    go_ret
    exact ⟨_, rfl, by simpa [catL, txB'] using F84.own, fun g hg => fin_new t0 (by assumption) T81 F84 g hg, t0.then_no hHeld⟩
  · skip
    go_simp
    refine (HN.out.1 X0).mono ?_
    rintro e X89 ⟨v90, rfl, F91⟩
    obtain ⟨a92, l93, c94, rfl⟩ := F91.form
    have b95 := F91.own.bs
    refine hK.out _ _ (hHeld.then_no F91.turn) (fun hHeld => ?_)
    clear hK
    refine wpAnyH_ready (rs := [3, 9]) (by kernel_rfl) (by simp) ?_
    refine AllReadyH.cons rfl (fun K hK => ?_) (AllReadyH.cons rfl (fun K hK => ?_) AllReadyH.nil)
    · skip
      go_simp
      have h98 := fr_one X89 b0
      obtain ⟨X96, eX96⟩ : ∃ X, World.alloc X89 (.cells #[.int .u8 b0.toNat] 5) = X := ⟨_, rfl⟩
      have T97 : Turn no X89 X96 := by rw [← eX96]; exact (Turn.refl no X89).alloc _
      have b99 : Bs X96 (.slice (some ⟨X89.heap.size, 0, none⟩) 1 1) [b0] := by rw [← eX96]; exact h98.own.bs
      have HX96 := hHeld.then_no T97
      try rw [eX96]
      refine hK.out _ _ HX96 (fun hHeld => ?_)
      clear hK h98 eX96
      have b100 := b95.turn_no T97
      obtain ⟨z101, ez101⟩ : ∃ z, X89.heap.size = z := ⟨_, rfl⟩
      rw [ez101] at b99
      try rw [ez101]
      clear ez101
      refine wpAnyH_ready (rs := [9]) (by kernel_rfl) (by simp) ?_
      refine AllReadyH.cons rfl (fun K hK => ?_) AllReadyH.nil
      go_simp
      refine (HN.out.2.1 X96).mono ?_
      rintro e X102 ⟨v103, rfl, F104⟩
      obtain ⟨a105, l106, c107, rfl⟩ := F104.form
      have b108 := F104.own.bs
      refine hK.out _ _ (hHeld.then_no F104.turn) (fun hHeld => ?_)
      clear hK
      have b109 := b100.turn_no F104.turn
      have b110 := b99.turn_no F104.turn
      refine wpAnyH_ready (rs := [12]) (by kernel_rfl) (by simp) ?_
      refine AllReadyH.cons rfl (fun K hK => ?_) AllReadyH.nil
      go_simp
      refine (HN.out.2.2.1 X102).mono ?_
      rintro e X111 ⟨v112, rfl, F113⟩
      obtain ⟨a114, l115, c116, rfl⟩ := F113.form
      have b117 := F113.own.bs
      refine hK.out _ _ (hHeld.then_no F113.turn) (fun hHeld => ?_)
      clear hK
      have b118 := b109.turn_no F113.turn
      have b119 := b110.turn_no F113.turn
      have b120 := b108.turn_no F113.turn
      refine wpAnyH_ready (rs := [15]) (by kernel_rfl) (by simp) ?_
      refine AllReadyH.cons rfl (fun K hK => ?_) AllReadyH.nil
      go_simp
      refine (HN.out.2.2.2.1 X111).mono ?_
      rintro e X121 ⟨v122, rfl, F123⟩
      obtain ⟨a124, l125, c126, rfl⟩ := F123.form
      have b127 := F123.own.bs
      refine hK.out _ _ (hHeld.then_no F123.turn) (fun hHeld => ?_)
      clear hK
      have b128 := b118.turn_no F123.turn
      have b129 := b119.turn_no F123.turn
      have b130 := b120.turn_no F123.turn
      have b131 := b117.turn_no F123.turn
      refine wpAnyH_ready (rs := [18]) (by kernel_rfl) (by simp) ?_
      refine AllReadyH.cons rfl (fun K hK => ?_) AllReadyH.nil
      go_simp
      refine (HN.out.2.2.2.2 X121).mono ?_
      rintro e X132 ⟨v133, rfl, F134⟩
      obtain ⟨a135, l136, c137, rfl⟩ := F134.form
      have b138 := F134.own.bs
      refine hK.out _ _ (hHeld.then_no F134.turn) (fun hHeld => ?_)
      clear hK
      have b139 := b128.turn_no F134.turn
      have b140 := b129.turn_no F134.turn
      have b141 := b130.turn_no F134.turn
      have b142 := b131.turn_no F134.turn
      have b143 := b127.turn_no F134.turn
      refine wpAnyH_ready (rs := [22]) (by kernel_rfl) (by simp) ?_
      refine AllReadyH.cons rfl (fun K hK => ?_) AllReadyH.nil
      go_simp
      refine (sealed80 X132 SE.toArray).mono ?_
      rintro e X144 ⟨rfl, T145⟩
      have b146 : Bs X144 (.slice none 0 0) [] := Or.inl ⟨rfl, rfl⟩
      refine hK.out _ _ (hHeld.then_no T145) (fun hHeld => ?_)
      clear hK
      have b147 := b139.turn_no T145
      have b148 := b140.turn_no T145
      have b149 := b141.turn_no T145
      have b150 := b142.turn_no T145
      have b151 := b143.turn_no T145
      have b152 := b138.turn_no T145
      refine wpAnyH_ready (rs := [23]) (by kernel_rfl) (by simp) ?_
      refine AllReadyH.cons rfl (fun K hK => ?_) AllReadyH.nil
      go_simp
      have R155 := Row.new X144 #[.slice (some ⟨z101, 0, none⟩) 1 1, .slice a92 l93 c94, .slice a105 l106 c107, .slice a114 l115 c116, .slice a124 l125 c126, .slice a135 l136 c137, .slice none 0 0] 36
      have T154 : Turn no X144 (World.alloc X144 (.cells #[.slice (some ⟨z101, 0, none⟩) 1 1, .slice a92 l93 c94, .slice a105 l106 c107, .slice a114 l115 c116, .slice a124 l125 c126, .slice a135 l136 c137, .slice none 0 0] 36)) := (Turn.refl no X144).alloc _
      have J := join78 (World.alloc X144 (.cells #[.slice (some ⟨z101, 0, none⟩) 1 1, .slice a92 l93 c94, .slice a105 l106 c107, .slice a114 l115 c116, .slice a124 l125 c126, .slice a135 l136 c137, .slice none 0 0] 36)) X144.heap.size 7 [(.slice (some ⟨z101, 0, none⟩) 1 1, [b0]), (.slice a92 l93 c94, varE fr), (.slice a105 l106 c107, varE tt), (.slice a114 l115 c116, varE am), (.slice a124 l125 c126, varE fe), (.slice a135 l136 c137, varE nn), (.slice none 0 0, [])] (by
        intro j x hx
        match j, hx with
        | 0, hx => simp at hx; subst hx; exact ⟨R155.cell 0 _ rfl, b148.turn_no T154⟩
        | 1, hx => simp at hx; subst hx; exact ⟨R155.cell 1 _ rfl, b147.turn_no T154⟩
        | 2, hx => simp at hx; subst hx; exact ⟨R155.cell 2 _ rfl, b149.turn_no T154⟩
        | 3, hx => simp at hx; subst hx; exact ⟨R155.cell 3 _ rfl, b150.turn_no T154⟩
        | 4, hx => simp at hx; subst hx; exact ⟨R155.cell 4 _ rfl, b151.turn_no T154⟩
        | 5, hx => simp at hx; subst hx; exact ⟨R155.cell 5 _ rfl, b152.turn_no T154⟩
        | 6, hx => simp at hx; subst hx; exact ⟨R155.cell 6 _ rfl, b146.turn_no T154⟩
        | n + 7, hx => simp at hx) (by simp) (by simp [catL]; omega)
      refine hK.out _ _ (hHeld.then_no T154) (fun hHeld => ?_)
      clear hK
      refine wpAnyH_ready (rs := [24]) (by kernel_rfl) (by simp) ?_
      refine AllReadyH.cons rfl (fun K hK => ?_) AllReadyH.nil
      go_simp
      refine J.mono ?_
      rintro e X161 ⟨v156, rfl, F157⟩
      obtain ⟨a158, l159, c160, rfl⟩ := F157.form
      have hT := hHeld.then_no F157.turn
      refine hK.out _ _ hT (fun hHeld => ?_)
      clear hK J
      refine wpAnyH_ready (rs := [25]) (by kernel_rfl) (by simp) ?_
      refine AllReadyH.cons rfl (fun K hK => ?_) AllReadyH.nil
      go_simp
      refine hK.out _ _ hHeld (fun hHeld => ?_)
      clear hK
      refine wpAnyH_done (by kernel_rfl) ?_ _
      go_simp
      go_wp2_with fail
      go_ret
      exact ⟨_, rfl, by simpa [catL, txB'] using F157.own, fun g hg => fin_new t0 (by assumption) T154 F157 g hg, t0.then_no hHeld⟩
    · skip
      go_simp
      refine (HN.out.2.1 X89).mono ?_
      rintro e X162 ⟨v163, rfl, F164⟩
      obtain ⟨a165, l166, c167, rfl⟩ := F164.form
      have b168 := F164.own.bs
      refine hK.out _ _ (hHeld.then_no F164.turn) (fun hHeld => ?_)
      clear hK
      have b169 := b95.turn_no F164.turn
      refine wpAnyH_ready (rs := [3, 12]) (by kernel_rfl) (by simp) ?_
      refine AllReadyH.cons rfl (fun K hK => ?_) (AllReadyH.cons rfl (fun K hK => ?_) AllReadyH.nil)
      · skip
        go_simp
        have h172 := fr_one X162 b0
        obtain ⟨X170, eX170⟩ : ∃ X, World.alloc X162 (.cells #[.int .u8 b0.toNat] 5) = X := ⟨_, rfl⟩
        have T171 : Turn no X162 X170 := by rw [← eX170]; exact (Turn.refl no X162).alloc _
        have b173 : Bs X170 (.slice (some ⟨X162.heap.size, 0, none⟩) 1 1) [b0] := by rw [← eX170]; exact h172.own.bs
        have HX170 := hHeld.then_no T171
        try rw [eX170]
        refine hK.out _ _ HX170 (fun hHeld => ?_)
        clear hK h172 eX170
        have b174 := b169.turn_no T171
        have b175 := b168.turn_no T171
        obtain ⟨z176, ez176⟩ : ∃ z, X162.heap.size = z := ⟨_, rfl⟩
        rw [ez176] at b173
        try rw [ez176]
        clear ez176
        refine wpAnyH_ready (rs := [12]) (by kernel_rfl) (by simp) ?_
        refine AllReadyH.cons rfl (fun K hK => ?_) AllReadyH.nil
        go_simp
        refine (HN.out.2.2.1 X170).mono ?_
        rintro e X177 ⟨v178, rfl, F179⟩
        obtain ⟨a180, l181, c182, rfl⟩ := F179.form
        have b183 := F179.own.bs
        refine hK.out _ _ (hHeld.then_no F179.turn) (fun hHeld => ?_)
        clear hK
        have b184 := b174.turn_no F179.turn
        have b185 := b175.turn_no F179.turn
        have b186 := b173.turn_no F179.turn
        refine wpAnyH_ready (rs := [15]) (by kernel_rfl) (by simp) ?_
        refine AllReadyH.cons rfl (fun K hK => ?_) AllReadyH.nil
        go_simp
        refine (HN.out.2.2.2.1 X177).mono ?_
        rintro e X187 ⟨v188, rfl, F189⟩
        obtain ⟨a190, l191, c192, rfl⟩ := F189.form
        have b193 := F189.own.bs
        refine hK.out _ _ (hHeld.then_no F189.turn) (fun hHeld => ?_)
        clear hK
        have b194 := b184.turn_no F189.turn
        have b195 := b185.turn_no F189.turn
        have b196 := b186.turn_no F189.turn
        have b197 := b183.turn_no F189.turn
        refine wpAnyH_ready (rs := [18]) (by kernel_rfl) (by simp) ?_
        refine AllReadyH.cons rfl (fun K hK => ?_) AllReadyH.nil
        go_simp
        refine (HN.out.2.2.2.2 X187).mono ?_
        rintro e X198 ⟨v199, rfl, F200⟩
        obtain ⟨a201, l202, c203, rfl⟩ := F200.form
        have b204 := F200.own.bs
        refine hK.out _ _ (hHeld.then_no F200.turn) (fun hHeld => ?_)
        clear hK
        have b205 := b194.turn_no F200.turn
        have b206 := b195.turn_no F200.turn
        have b207 := b196.turn_no F200.turn
        have b208 := b197.turn_no F200.turn
        have b209 := b193.turn_no F200.turn
        refine wpAnyH_ready (rs := [22]) (by kernel_rfl) (by simp) ?_
        refine AllReadyH.cons rfl (fun K hK => ?_) AllReadyH.nil
        go_simp
        refine (sealed80 X198 SE.toArray).mono ?_
        rintro e X210 ⟨rfl, T211⟩
        have b212 : Bs X210 (.slice none 0 0) [] := Or.inl ⟨rfl, rfl⟩
        refine hK.out _ _ (hHeld.then_no T211) (fun hHeld => ?_)
        clear hK
        have b213 := b205.turn_no T211
        have b214 := b206.turn_no T211
        have b215 := b207.turn_no T211
        have b216 := b208.turn_no T211
        have b217 := b209.turn_no T211
        have b218 := b204.turn_no T211
        refine wpAnyH_ready (rs := [23]) (by kernel_rfl) (by simp) ?_
        refine AllReadyH.cons rfl (fun K hK => ?_) AllReadyH.nil
        go_simp
        have R221 := Row.new X210 #[.slice (some ⟨z176, 0, none⟩) 1 1, .slice a92 l93 c94, .slice a165 l166 c167, .slice a180 l181 c182, .slice a190 l191 c192, .slice a201 l202 c203, .slice none 0 0] 36
        have T220 : Turn no X210 (World.alloc X210 (.cells #[.slice (some ⟨z176, 0, none⟩) 1 1, .slice a92 l93 c94, .slice a165 l166 c167, .slice a180 l181 c182, .slice a190 l191 c192, .slice a201 l202 c203, .slice none 0 0] 36)) := (Turn.refl no X210).alloc _
        have J := join78 (World.alloc X210 (.cells #[.slice (some ⟨z176, 0, none⟩) 1 1, .slice a92 l93 c94, .slice a165 l166 c167, .slice a180 l181 c182, .slice a190 l191 c192, .slice a201 l202 c203, .slice none 0 0] 36)) X210.heap.size 7 [(.slice (some ⟨z176, 0, none⟩) 1 1, [b0]), (.slice a92 l93 c94, varE fr), (.slice a165 l166 c167, varE tt), (.slice a180 l181 c182, varE am), (.slice a190 l191 c192, varE fe), (.slice a201 l202 c203, varE nn), (.slice none 0 0, [])] (by
          intro j x hx
          match j, hx with
          | 0, hx => simp at hx; subst hx; exact ⟨R221.cell 0 _ rfl, b215.turn_no T220⟩
          | 1, hx => simp at hx; subst hx; exact ⟨R221.cell 1 _ rfl, b213.turn_no T220⟩
          | 2, hx => simp at hx; subst hx; exact ⟨R221.cell 2 _ rfl, b214.turn_no T220⟩
          | 3, hx => simp at hx; subst hx; exact ⟨R221.cell 3 _ rfl, b216.turn_no T220⟩
          | 4, hx => simp at hx; subst hx; exact ⟨R221.cell 4 _ rfl, b217.turn_no T220⟩
          | 5, hx => simp at hx; subst hx; exact ⟨R221.cell 5 _ rfl, b218.turn_no T220⟩
          | 6, hx => simp at hx; subst hx; exact ⟨R221.cell 6 _ rfl, b212.turn_no T220⟩
          | n + 7, hx => simp at hx) (by simp) (by simp [catL]; omega)
        refine hK.out _ _ (hHeld.then_no T220) (fun hHeld => ?_)
        clear hK
        refine wpAnyH_ready (rs := [24]) (by kernel_rfl) (by simp) ?_
        refine AllReadyH.cons rfl (fun K hK => ?_) AllReadyH.nil
        go_simp
        refine J.mono ?_
        rintro e X227 ⟨v222, rfl, F223⟩
        obtain ⟨a224, l225, c226, rfl⟩ := F223.form
        have hT := hHeld.then_no F223.turn
        refine hK.out _ _ hT (fun hHeld => ?_)
        clear hK J
        refine wpAnyH_ready (rs := [25]) (by kernel_rfl) (by simp) ?_
        refine AllReadyH.cons rfl (fun K hK => ?_) AllReadyH.nil
        go_simp
        refine hK.out _ _ hHeld (fun hHeld => ?_)
        clear hK
        refine wpAnyH_done (by kernel_rfl) ?_ _
        go_simp
        go_wp2_with fail
        go_ret
        exact ⟨_, rfl, by simpa [catL, txB'] using F223.own, fun g hg => fin_new t0 (by assumption) T220 F223 g hg, t0.then_no hHeld⟩
      · skip
        go_simp
        refine (HN.out.2.2.1 X162).mono ?_
        rintro e X228 ⟨v229, rfl, F230⟩
        obtain ⟨a231, l232, c233, rfl⟩ := F230.form
        have b234 := F230.own.bs
        refine hK.out _ _ (hHeld.then_no F230.turn) (fun hHeld => ?_)
        clear hK
        have b235 := b169.turn_no F230.turn
        have b236 := b168.turn_no F230.turn
        refine wpAnyH_ready (rs := [3, 15]) (by kernel_rfl) (by simp) ?_
        refine AllReadyH.cons rfl (fun K hK => ?_) (AllReadyH.cons rfl (fun K hK => ?_) AllReadyH.nil)
        · skip
          go_simp
          have h239 := fr_one X228 b0
          obtain ⟨X237, eX237⟩ : ∃ X, World.alloc X228 (.cells #[.int .u8 b0.toNat] 5) = X := ⟨_, rfl⟩
          have T238 : Turn no X228 X237 := by rw [← eX237]; exact (Turn.refl no X228).alloc _
          have b240 : Bs X237 (.slice (some ⟨X228.heap.size, 0, none⟩) 1 1) [b0] := by rw [← eX237]; exact h239.own.bs
          have HX237 := hHeld.then_no T238
          try rw [eX237]
          refine hK.out _ _ HX237 (fun hHeld => ?_)
          clear hK h239 eX237
          have b241 := b235.turn_no T238
          have b242 := b236.turn_no T238
          have b243 := b234.turn_no T238
          obtain ⟨z244, ez244⟩ : ∃ z, X228.heap.size = z := ⟨_, rfl⟩
          rw [ez244] at b240
          try rw [ez244]
          clear ez244
          refine wpAnyH_ready (rs := [15]) (by kernel_rfl) (by simp) ?_
          refine AllReadyH.cons rfl (fun K hK => ?_) AllReadyH.nil
          go_simp
          refine (HN.out.2.2.2.1 X237).mono ?_
          rintro e X245 ⟨v246, rfl, F247⟩
          obtain ⟨a248, l249, c250, rfl⟩ := F247.form
          have b251 := F247.own.bs
          refine hK.out _ _ (hHeld.then_no F247.turn) (fun hHeld => ?_)
          clear hK
          have b252 := b241.turn_no F247.turn
          have b253 := b242.turn_no F247.turn
          have b254 := b243.turn_no F247.turn
          have b255 := b240.turn_no F247.turn
          refine wpAnyH_ready (rs := [18]) (by kernel_rfl) (by simp) ?_
          refine AllReadyH.cons rfl (fun K hK => ?_) AllReadyH.nil
          go_simp
          refine (HN.out.2.2.2.2 X245).mono ?_
          rintro e X256 ⟨v257, rfl, F258⟩
          obtain ⟨a259, l260, c261, rfl⟩ := F258.form
          have b262 := F258.own.bs
          refine hK.out _ _ (hHeld.then_no F258.turn) (fun hHeld => ?_)
          clear hK
          have b263 := b252.turn_no F258.turn
          have b264 := b253.turn_no F258.turn
          have b265 := b254.turn_no F258.turn
          have b266 := b255.turn_no F258.turn
          have b267 := b251.turn_no F258.turn
          refine wpAnyH_ready (rs := [22]) (by kernel_rfl) (by simp) ?_
          refine AllReadyH.cons rfl (fun K hK => ?_) AllReadyH.nil
          go_simp
          refine (sealed80 X256 SE.toArray).mono ?_
          rintro e X268 ⟨rfl, T269⟩
          have b270 : Bs X268 (.slice none 0 0) [] := Or.inl ⟨rfl, rfl⟩
          refine hK.out _ _ (hHeld.then_no T269) (fun hHeld => ?_)
          clear hK
          have b271 := b263.turn_no T269
          have b272 := b264.turn_no T269
          have b273 := b265.turn_no T269
          have b274 := b266.turn_no T269
          have b275 := b267.turn_no T269
          have b276 := b262.turn_no T269
          refine wpAnyH_ready (rs := [23]) (by kernel_rfl) (by simp) ?_
          refine AllReadyH.cons rfl (fun K hK => ?_) AllReadyH.nil
          go_simp
          have R279 := Row.new X268 #[.slice (some ⟨z244, 0, none⟩) 1 1, .slice a92 l93 c94, .slice a165 l166 c167, .slice a231 l232 c233, .slice a248 l249 c250, .slice a259 l260 c261, .slice none 0 0] 36
          have T278 : Turn no X268 (World.alloc X268 (.cells #[.slice (some ⟨z244, 0, none⟩) 1 1, .slice a92 l93 c94, .slice a165 l166 c167, .slice a231 l232 c233, .slice a248 l249 c250, .slice a259 l260 c261, .slice none 0 0] 36)) := (Turn.refl no X268).alloc _
          have J := join78 (World.alloc X268 (.cells #[.slice (some ⟨z244, 0, none⟩) 1 1, .slice a92 l93 c94, .slice a165 l166 c167, .slice a231 l232 c233, .slice a248 l249 c250, .slice a259 l260 c261, .slice none 0 0] 36)) X268.heap.size 7 [(.slice (some ⟨z244, 0, none⟩) 1 1, [b0]), (.slice a92 l93 c94, varE fr), (.slice a165 l166 c167, varE tt), (.slice a231 l232 c233, varE am), (.slice a248 l249 c250, varE fe), (.slice a259 l260 c261, varE nn), (.slice none 0 0, [])] (by
            intro j x hx
            match j, hx with
            | 0, hx => simp at hx; subst hx; exact ⟨R279.cell 0 _ rfl, b274.turn_no T278⟩
            | 1, hx => simp at hx; subst hx; exact ⟨R279.cell 1 _ rfl, b271.turn_no T278⟩
            | 2, hx => simp at hx; subst hx; exact ⟨R279.cell 2 _ rfl, b272.turn_no T278⟩
            | 3, hx => simp at hx; subst hx; exact ⟨R279.cell 3 _ rfl, b273.turn_no T278⟩
            | 4, hx => simp at hx; subst hx; exact ⟨R279.cell 4 _ rfl, b275.turn_no T278⟩
            | 5, hx => simp at hx; subst hx; exact ⟨R279.cell 5 _ rfl, b276.turn_no T278⟩
            | 6, hx => simp at hx; subst hx; exact ⟨R279.cell 6 _ rfl, b270.turn_no T278⟩
            | n + 7, hx => simp at hx) (by simp) (by simp [catL]; omega)
          refine hK.out _ _ (hHeld.then_no T278) (fun hHeld => ?_)
          clear hK
          refine wpAnyH_ready (rs := [24]) (by kernel_rfl) (by simp) ?_
          refine AllReadyH.cons rfl (fun K hK => ?_) AllReadyH.nil
          go_simp
          refine J.mono ?_
          rintro e X285 ⟨v280, rfl, F281⟩
          obtain ⟨a282, l283, c284, rfl⟩ := F281.form
          have hT := hHeld.then_no F281.turn
          refine hK.out _ _ hT (fun hHeld => ?_)
          clear hK J
          refine wpAnyH_ready (rs := [25]) (by kernel_rfl) (by simp) ?_
          refine AllReadyH.cons rfl (fun K hK => ?_) AllReadyH.nil
          go_simp
          refine hK.out _ _ hHeld (fun hHeld => ?_)
          clear hK
          refine wpAnyH_done (by kernel_rfl) ?_ _
          go_simp
          go_wp2_with fail
          go_ret
          exact ⟨_, rfl, by simpa [catL, txB'] using F281.own, fun g hg => fin_new t0 (by assumption) T278 F281 g hg, t0.then_no hHeld⟩
        · skip
          go_simp
          refine (HN.out.2.2.2.1 X228).mono ?_
          rintro e X286 ⟨v287, rfl, F288⟩
          obtain ⟨a289, l290, c291, rfl⟩ := F288.form
          have b292 := F288.own.bs
          refine hK.out _ _ (hHeld.then_no F288.turn) (fun hHeld => ?_)
          clear hK
          have b293 := b235.turn_no F288.turn
          have b294 := b236.turn_no F288.turn
          have b295 := b234.turn_no F288.turn
          refine wpAnyH_ready (rs := [3, 18]) (by kernel_rfl) (by simp) ?_
          refine AllReadyH.cons rfl (fun K hK => ?_) (AllReadyH.cons rfl (fun K hK => ?_) AllReadyH.nil)
          · skip
            go_simp
            have h298 := fr_one X286 b0
            obtain ⟨X296, eX296⟩ : ∃ X, World.alloc X286 (.cells #[.int .u8 b0.toNat] 5) = X := ⟨_, rfl⟩
            have T297 : Turn no X286 X296 := by rw [← eX296]; exact (Turn.refl no X286).alloc _
            have b299 : Bs X296 (.slice (some ⟨X286.heap.size, 0, none⟩) 1 1) [b0] := by rw [← eX296]; exact h298.own.bs
            have HX296 := hHeld.then_no T297
            try rw [eX296]
            refine hK.out _ _ HX296 (fun hHeld => ?_)
            clear hK h298 eX296
            have b300 := b293.turn_no T297
            have b301 := b294.turn_no T297
            have b302 := b295.turn_no T297
            have b303 := b292.turn_no T297
            obtain ⟨z304, ez304⟩ : ∃ z, X286.heap.size = z := ⟨_, rfl⟩
            rw [ez304] at b299
            try rw [ez304]
            clear ez304
            refine wpAnyH_ready (rs := [18]) (by kernel_rfl) (by simp) ?_
            refine AllReadyH.cons rfl (fun K hK => ?_) AllReadyH.nil
            go_simp
            refine (HN.out.2.2.2.2 X296).mono ?_
            rintro e X305 ⟨v306, rfl, F307⟩
            obtain ⟨a308, l309, c310, rfl⟩ := F307.form
            have b311 := F307.own.bs
            refine hK.out _ _ (hHeld.then_no F307.turn) (fun hHeld => ?_)
            clear hK
            have b312 := b300.turn_no F307.turn
            have b313 := b301.turn_no F307.turn
            have b314 := b302.turn_no F307.turn
            have b315 := b303.turn_no F307.turn
            have b316 := b299.turn_no F307.turn
            refine wpAnyH_ready (rs := [22]) (by kernel_rfl) (by simp) ?_
            refine AllReadyH.cons rfl (fun K hK => ?_) AllReadyH.nil
            go_simp
            refine (sealed80 X305 SE.toArray).mono ?_
            rintro e X317 ⟨rfl, T318⟩
            have b319 : Bs X317 (.slice none 0 0) [] := Or.inl ⟨rfl, rfl⟩
            refine hK.out _ _ (hHeld.then_no T318) (fun hHeld => ?_)
            clear hK
            have b320 := b312.turn_no T318
            have b321 := b313.turn_no T318
            have b322 := b314.turn_no T318
            have b323 := b315.turn_no T318
            have b324 := b316.turn_no T318
            have b325 := b311.turn_no T318
            refine wpAnyH_ready (rs := [23]) (by kernel_rfl) (by simp) ?_
            refine AllReadyH.cons rfl (fun K hK => ?_) AllReadyH.nil
            go_simp
            have R328 := Row.new X317 #[.slice (some ⟨z304, 0, none⟩) 1 1, .slice a92 l93 c94, .slice a165 l166 c167, .slice a231 l232 c233, .slice a289 l290 c291, .slice a308 l309 c310, .slice none 0 0] 36
            have T327 : Turn no X317 (World.alloc X317 (.cells #[.slice (some ⟨z304, 0, none⟩) 1 1, .slice a92 l93 c94, .slice a165 l166 c167, .slice a231 l232 c233, .slice a289 l290 c291, .slice a308 l309 c310, .slice none 0 0] 36)) := (Turn.refl no X317).alloc _
            have J := join78 (World.alloc X317 (.cells #[.slice (some ⟨z304, 0, none⟩) 1 1, .slice a92 l93 c94, .slice a165 l166 c167, .slice a231 l232 c233, .slice a289 l290 c291, .slice a308 l309 c310, .slice none 0 0] 36)) X317.heap.size 7 [(.slice (some ⟨z304, 0, none⟩) 1 1, [b0]), (.slice a92 l93 c94, varE fr), (.slice a165 l166 c167, varE tt), (.slice a231 l232 c233, varE am), (.slice a289 l290 c291, varE fe), (.slice a308 l309 c310, varE nn), (.slice none 0 0, [])] (by
              intro j x hx
              match j, hx with
              | 0, hx => simp at hx; subst hx; exact ⟨R328.cell 0 _ rfl, b324.turn_no T327⟩
              | 1, hx => simp at hx; subst hx; exact ⟨R328.cell 1 _ rfl, b320.turn_no T327⟩
              | 2, hx => simp at hx; subst hx; exact ⟨R328.cell 2 _ rfl, b321.turn_no T327⟩
              | 3, hx => simp at hx; subst hx; exact ⟨R328.cell 3 _ rfl, b322.turn_no T327⟩
              | 4, hx => simp at hx; subst hx; exact ⟨R328.cell 4 _ rfl, b323.turn_no T327⟩
              | 5, hx => simp at hx; subst hx; exact ⟨R328.cell 5 _ rfl, b325.turn_no T327⟩
              | 6, hx => simp at hx; subst hx; exact ⟨R328.cell 6 _ rfl, b319.turn_no T327⟩
              | n + 7, hx => simp at hx) (by simp) (by simp [catL]; omega)
            refine hK.out _ _ (hHeld.then_no T327) (fun hHeld => ?_)
            clear hK
            refine wpAnyH_ready (rs := [24]) (by kernel_rfl) (by simp) ?_
            refine AllReadyH.cons rfl (fun K hK => ?_) AllReadyH.nil
            go_simp
            refine J.mono ?_
            rintro e X334 ⟨v329, rfl, F330⟩
            obtain ⟨a331, l332, c333, rfl⟩ := F330.form
            have hT := hHeld.then_no F330.turn
            refine hK.out _ _ hT (fun hHeld => ?_)
            clear hK J
            refine wpAnyH_ready (rs := [25]) (by kernel_rfl) (by simp) ?_
            refine AllReadyH.cons rfl (fun K hK => ?_) AllReadyH.nil
            go_simp
            refine hK.out _ _ hHeld (fun hHeld => ?_)
            clear hK
            refine wpAnyH_done (by kernel_rfl) ?_ _
            go_simp
            go_wp2_with fail
            go_ret
            exact ⟨_, rfl, by simpa [catL, txB'] using F330.own, fun g hg => fin_new t0 (by assumption) T327 F330 g hg, t0.then_no hHeld⟩
          · skip
            go_simp
            refine (HN.out.2.2.2.2 X286).mono ?_
            rintro e X335 ⟨v336, rfl, F337⟩
            obtain ⟨a338, l339, c340, rfl⟩ := F337.form
            have b341 := F337.own.bs
            refine hK.out _ _ (hHeld.then_no F337.turn) (fun hHeld => ?_)
            clear hK
            have b342 := b293.turn_no F337.turn
            have b343 := b294.turn_no F337.turn
            have b344 := b295.turn_no F337.turn
            have b345 := b292.turn_no F337.turn
            refine wpAnyH_ready (rs := [3, 22]) (by kernel_rfl) (by simp) ?_
            refine AllReadyH.cons rfl (fun K hK => ?_) (AllReadyH.cons rfl (fun K hK => ?_) AllReadyH.nil)
            · skip
              go_simp
              have h348 := fr_one X335 b0
              obtain ⟨X346, eX346⟩ : ∃ X, World.alloc X335 (.cells #[.int .u8 b0.toNat] 5) = X := ⟨_, rfl⟩
              have T347 : Turn no X335 X346 := by rw [← eX346]; exact (Turn.refl no X335).alloc _
              have b349 : Bs X346 (.slice (some ⟨X335.heap.size, 0, none⟩) 1 1) [b0] := by rw [← eX346]; exact h348.own.bs
              have HX346 := hHeld.then_no T347
              try rw [eX346]
              refine hK.out _ _ HX346 (fun hHeld => ?_)
              clear hK h348 eX346
              have b350 := b342.turn_no T347
              have b351 := b343.turn_no T347
              have b352 := b344.turn_no T347
              have b353 := b345.turn_no T347
              have b354 := b341.turn_no T347
              obtain ⟨z355, ez355⟩ : ∃ z, X335.heap.size = z := ⟨_, rfl⟩
              rw [ez355] at b349
              try rw [ez355]
              clear ez355
              refine wpAnyH_ready (rs := [22]) (by kernel_rfl) (by simp) ?_
              refine AllReadyH.cons rfl (fun K hK => ?_) AllReadyH.nil
              go_simp
              refine (sealed80 X346 SE.toArray).mono ?_
              rintro e X356 ⟨rfl, T357⟩
              have b358 : Bs X356 (.slice none 0 0) [] := Or.inl ⟨rfl, rfl⟩
              refine hK.out _ _ (hHeld.then_no T357) (fun hHeld => ?_)
              clear hK
              have b359 := b350.turn_no T357
              have b360 := b351.turn_no T357
              have b361 := b352.turn_no T357
              have b362 := b353.turn_no T357
              have b363 := b354.turn_no T357
              have b364 := b349.turn_no T357
              refine wpAnyH_ready (rs := [23]) (by kernel_rfl) (by simp) ?_
              refine AllReadyH.cons rfl (fun K hK => ?_) AllReadyH.nil
              go_simp
              have R367 := Row.new X356 #[.slice (some ⟨z355, 0, none⟩) 1 1, .slice a92 l93 c94, .slice a165 l166 c167, .slice a231 l232 c233, .slice a289 l290 c291, .slice a338 l339 c340, .slice none 0 0] 36
              have T366 : Turn no X356 (World.alloc X356 (.cells #[.slice (some ⟨z355, 0, none⟩) 1 1, .slice a92 l93 c94, .slice a165 l166 c167, .slice a231 l232 c233, .slice a289 l290 c291, .slice a338 l339 c340, .slice none 0 0] 36)) := (Turn.refl no X356).alloc _
              have J := join78 (World.alloc X356 (.cells #[.slice (some ⟨z355, 0, none⟩) 1 1, .slice a92 l93 c94, .slice a165 l166 c167, .slice a231 l232 c233, .slice a289 l290 c291, .slice a338 l339 c340, .slice none 0 0] 36)) X356.heap.size 7 [(.slice (some ⟨z355, 0, none⟩) 1 1, [b0]), (.slice a92 l93 c94, varE fr), (.slice a165 l166 c167, varE tt), (.slice a231 l232 c233, varE am), (.slice a289 l290 c291, varE fe), (.slice a338 l339 c340, varE nn), (.slice none 0 0, [])] (by
                intro j x hx
                match j, hx with
                | 0, hx => simp at hx; subst hx; exact ⟨R367.cell 0 _ rfl, b364.turn_no T366⟩
                | 1, hx => simp at hx; subst hx; exact ⟨R367.cell 1 _ rfl, b359.turn_no T366⟩
                | 2, hx => simp at hx; subst hx; exact ⟨R367.cell 2 _ rfl, b360.turn_no T366⟩
                | 3, hx => simp at hx; subst hx; exact ⟨R367.cell 3 _ rfl, b361.turn_no T366⟩
                | 4, hx => simp at hx; subst hx; exact ⟨R367.cell 4 _ rfl, b362.turn_no T366⟩
                | 5, hx => simp at hx; subst hx; exact ⟨R367.cell 5 _ rfl, b363.turn_no T366⟩
                | 6, hx => simp at hx; subst hx; exact ⟨R367.cell 6 _ rfl, b358.turn_no T366⟩
                | n + 7, hx => simp at hx) (by simp) (by simp [catL]; omega)
              refine hK.out _ _ (hHeld.then_no T366) (fun hHeld => ?_)
              clear hK
              refine wpAnyH_ready (rs := [24]) (by kernel_rfl) (by simp) ?_
              refine AllReadyH.cons rfl (fun K hK => ?_) AllReadyH.nil
              go_simp
              refine J.mono ?_
              rintro e X373 ⟨v368, rfl, F369⟩
              obtain ⟨a370, l371, c372, rfl⟩ := F369.form
              have hT := hHeld.then_no F369.turn
              refine hK.out _ _ hT (fun hHeld => ?_)
              clear hK J
              refine wpAnyH_ready (rs := [25]) (by kernel_rfl) (by simp) ?_
              refine AllReadyH.cons rfl (fun K hK => ?_) AllReadyH.nil
              go_simp
              refine hK.out _ _ hHeld (fun hHeld => ?_)
              clear hK
              refine wpAnyH_done (by kernel_rfl) ?_ _
              go_simp
              go_wp2_with fail
              go_ret
              exact ⟨_, rfl, by simpa [catL, txB'] using F369.own, fun g hg => fin_new t0 (by assumption) T366 F369 g hg, t0.then_no hHeld⟩
            · skip
              go_simp
              refine (sealed80 X335 SE.toArray).mono ?_
              rintro e X374 ⟨rfl, T375⟩
              have b376 : Bs X374 (.slice none 0 0) [] := Or.inl ⟨rfl, rfl⟩
              refine hK.out _ _ (hHeld.then_no T375) (fun hHeld => ?_)
              clear hK
              have b377 := b342.turn_no T375
              have b378 := b343.turn_no T375
              have b379 := b344.turn_no T375
              have b380 := b345.turn_no T375
              have b381 := b341.turn_no T375
              refine wpAnyH_ready (rs := [3]) (by kernel_rfl) (by simp) ?_
              refine AllReadyH.cons rfl (fun K hK => ?_) AllReadyH.nil
              go_simp
              have h384 := fr_one X374 b0
              obtain ⟨X382, eX382⟩ : ∃ X, World.alloc X374 (.cells #[.int .u8 b0.toNat] 5) = X := ⟨_, rfl⟩
              have T383 : Turn no X374 X382 := by rw [← eX382]; exact (Turn.refl no X374).alloc _
              have b385 : Bs X382 (.slice (some ⟨X374.heap.size, 0, none⟩) 1 1) [b0] := by rw [← eX382]; exact h384.own.bs
              have HX382 := hHeld.then_no T383
              try rw [eX382]
              refine hK.out _ _ HX382 (fun hHeld => ?_)
              clear hK h384 eX382
              have b386 := b377.turn_no T383
              have b387 := b378.turn_no T383
              have b388 := b379.turn_no T383
              have b389 := b380.turn_no T383
              have b390 := b381.turn_no T383
              have b391 := b376.turn_no T383
              obtain ⟨z392, ez392⟩ : ∃ z, X374.heap.size = z := ⟨_, rfl⟩
              rw [ez392] at b385
              try rw [ez392]
              clear ez392
              refine wpAnyH_ready (rs := [23]) (by kernel_rfl) (by simp) ?_
              refine AllReadyH.cons rfl (fun K hK => ?_) AllReadyH.nil
              go_simp
              have R395 := Row.new X382 #[.slice (some ⟨z392, 0, none⟩) 1 1, .slice a92 l93 c94, .slice a165 l166 c167, .slice a231 l232 c233, .slice a289 l290 c291, .slice a338 l339 c340, .slice none 0 0] 36
              have T394 : Turn no X382 (World.alloc X382 (.cells #[.slice (some ⟨z392, 0, none⟩) 1 1, .slice a92 l93 c94, .slice a165 l166 c167, .slice a231 l232 c233, .slice a289 l290 c291, .slice a338 l339 c340, .slice none 0 0] 36)) := (Turn.refl no X382).alloc _
              have J := join78 (World.alloc X382 (.cells #[.slice (some ⟨z392, 0, none⟩) 1 1, .slice a92 l93 c94, .slice a165 l166 c167, .slice a231 l232 c233, .slice a289 l290 c291, .slice a338 l339 c340, .slice none 0 0] 36)) X382.heap.size 7 [(.slice (some ⟨z392, 0, none⟩) 1 1, [b0]), (.slice a92 l93 c94, varE fr), (.slice a165 l166 c167, varE tt), (.slice a231 l232 c233, varE am), (.slice a289 l290 c291, varE fe), (.slice a338 l339 c340, varE nn), (.slice none 0 0, [])] (by
                intro j x hx
                match j, hx with
                | 0, hx => simp at hx; subst hx; exact ⟨R395.cell 0 _ rfl, b385.turn_no T394⟩
                | 1, hx => simp at hx; subst hx; exact ⟨R395.cell 1 _ rfl, b386.turn_no T394⟩
                | 2, hx => simp at hx; subst hx; exact ⟨R395.cell 2 _ rfl, b387.turn_no T394⟩
                | 3, hx => simp at hx; subst hx; exact ⟨R395.cell 3 _ rfl, b388.turn_no T394⟩
                | 4, hx => simp at hx; subst hx; exact ⟨R395.cell 4 _ rfl, b389.turn_no T394⟩
                | 5, hx => simp at hx; subst hx; exact ⟨R395.cell 5 _ rfl, b390.turn_no T394⟩
                | 6, hx => simp at hx; subst hx; exact ⟨R395.cell 6 _ rfl, b391.turn_no T394⟩
                | n + 7, hx => simp at hx) (by simp) (by simp [catL]; omega)
              refine hK.out _ _ (hHeld.then_no T394) (fun hHeld => ?_)
              clear hK
              refine wpAnyH_ready (rs := [24]) (by kernel_rfl) (by simp) ?_
              refine AllReadyH.cons rfl (fun K hK => ?_) AllReadyH.nil
              go_simp
              refine J.mono ?_
              rintro e X401 ⟨v396, rfl, F397⟩
              obtain ⟨a398, l399, c400, rfl⟩ := F397.form
              have hT := hHeld.then_no F397.turn
              refine hK.out _ _ hT (fun hHeld => ?_)
              clear hK J
              refine wpAnyH_ready (rs := [25]) (by kernel_rfl) (by simp) ?_
              refine AllReadyH.cons rfl (fun K hK => ?_) AllReadyH.nil
              go_simp
              refine hK.out _ _ hHeld (fun hHeld => ?_)
              clear hK
              refine wpAnyH_done (by kernel_rfl) ?_ _
              go_simp
              go_wp2_with fail
              go_ret
              exact ⟨_, rfl, by simpa [catL, txB'] using F397.own, fun g hg => fin_new t0 (by assumption) T394 F397 g hg, t0.then_no hHeld⟩
end Go.Proofs.Ytpfjllkmaogafaa
