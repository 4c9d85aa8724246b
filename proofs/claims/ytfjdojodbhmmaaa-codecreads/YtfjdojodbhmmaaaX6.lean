/- holds: is every answer as its holder left it? -/
import Derived.Test.YtfjdojodbhmmaaaX5
namespace Go.Proofs.Ytfjdojodbhmmaaa
open Go.RowKit
set_option linter.unusedVariables false

theorem same_q (W : World) (va vb : Value) (xs : List UInt8) (n x : Nat) (h1 : Bs W va xs) (h2 : Bs W vb xs) : Calls Try.prog 12 #[va, vb] (W.drewN (n + x)) fun e w' => e = .returned (.bool true) ∧ ∃ m, w' = W.drewN (n + m) :=
  (same_any _ va vb xs xs (h1.turn_no ((Turn.refl no W).drewN _)) (h2.turn_no ((Turn.refl no W).drewN _))).mono (fun _ _ ⟨q1, m, q2⟩ => ⟨by rw [q1]; simp, x + m, by rw [q2]; simp [Nat.add_assoc]⟩)
theorem gro_get1 (X : List UInt8) (m : UInt8) (j : Nat) (b : UInt8) (h : X[j]? = some b) : (gro X m)[j]? = some (b ^^^ m) := by
  have hj : j < X.length := (List.getElem?_eq_some_iff.1 h).1
  unfold gro
  rw [List.getElem?_append_left (by simpa using hj), List.getElem?_map, h]
  rfl
theorem gro_get2 (X : List UInt8) (m : UInt8) (j : Nat) (h : X.length ≤ j) (h2 : j < X.length + 40) : (gro X m)[j]? = some m := by
  unfold gro
  rw [List.getElem?_append_right (by simpa using h), List.getElem?_replicate, if_pos (by simp; omega)]
set_option maxRecDepth 100000 in
set_option maxHeartbeats 4000000 in
theorem holds25 (w : World) (p : Nat) (vg vw vn vm : Value) (Es : List En) (h : Kb w p ⟨vg, vw, vn, vm⟩ Es) (hE : Es.length + 1 ≤ 5864062014805) (hW : ∀ x ∈ Es, x.W.length ≤ 140737488355328) :
    Calls Try.prog 25 #[.pointer (some ⟨p, 0, none⟩)] w fun e w' => e = .returned (.bool true) ∧ Turn no w w' := by
  have c0 : w.cell? ⟨p, 0, none⟩ = some vg := by rw [cell_of_row w p 0 _ 58 (0, 0) h.blk]; rfl
  have c1 : w.cell? ⟨p, 1, none⟩ = some vw := by rw [cell_of_row w p 1 _ 58 (0, 0) h.blk]; rfl
  have c2 : w.cell? ⟨p, 2, none⟩ = some vn := by rw [cell_of_row w p 2 _ 58 (0, 0) h.blk]; rfl
  have c3 : w.cell? ⟨p, 3, none⟩ = some vm := by rw [cell_of_row w p 3 _ 58 (0, 0) h.blk]; rfl
  obtain ⟨ag, cg, hvg, hag⟩ := h.og.len
  obtain ⟨aw, cw, hvw, haw⟩ := h.ow.len
  obtain ⟨an, cn, hvn, han⟩ := h.on.len
  obtain ⟨am, cm, hvm, ham⟩ := h.om.len
  simp only [List.length_map] at hvg hvw hvn hvm hag haw han ham
  have hvg' : vg = .slice ag Es.length cg := hvg
  have hvw' : vw = .slice aw Es.length cw := hvw
  have hvn' : vn = .slice an Es.length cn := hvn
  have hvm' : vm = .slice am Es.length cm := hvm
  subst hvg' hvw' hvn' hvm'
  clear hvg hvw hvn hvm
  obtain ⟨L, hL⟩ : ∃ L, Es.length = L := ⟨_, rfl⟩
  rw [hL] at hE hag haw han ham c0 c1 c2 c3
  have Hh := shutX (And.intro h (And.intro hL hW))
  clear h hL hW
  go_enter Try.func25, Try.ntmps25
  go_wp2_with fail
  go_loopw [3] (fun c wr => ∃ i n : Nat, i ≤ L ∧ c = .int .i64 i ∧ wr = w.drewN n) (fun c _ => L - (intOf c).toNat)
  case atStart => exact ⟨0, 0, Nat.zero_le _, rfl, rfl⟩
  case round =>
    obtain ⟨i, n, hi, rfl, rfl⟩ := hrel
    by_cases hlt : i < L
    · have hlt' : (i : Int) < (L : Int) := by omega
      obtain ⟨gg, rfl⟩ := hag (by omega)
      obtain ⟨gw, rfl⟩ := haw (by omega)
      obtain ⟨gn, rfl⟩ := han (by omega)
      obtain ⟨gm, rfl⟩ := ham (by omega)
      obtain ⟨x, hx⟩ : ∃ x, Es[i]? = some x := ⟨Es[i]'(by rw [Hh.out.2.1]; exact hlt), List.getElem?_eq_getElem _⟩
      have hxm : x ∈ Es := List.mem_of_getElem? hx
      have hh := Hh.out.1
      rw [Hh.out.2.1] at hh
      have xg : w.cell? ⟨gg, i, none⟩ = some x.g := hh.og.cell i _ (by simp [hx])
      have xw : w.cell? ⟨gw, i, none⟩ = some x.w := hh.ow.cell i _ (by simp [hx])
      have xn : w.cell? ⟨gn, i, none⟩ = some x.n := hh.on.cell i _ (by simp [hx])
      have xm : w.cell? ⟨gm, i, none⟩ = some (.int .u8 x.m.toNat) := hh.om.cell i _ (by simp [hx, bv])
      obtain ⟨b1, b2, b3⟩ := hh.each x hxm
      have hXl := Hh.out.2.2 x hxm
      have sq := fun k y => same_q w x.g x.w x.W k y b1 b2
      obtain ⟨xag, xcg, hxg⟩ := b1.slice
      obtain ⟨xaw, xcw, hxw⟩ := b2.slice
      obtain ⟨xan, xcn, hxn⟩ := b3.slice
      rw [gro_len] at hxn
      have HB := shutX (And.intro b1 (And.intro b2 b3))
      rw [hxg] at xg sq
      rw [hxw] at xw sq
      rw [hxn] at xn
      obtain ⟨K, hK⟩ : ∃ K, x.W.length = K := ⟨_, rfl⟩
      rw [hK] at xg xw xn sq hXl
      obtain ⟨K4, hK4⟩ : ∃ K4, K + 40 = K4 := ⟨_, rfl⟩
      rw [hK4] at xn
      have hKK : (K : Int) + 40 = (K4 : Int) := by omega
      have Hx := shutX (And.intro hxg (And.intro hxw (And.intro hxn (And.intro hK hK4))))
      have Hq := shutX sq
      have hK42 : K4 ≤ 140737488355368 := by omega
      clear hh b1 b2 b3 hxg hxw hxn hK hx hxm hag haw han ham sq hK4
      go_upto_region 4 with fail
      go_quiet ((first | (go_at_call 12; exact Hq.out _ _)))
      go_wp2_with fail
      go_loopw [4] (fun c wr => ∃ j m : Nat, j ≤ K4 ∧ c = .int .i64 j ∧ wr = w.drewN m) (fun c _ => K4 - (intOf c).toNat)
      case atStart => exact ⟨0, n + nq, Nat.zero_le _, rfl, by simp⟩
      case round =>
        obtain ⟨j, m, hj, rfl, rfl⟩ := hrel
        by_cases hlj : j < K4
        · have hlj' : (j : Int) < (K4 : Int) := by omega
          have e1 := Hx.out
          obtain ⟨ga, oa, rfl⟩ : ∃ g o, xan = some ⟨g, o, none⟩ := by
            have b3 := HB.out.2.2
            rw [e1.2.2.1] at b3
            obtain ⟨g, o, cap, hv, _⟩ := b3.at (by rw [gro_len, e1.2.2.2.1]; omega)
            simp at hv
            exact ⟨g, o, hv.1⟩
          by_cases hjk : j < K
          · have hjk' : (j : Int) < (K : Int) := by omega
            obtain ⟨b, hb⟩ : ∃ b, x.W[j]? = some b := ⟨x.W[j]'(by rw [e1.2.2.2.1]; exact hjk), List.getElem?_eq_getElem _⟩
            obtain ⟨gb, ob, rfl⟩ : ∃ g o, xaw = some ⟨g, o, none⟩ := by
              have b2 := HB.out.2.1
              rw [e1.2.1] at b2
              obtain ⟨g, o, cap, hv, _⟩ := b2.at (by rw [e1.2.2.2.1]; omega)
              simp at hv
              exact ⟨g, o, hv.1⟩
            have y1 : w.cell? ⟨ga, oa + j, none⟩ = some (.int .u8 (b ^^^ x.m).toNat) := by
              have b3 := HB.out.2.2
              rw [e1.2.2.1] at b3
              obtain ⟨g, o, cap, hv, _, hc⟩ := b3.at (by rw [gro_len, e1.2.2.2.1]; omega)
              simp at hv
              obtain ⟨⟨rfl, rfl⟩, _⟩ := hv
              have := hc j (by rw [gro_len, e1.2.2.2.1]; omega)
              rw [List.getD_eq_getElem?_getD, gro_get1 x.W x.m j b hb] at this
              exact this
            have y2 : w.cell? ⟨gb, ob + j, none⟩ = some (.int .u8 b.toNat) := by
              have b2 := HB.out.2.1
              rw [e1.2.1] at b2
              obtain ⟨g, o, cap, hv, _, hc⟩ := b2.at (by rw [e1.2.2.2.1]; omega)
              simp at hv
              obtain ⟨⟨rfl, rfl⟩, _⟩ := hv
              have := hc j (by rw [e1.2.2.2.1]; omega)
              rw [List.getD_eq_getElem?_getD, hb] at this
              exact this
            have hxx := xor8 b x.m
            have hnx : (((b ^^^ x.m).toNat : Int) != ((b ^^^ x.m).toNat : Int)) = false := by simp
            clear hb e1
            generalize (b ^^^ x.m).toNat = y at *
            have hge : ¬ (K : Int) ≤ (j : Int) := by omega
            have hd1 : decide ((j : Int) < (K : Int)) = true := by simpa using hjk'
            have hd2 : decide ((K : Int) ≤ (j : Int)) = false := by simpa using hge
            have HNN := shutX (And.intro hi (And.intro hlt (And.intro hj hlj)))
            have hjb : Shut ((j : Int) ≤ 140737488355368) := shutX (by omega)
            go_upto_region 9 with fail
            clear hi hlt hj hlj hjk hXl hKK hK42 hE c0 xg
            refine wp_region_noPanic ?_
            refine wp_region_held_drew (S := fun W => ∃ q, W = w.drewN q) (by kernel_rfl) ⟨m + 1, by simp⟩ (fun hHeld => ?_)
            refine' wpAnyH_take (i := 0) (v := .int .i64 j) rfl (by kernel_rfl) (by kernel_rfl) (by kernel_rfl) (fun _ _ _ h => h) (Or.inl ⟨by kernel_rfl, fun W hW => ?ya0⟩) hHeld ?ra0
            · obtain ⟨q, rfl⟩ := hW
              go_simp
            refine' wpAnyH_take (i := 1) (v := .pointer (some ⟨p, 0, none⟩)) rfl (by kernel_rfl) (by kernel_rfl) (by kernel_rfl) (fun _ _ _ h => h) (Or.inl ⟨by kernel_rfl, fun W hW => ?ya1⟩) hHeld ?ra1
            · obtain ⟨q, rfl⟩ := hW
              go_simp
            refine' wpAnyH_take (i := 2) (v := .pointer (some ⟨p, 0, none⟩)) rfl (by kernel_rfl) (by kernel_rfl) (by kernel_rfl) (fun _ _ _ h => h) (Or.inl ⟨by kernel_rfl, fun W hW => ?ya2⟩) hHeld ?ra2
            · obtain ⟨q, rfl⟩ := hW
              go_simp
            refine' wpAnyH_take (i := 3) (v := .pointer (some ⟨p, 1, none⟩)) rfl (by kernel_rfl) (by kernel_rfl) (by kernel_rfl) (fun _ _ _ h => h) (Or.inl ⟨by kernel_rfl, fun W hW => ?ya3⟩) hHeld ?ra3
            · obtain ⟨q, rfl⟩ := hW
              go_simp
            refine' wpAnyH_take (i := 4) (v := .slice (some ⟨gw, 0, none⟩) L cw) rfl (by kernel_rfl) (by kernel_rfl) (by kernel_rfl) (fun _ _ _ h => h) (Or.inl ⟨by kernel_rfl, fun W hW => ?ya4⟩) hHeld ?ra4
            · obtain ⟨q, rfl⟩ := hW
              go_simp
            refine' wpAnyH_take (i := 5) (v := .int .i64 i) rfl (by kernel_rfl) (by kernel_rfl) (by kernel_rfl) (fun _ _ _ h => h) (Or.inl ⟨by kernel_rfl, fun W hW => ?ya5⟩) hHeld ?ra5
            · obtain ⟨q, rfl⟩ := hW
              go_simp
            refine' wpAnyH_take (i := 6) (v := .pointer (some ⟨gw, i, none⟩)) rfl (by kernel_rfl) (by kernel_rfl) (by kernel_rfl) (fun _ _ _ h => h) (Or.inl ⟨by kernel_rfl, fun W hW => ?ya6⟩) hHeld ?ra6
            · obtain ⟨q, rfl⟩ := hW
              go_simp
            refine' wpAnyH_take (i := 7) (v := .slice (some ⟨gb, ob, none⟩) K xcw) rfl (by kernel_rfl) (by kernel_rfl) (by kernel_rfl) (fun _ _ _ h => h) (Or.inl ⟨by kernel_rfl, fun W hW => ?ya7⟩) hHeld ?ra7
            · obtain ⟨q, rfl⟩ := hW
              go_simp
            refine' wpAnyH_take (i := 8) (v := .int .i64 K) rfl (by kernel_rfl) (by kernel_rfl) (by kernel_rfl) (fun _ _ _ h => h) (Or.inl ⟨by kernel_rfl, fun W hW => ?ya8⟩) hHeld ?ra8
            · obtain ⟨q, rfl⟩ := hW
              go_simp
            refine' wpAnyH_take (i := 9) (v := .bool true) rfl (by kernel_rfl) (by kernel_rfl) (by kernel_rfl) (fun _ _ _ h => h) (Or.inl ⟨by kernel_rfl, fun W hW => ?ya9⟩) hHeld ?ra9
            · obtain ⟨q, rfl⟩ := hW
              go_simp
            refine' wpAnyH_take (i := 10) (v := .bool true) rfl (by kernel_rfl) (by kernel_rfl) (by kernel_rfl) (fun _ _ _ h => h) (Or.inl ⟨by kernel_rfl, fun W hW => ?ya10⟩) hHeld ?ra10
            · obtain ⟨q, rfl⟩ := hW
              go_simp
            refine' wpAnyH_take (i := 11) (v := .pointer (some ⟨p, 0, none⟩)) rfl (by kernel_rfl) (by kernel_rfl) (by kernel_rfl) (fun _ _ _ h => h) (Or.inl ⟨by kernel_rfl, fun W hW => ?ya11⟩) hHeld ?ra11
            · obtain ⟨q, rfl⟩ := hW
              go_simp
            refine' wpAnyH_take (i := 12) (v := .pointer (some ⟨p, 0, none⟩)) rfl (by kernel_rfl) (by kernel_rfl) (by kernel_rfl) (fun _ _ _ h => h) (Or.inl ⟨by kernel_rfl, fun W hW => ?ya12⟩) hHeld ?ra12
            · obtain ⟨q, rfl⟩ := hW
              go_simp
            refine' wpAnyH_take (i := 13) (v := .pointer (some ⟨p, 2, none⟩)) rfl (by kernel_rfl) (by kernel_rfl) (by kernel_rfl) (fun _ _ _ h => h) (Or.inl ⟨by kernel_rfl, fun W hW => ?ya13⟩) hHeld ?ra13
            · obtain ⟨q, rfl⟩ := hW
              go_simp
            refine' wpAnyH_take (i := 14) (v := .slice (some ⟨gn, 0, none⟩) L cn) rfl (by kernel_rfl) (by kernel_rfl) (by kernel_rfl) (fun _ _ _ h => h) (Or.inl ⟨by kernel_rfl, fun W hW => ?ya14⟩) hHeld ?ra14
            · obtain ⟨q, rfl⟩ := hW
              go_simp
            refine' wpAnyH_take (i := 15) (v := .int .i64 i) rfl (by kernel_rfl) (by kernel_rfl) (by kernel_rfl) (fun _ _ _ h => h) (Or.inl ⟨by kernel_rfl, fun W hW => ?ya15⟩) hHeld ?ra15
            · obtain ⟨q, rfl⟩ := hW
              go_simp
            refine' wpAnyH_take (i := 16) (v := .pointer (some ⟨gn, i, none⟩)) rfl (by kernel_rfl) (by kernel_rfl) (by kernel_rfl) (fun _ _ _ h => h) (Or.inl ⟨by kernel_rfl, fun W hW => ?ya16⟩) hHeld ?ra16
            · obtain ⟨q, rfl⟩ := hW
              go_simp
            refine' wpAnyH_take (i := 17) (v := .slice (some ⟨ga, oa, none⟩) K4 xcn) rfl (by kernel_rfl) (by kernel_rfl) (by kernel_rfl) (fun _ _ _ h => h) (Or.inl ⟨by kernel_rfl, fun W hW => ?ya17⟩) hHeld ?ra17
            · obtain ⟨q, rfl⟩ := hW
              go_simp
            refine' wpAnyH_take (i := 18) (v := .int .i64 j) rfl (by kernel_rfl) (by kernel_rfl) (by kernel_rfl) (fun _ _ _ h => h) (Or.inl ⟨by kernel_rfl, fun W hW => ?ya18⟩) hHeld ?ra18
            · obtain ⟨q, rfl⟩ := hW
              go_simp
            refine' wpAnyH_take (i := 19) (v := .pointer (some ⟨ga, oa + j, none⟩)) rfl (by kernel_rfl) (by kernel_rfl) (by kernel_rfl) (fun _ _ _ h => h) (Or.inl ⟨by kernel_rfl, fun W hW => ?ya19⟩) hHeld ?ra19
            · obtain ⟨q, rfl⟩ := hW
              go_simp
            refine' wpAnyH_take (i := 20) (v := .int .u8 y) rfl (by kernel_rfl) (by kernel_rfl) (by kernel_rfl) (fun _ _ _ h => h) (Or.inl ⟨by kernel_rfl, fun W hW => ?ya20⟩) hHeld ?ra20
            · obtain ⟨q, rfl⟩ := hW
              go_simp
            refine' wpAnyH_take (i := 21) (v := .pointer (some ⟨p, 0, none⟩)) rfl (by kernel_rfl) (by kernel_rfl) (by kernel_rfl) (fun _ _ _ h => h) (Or.inl ⟨by kernel_rfl, fun W hW => ?ya21⟩) hHeld ?ra21
            · obtain ⟨q, rfl⟩ := hW
              go_simp
            refine' wpAnyH_take (i := 22) (v := .pointer (some ⟨p, 0, none⟩)) rfl (by kernel_rfl) (by kernel_rfl) (by kernel_rfl) (fun _ _ _ h => h) (Or.inl ⟨by kernel_rfl, fun W hW => ?ya22⟩) hHeld ?ra22
            · obtain ⟨q, rfl⟩ := hW
              go_simp
            refine' wpAnyH_take (i := 23) (v := .pointer (some ⟨p, 1, none⟩)) rfl (by kernel_rfl) (by kernel_rfl) (by kernel_rfl) (fun _ _ _ h => h) (Or.inl ⟨by kernel_rfl, fun W hW => ?ya23⟩) hHeld ?ra23
            · obtain ⟨q, rfl⟩ := hW
              go_simp
            refine' wpAnyH_take (i := 24) (v := .slice (some ⟨gw, 0, none⟩) L cw) rfl (by kernel_rfl) (by kernel_rfl) (by kernel_rfl) (fun _ _ _ h => h) (Or.inl ⟨by kernel_rfl, fun W hW => ?ya24⟩) hHeld ?ra24
            · obtain ⟨q, rfl⟩ := hW
              go_simp
            refine' wpAnyH_take (i := 25) (v := .int .i64 i) rfl (by kernel_rfl) (by kernel_rfl) (by kernel_rfl) (fun _ _ _ h => h) (Or.inl ⟨by kernel_rfl, fun W hW => ?ya25⟩) hHeld ?ra25
            · obtain ⟨q, rfl⟩ := hW
              go_simp
            refine' wpAnyH_take (i := 26) (v := .pointer (some ⟨gw, i, none⟩)) rfl (by kernel_rfl) (by kernel_rfl) (by kernel_rfl) (fun _ _ _ h => h) (Or.inl ⟨by kernel_rfl, fun W hW => ?ya26⟩) hHeld ?ra26
            · obtain ⟨q, rfl⟩ := hW
              go_simp
            refine' wpAnyH_take (i := 27) (v := .slice (some ⟨gb, ob, none⟩) K xcw) rfl (by kernel_rfl) (by kernel_rfl) (by kernel_rfl) (fun _ _ _ h => h) (Or.inl ⟨by kernel_rfl, fun W hW => ?ya27⟩) hHeld ?ra27
            · obtain ⟨q, rfl⟩ := hW
              go_simp
            refine' wpAnyH_take (i := 28) (v := .int .i64 j) rfl (by kernel_rfl) (by kernel_rfl) (by kernel_rfl) (fun _ _ _ h => h) (Or.inl ⟨by kernel_rfl, fun W hW => ?ya28⟩) hHeld ?ra28
            · obtain ⟨q, rfl⟩ := hW
              go_simp
            refine' wpAnyH_take (i := 29) (v := .pointer (some ⟨gb, ob + j, none⟩)) rfl (by kernel_rfl) (by kernel_rfl) (by kernel_rfl) (fun _ _ _ h => h) (Or.inl ⟨by kernel_rfl, fun W hW => ?ya29⟩) hHeld ?ra29
            · obtain ⟨q, rfl⟩ := hW
              go_simp
            refine' wpAnyH_take (i := 30) (v := .int .u8 b.toNat) rfl (by kernel_rfl) (by kernel_rfl) (by kernel_rfl) (fun _ _ _ h => h) (Or.inl ⟨by kernel_rfl, fun W hW => ?ya30⟩) hHeld ?ra30
            · obtain ⟨q, rfl⟩ := hW
              go_simp
            refine' wpAnyH_take (i := 31) (v := .pointer (some ⟨p, 0, none⟩)) rfl (by kernel_rfl) (by kernel_rfl) (by kernel_rfl) (fun _ _ _ h => h) (Or.inl ⟨by kernel_rfl, fun W hW => ?ya31⟩) hHeld ?ra31
            · obtain ⟨q, rfl⟩ := hW
              go_simp
            refine' wpAnyH_take (i := 32) (v := .pointer (some ⟨p, 0, none⟩)) rfl (by kernel_rfl) (by kernel_rfl) (by kernel_rfl) (fun _ _ _ h => h) (Or.inl ⟨by kernel_rfl, fun W hW => ?ya32⟩) hHeld ?ra32
            · obtain ⟨q, rfl⟩ := hW
              go_simp
            refine' wpAnyH_take (i := 33) (v := .pointer (some ⟨p, 3, none⟩)) rfl (by kernel_rfl) (by kernel_rfl) (by kernel_rfl) (fun _ _ _ h => h) (Or.inl ⟨by kernel_rfl, fun W hW => ?ya33⟩) hHeld ?ra33
            · obtain ⟨q, rfl⟩ := hW
              go_simp
            refine' wpAnyH_take (i := 34) (v := .slice (some ⟨gm, 0, none⟩) L cm) rfl (by kernel_rfl) (by kernel_rfl) (by kernel_rfl) (fun _ _ _ h => h) (Or.inl ⟨by kernel_rfl, fun W hW => ?ya34⟩) hHeld ?ra34
            · obtain ⟨q, rfl⟩ := hW
              go_simp
            refine' wpAnyH_take (i := 35) (v := .int .i64 i) rfl (by kernel_rfl) (by kernel_rfl) (by kernel_rfl) (fun _ _ _ h => h) (Or.inl ⟨by kernel_rfl, fun W hW => ?ya35⟩) hHeld ?ra35
            · obtain ⟨q, rfl⟩ := hW
              go_simp
            refine' wpAnyH_take (i := 36) (v := .pointer (some ⟨gm, i, none⟩)) rfl (by kernel_rfl) (by kernel_rfl) (by kernel_rfl) (fun _ _ _ h => h) (Or.inl ⟨by kernel_rfl, fun W hW => ?ya36⟩) hHeld ?ra36
            · obtain ⟨q, rfl⟩ := hW
              go_simp
            refine' wpAnyH_take (i := 37) (v := .int .u8 x.m.toNat) rfl (by kernel_rfl) (by kernel_rfl) (by kernel_rfl) (fun _ _ _ h => h) (Or.inl ⟨by kernel_rfl, fun W hW => ?ya37⟩) hHeld ?ra37
            · obtain ⟨q, rfl⟩ := hW
              go_simp
            refine' wpAnyH_take (i := 38) (v := .int .u8 y) rfl (by kernel_rfl) (by kernel_rfl) (by kernel_rfl) (fun _ _ _ h => h) (Or.inl ⟨by kernel_rfl, fun W hW => ?ya38⟩) hHeld ?ra38
            · obtain ⟨q, rfl⟩ := hW
              go_simp
            refine' wpAnyH_take (i := 39) (v := .bool false) rfl (by kernel_rfl) (by kernel_rfl) (by kernel_rfl) (fun _ _ _ h => h) (Or.inl ⟨by kernel_rfl, fun W hW => ?ya39⟩) hHeld ?ra39
            · obtain ⟨q, rfl⟩ := hW
              go_simp
            refine' wpAnyH_take (i := 40) (v := .bool false) rfl (by kernel_rfl) (by kernel_rfl) (by kernel_rfl) (fun _ _ _ h => h) (Or.inl ⟨by kernel_rfl, fun W hW => ?ya40⟩) hHeld ?ra40
            · obtain ⟨q, rfl⟩ := hW
              go_simp
            refine' wpAnyH_take (i := 41) (v := .bool false) rfl (by kernel_rfl) (by kernel_rfl) (by kernel_rfl) (fun _ _ _ h => h) (Or.inl ⟨by kernel_rfl, fun W hW => ?ya41⟩) hHeld ?ra41
            · obtain ⟨q, rfl⟩ := hW
              go_simp
            refine' wpAnyH_take (i := 42) (v := .int .i64 j) rfl (by kernel_rfl) (by kernel_rfl) (by kernel_rfl) (fun _ _ _ h => h) (Or.inl ⟨by kernel_rfl, fun W hW => ?ya42⟩) hHeld ?ra42
            · obtain ⟨q, rfl⟩ := hW
              go_simp
            refine' wpAnyH_take (i := 43) (v := .pointer (some ⟨p, 0, none⟩)) rfl (by kernel_rfl) (by kernel_rfl) (by kernel_rfl) (fun _ _ _ h => h) (Or.inl ⟨by kernel_rfl, fun W hW => ?ya43⟩) hHeld ?ra43
            · obtain ⟨q, rfl⟩ := hW
              go_simp
            refine' wpAnyH_take (i := 44) (v := .pointer (some ⟨p, 0, none⟩)) rfl (by kernel_rfl) (by kernel_rfl) (by kernel_rfl) (fun _ _ _ h => h) (Or.inl ⟨by kernel_rfl, fun W hW => ?ya44⟩) hHeld ?ra44
            · obtain ⟨q, rfl⟩ := hW
              go_simp
            refine' wpAnyH_take (i := 45) (v := .pointer (some ⟨p, 1, none⟩)) rfl (by kernel_rfl) (by kernel_rfl) (by kernel_rfl) (fun _ _ _ h => h) (Or.inl ⟨by kernel_rfl, fun W hW => ?ya45⟩) hHeld ?ra45
            · obtain ⟨q, rfl⟩ := hW
              go_simp
            refine' wpAnyH_take (i := 46) (v := .slice (some ⟨gw, 0, none⟩) L cw) rfl (by kernel_rfl) (by kernel_rfl) (by kernel_rfl) (fun _ _ _ h => h) (Or.inl ⟨by kernel_rfl, fun W hW => ?ya46⟩) hHeld ?ra46
            · obtain ⟨q, rfl⟩ := hW
              go_simp
            refine' wpAnyH_take (i := 47) (v := .int .i64 i) rfl (by kernel_rfl) (by kernel_rfl) (by kernel_rfl) (fun _ _ _ h => h) (Or.inl ⟨by kernel_rfl, fun W hW => ?ya47⟩) hHeld ?ra47
            · obtain ⟨q, rfl⟩ := hW
              go_simp
            refine' wpAnyH_take (i := 48) (v := .pointer (some ⟨gw, i, none⟩)) rfl (by kernel_rfl) (by kernel_rfl) (by kernel_rfl) (fun _ _ _ h => h) (Or.inl ⟨by kernel_rfl, fun W hW => ?ya48⟩) hHeld ?ra48
            · obtain ⟨q, rfl⟩ := hW
              go_simp
            refine' wpAnyH_take (i := 49) (v := .slice (some ⟨gb, ob, none⟩) K xcw) rfl (by kernel_rfl) (by kernel_rfl) (by kernel_rfl) (fun _ _ _ h => h) (Or.inl ⟨by kernel_rfl, fun W hW => ?ya49⟩) hHeld ?ra49
            · obtain ⟨q, rfl⟩ := hW
              go_simp
            refine' wpAnyH_take (i := 50) (v := .int .i64 K) rfl (by kernel_rfl) (by kernel_rfl) (by kernel_rfl) (fun _ _ _ h => h) (Or.inl ⟨by kernel_rfl, fun W hW => ?ya50⟩) hHeld ?ra50
            · obtain ⟨q, rfl⟩ := hW
              go_simp
            refine' wpAnyH_take (i := 51) (v := .bool false) rfl (by kernel_rfl) (by kernel_rfl) (by kernel_rfl) (fun _ _ _ h => h) (Or.inl ⟨by kernel_rfl, fun W hW => ?ya51⟩) hHeld ?ra51
            · obtain ⟨q, rfl⟩ := hW
              go_simp
            refine' wpAnyH_take (i := 52) (v := .bool false) rfl (by kernel_rfl) (by kernel_rfl) (by kernel_rfl) (fun _ _ _ h => h) (Or.inl ⟨by kernel_rfl, fun W hW => ?ya52⟩) hHeld ?ra52
            · obtain ⟨q, rfl⟩ := hW
              go_simp
            refine' wpAnyH_take (i := 53) (v := undef) rfl (by kernel_rfl) (by kernel_rfl) (by kernel_rfl) (fun _ _ _ h => h) (Or.inr ⟨by kernel_rfl, rfl⟩) hHeld ?ra53
            refine' wpAnyH_take (i := 54) (v := undef) rfl (by kernel_rfl) (by kernel_rfl) (by kernel_rfl) (fun _ _ _ h => h) (Or.inr ⟨by kernel_rfl, rfl⟩) hHeld ?ra54
            refine' wpAnyH_take (i := 55) (v := undef) rfl (by kernel_rfl) (by kernel_rfl) (by kernel_rfl) (fun _ _ _ h => h) (Or.inr ⟨by kernel_rfl, rfl⟩) hHeld ?ra55
            refine' wpAnyH_take (i := 56) (v := undef) rfl (by kernel_rfl) (by kernel_rfl) (by kernel_rfl) (fun _ _ _ h => h) (Or.inr ⟨by kernel_rfl, rfl⟩) hHeld ?ra56
            refine' wpAnyH_take (i := 57) (v := undef) rfl (by kernel_rfl) (by kernel_rfl) (by kernel_rfl) (fun _ _ _ h => h) (Or.inr ⟨by kernel_rfl, rfl⟩) hHeld ?ra57
            refine' wpAnyH_take (i := 58) (v := undef) rfl (by kernel_rfl) (by kernel_rfl) (by kernel_rfl) (fun _ _ _ h => h) (Or.inr ⟨by kernel_rfl, rfl⟩) hHeld ?ra58
            refine' wpAnyH_take (i := 59) (v := undef) rfl (by kernel_rfl) (by kernel_rfl) (by kernel_rfl) (fun _ _ _ h => h) (Or.inr ⟨by kernel_rfl, rfl⟩) hHeld ?ra59
            refine' wpAnyH_take (i := 60) (v := undef) rfl (by kernel_rfl) (by kernel_rfl) (by kernel_rfl) (fun _ _ _ h => h) (Or.inr ⟨by kernel_rfl, rfl⟩) hHeld ?ra60
            refine' wpAnyH_take (i := 61) (v := undef) rfl (by kernel_rfl) (by kernel_rfl) (by kernel_rfl) (fun _ _ _ h => h) (Or.inr ⟨by kernel_rfl, rfl⟩) hHeld ?ra61
            refine' wpAnyH_take (i := 62) (v := undef) rfl (by kernel_rfl) (by kernel_rfl) (by kernel_rfl) (fun _ _ _ h => h) (Or.inr ⟨by kernel_rfl, rfl⟩) hHeld ?ra62
            refine' wpAnyH_take (i := 63) (v := undef) rfl (by kernel_rfl) (by kernel_rfl) (by kernel_rfl) (fun _ _ _ h => h) (Or.inr ⟨by kernel_rfl, rfl⟩) hHeld ?ra63
            refine' wpAnyH_take (i := 64) (v := undef) rfl (by kernel_rfl) (by kernel_rfl) (by kernel_rfl) (fun _ _ _ h => h) (Or.inr ⟨by kernel_rfl, rfl⟩) hHeld ?ra64
            refine' wpAnyH_take (i := 65) (v := undef) rfl (by kernel_rfl) (by kernel_rfl) (by kernel_rfl) (fun _ _ _ h => h) (Or.inr ⟨by kernel_rfl, rfl⟩) hHeld ?ra65
            refine' wpAnyH_take (i := 66) (v := undef) rfl (by kernel_rfl) (by kernel_rfl) (by kernel_rfl) (fun _ _ _ h => h) (Or.inr ⟨by kernel_rfl, rfl⟩) hHeld ?ra66
            refine' wpAnyH_take (i := 67) (v := undef) rfl (by kernel_rfl) (by kernel_rfl) (by kernel_rfl) (fun _ _ _ h => h) (Or.inr ⟨by kernel_rfl, rfl⟩) hHeld ?ra67
            refine' wpAnyH_take (i := 68) (v := undef) rfl (by kernel_rfl) (by kernel_rfl) (by kernel_rfl) (fun _ _ _ h => h) (Or.inr ⟨by kernel_rfl, rfl⟩) hHeld ?ra68
            refine' wpAnyH_take (i := 69) (v := undef) rfl (by kernel_rfl) (by kernel_rfl) (by kernel_rfl) (fun _ _ _ h => h) (Or.inr ⟨by kernel_rfl, rfl⟩) hHeld ?ra69
            refine' wpAnyH_take (i := 70) (v := undef) rfl (by kernel_rfl) (by kernel_rfl) (by kernel_rfl) (fun _ _ _ h => h) (Or.inr ⟨by kernel_rfl, rfl⟩) hHeld ?ra70
            refine' wpAnyH_take (i := 71) (v := .bool false) rfl (by kernel_rfl) (by kernel_rfl) (by kernel_rfl) (fun _ _ _ h => h) (Or.inl ⟨by kernel_rfl, fun W hW => ?ya71⟩) hHeld ?ra71
            · obtain ⟨q, rfl⟩ := hW
              go_simp
            refine wpAnyH_ready (rs := [72]) (by kernel_rfl) (by simp) ?_
            refine AllReadyH.cons rfl (fun K' hK => ?_) AllReadyH.nil
            go_simp
            refine hK.out _ _ hHeld (fun hHeld => ?_)
            clear hK
            refine wpAnyH_done (by kernel_rfl) ?_ _
            refine NoPanic.normal ?_
            go_simp
            have hlj := HNN.out.2.2.2
            have hjb2 := hjb.out
            go_wp2_with fail
            go_roundw
            case rel => exact ⟨j + 1, m + 1, by have := HNN.out.2.2.2; omega, by go_num, by simp⟩
            case measure => have := HNN.out.2.2.2; simp [intOf]; omega
          · have hjk' : ¬ (j : Int) < (K : Int) := by omega
            have hge : (K : Int) ≤ (j : Int) := by omega
            have y1 : w.cell? ⟨ga, oa + j, none⟩ = some (.int .u8 x.m.toNat) := by
              have b3 := HB.out.2.2
              rw [e1.2.2.1] at b3
              obtain ⟨g, o, cap, hv, _, hc⟩ := b3.at (by rw [gro_len, e1.2.2.2.1]; omega)
              simp at hv
              obtain ⟨⟨rfl, rfl⟩, _⟩ := hv
              have := hc j (by rw [gro_len, e1.2.2.2.1]; omega)
              rw [List.getD_eq_getElem?_getD, gro_get2 x.W x.m j (by rw [e1.2.2.2.1]; omega) (by rw [e1.2.2.2.1]; omega)] at this
              exact this
            have hnx : ((x.m.toNat : Int) != (x.m.toNat : Int)) = false := by simp
            clear e1
            have hd1 : decide ((j : Int) < (K : Int)) = false := by simpa using hjk'
            have hd2 : decide ((K : Int) ≤ (j : Int)) = true := by simpa using hge
            generalize x.m.toNat = y at *
            have HNN := shutX (And.intro hi (And.intro hlt (And.intro hj hlj)))
            have hjb : Shut ((j : Int) ≤ 140737488355368) := shutX (by omega)
            go_upto_region 9 with fail
            clear hi hlt hj hlj hjk hXl hKK hK42 hE c0 xg
            refine wp_region_noPanic ?_
            refine wp_region_held_drew (S := fun W => ∃ q, W = w.drewN q) (by kernel_rfl) ⟨m + 1, by simp⟩ (fun hHeld => ?_)
            refine' wpAnyH_take (i := 0) (v := .int .i64 j) rfl (by kernel_rfl) (by kernel_rfl) (by kernel_rfl) (fun _ _ _ h => h) (Or.inl ⟨by kernel_rfl, fun W hW => ?yb0⟩) hHeld ?rb0
            · obtain ⟨q, rfl⟩ := hW
              go_simp
            refine' wpAnyH_take (i := 1) (v := .pointer (some ⟨p, 0, none⟩)) rfl (by kernel_rfl) (by kernel_rfl) (by kernel_rfl) (fun _ _ _ h => h) (Or.inl ⟨by kernel_rfl, fun W hW => ?yb1⟩) hHeld ?rb1
            · obtain ⟨q, rfl⟩ := hW
              go_simp
            refine' wpAnyH_take (i := 2) (v := .pointer (some ⟨p, 0, none⟩)) rfl (by kernel_rfl) (by kernel_rfl) (by kernel_rfl) (fun _ _ _ h => h) (Or.inl ⟨by kernel_rfl, fun W hW => ?yb2⟩) hHeld ?rb2
            · obtain ⟨q, rfl⟩ := hW
              go_simp
            refine' wpAnyH_take (i := 3) (v := .pointer (some ⟨p, 1, none⟩)) rfl (by kernel_rfl) (by kernel_rfl) (by kernel_rfl) (fun _ _ _ h => h) (Or.inl ⟨by kernel_rfl, fun W hW => ?yb3⟩) hHeld ?rb3
            · obtain ⟨q, rfl⟩ := hW
              go_simp
            refine' wpAnyH_take (i := 4) (v := .slice (some ⟨gw, 0, none⟩) L cw) rfl (by kernel_rfl) (by kernel_rfl) (by kernel_rfl) (fun _ _ _ h => h) (Or.inl ⟨by kernel_rfl, fun W hW => ?yb4⟩) hHeld ?rb4
            · obtain ⟨q, rfl⟩ := hW
              go_simp
            refine' wpAnyH_take (i := 5) (v := .int .i64 i) rfl (by kernel_rfl) (by kernel_rfl) (by kernel_rfl) (fun _ _ _ h => h) (Or.inl ⟨by kernel_rfl, fun W hW => ?yb5⟩) hHeld ?rb5
            · obtain ⟨q, rfl⟩ := hW
              go_simp
            refine' wpAnyH_take (i := 6) (v := .pointer (some ⟨gw, i, none⟩)) rfl (by kernel_rfl) (by kernel_rfl) (by kernel_rfl) (fun _ _ _ h => h) (Or.inl ⟨by kernel_rfl, fun W hW => ?yb6⟩) hHeld ?rb6
            · obtain ⟨q, rfl⟩ := hW
              go_simp
            refine' wpAnyH_take (i := 7) (v := .slice xaw K xcw) rfl (by kernel_rfl) (by kernel_rfl) (by kernel_rfl) (fun _ _ _ h => h) (Or.inl ⟨by kernel_rfl, fun W hW => ?yb7⟩) hHeld ?rb7
            · obtain ⟨q, rfl⟩ := hW
              go_simp
            refine' wpAnyH_take (i := 8) (v := .int .i64 K) rfl (by kernel_rfl) (by kernel_rfl) (by kernel_rfl) (fun _ _ _ h => h) (Or.inl ⟨by kernel_rfl, fun W hW => ?yb8⟩) hHeld ?rb8
            · obtain ⟨q, rfl⟩ := hW
              go_simp
            refine' wpAnyH_take (i := 9) (v := .bool false) rfl (by kernel_rfl) (by kernel_rfl) (by kernel_rfl) (fun _ _ _ h => h) (Or.inl ⟨by kernel_rfl, fun W hW => ?yb9⟩) hHeld ?rb9
            · obtain ⟨q, rfl⟩ := hW
              go_simp
            refine' wpAnyH_take (i := 10) (v := .bool false) rfl (by kernel_rfl) (by kernel_rfl) (by kernel_rfl) (fun _ _ _ h => h) (Or.inl ⟨by kernel_rfl, fun W hW => ?yb10⟩) hHeld ?rb10
            · obtain ⟨q, rfl⟩ := hW
              go_simp
            refine' wpAnyH_take (i := 11) (v := undef) rfl (by kernel_rfl) (by kernel_rfl) (by kernel_rfl) (fun _ _ _ h => h) (Or.inr ⟨by kernel_rfl, rfl⟩) hHeld ?rb11
            refine' wpAnyH_take (i := 12) (v := undef) rfl (by kernel_rfl) (by kernel_rfl) (by kernel_rfl) (fun _ _ _ h => h) (Or.inr ⟨by kernel_rfl, rfl⟩) hHeld ?rb12
            refine' wpAnyH_take (i := 13) (v := undef) rfl (by kernel_rfl) (by kernel_rfl) (by kernel_rfl) (fun _ _ _ h => h) (Or.inr ⟨by kernel_rfl, rfl⟩) hHeld ?rb13
            refine' wpAnyH_take (i := 14) (v := undef) rfl (by kernel_rfl) (by kernel_rfl) (by kernel_rfl) (fun _ _ _ h => h) (Or.inr ⟨by kernel_rfl, rfl⟩) hHeld ?rb14
            refine' wpAnyH_take (i := 15) (v := undef) rfl (by kernel_rfl) (by kernel_rfl) (by kernel_rfl) (fun _ _ _ h => h) (Or.inr ⟨by kernel_rfl, rfl⟩) hHeld ?rb15
            refine' wpAnyH_take (i := 16) (v := undef) rfl (by kernel_rfl) (by kernel_rfl) (by kernel_rfl) (fun _ _ _ h => h) (Or.inr ⟨by kernel_rfl, rfl⟩) hHeld ?rb16
            refine' wpAnyH_take (i := 17) (v := undef) rfl (by kernel_rfl) (by kernel_rfl) (by kernel_rfl) (fun _ _ _ h => h) (Or.inr ⟨by kernel_rfl, rfl⟩) hHeld ?rb17
            refine' wpAnyH_take (i := 18) (v := undef) rfl (by kernel_rfl) (by kernel_rfl) (by kernel_rfl) (fun _ _ _ h => h) (Or.inr ⟨by kernel_rfl, rfl⟩) hHeld ?rb18
            refine' wpAnyH_take (i := 19) (v := undef) rfl (by kernel_rfl) (by kernel_rfl) (by kernel_rfl) (fun _ _ _ h => h) (Or.inr ⟨by kernel_rfl, rfl⟩) hHeld ?rb19
            refine' wpAnyH_take (i := 20) (v := undef) rfl (by kernel_rfl) (by kernel_rfl) (by kernel_rfl) (fun _ _ _ h => h) (Or.inr ⟨by kernel_rfl, rfl⟩) hHeld ?rb20
            refine' wpAnyH_take (i := 21) (v := undef) rfl (by kernel_rfl) (by kernel_rfl) (by kernel_rfl) (fun _ _ _ h => h) (Or.inr ⟨by kernel_rfl, rfl⟩) hHeld ?rb21
            refine' wpAnyH_take (i := 22) (v := undef) rfl (by kernel_rfl) (by kernel_rfl) (by kernel_rfl) (fun _ _ _ h => h) (Or.inr ⟨by kernel_rfl, rfl⟩) hHeld ?rb22
            refine' wpAnyH_take (i := 23) (v := undef) rfl (by kernel_rfl) (by kernel_rfl) (by kernel_rfl) (fun _ _ _ h => h) (Or.inr ⟨by kernel_rfl, rfl⟩) hHeld ?rb23
            refine' wpAnyH_take (i := 24) (v := undef) rfl (by kernel_rfl) (by kernel_rfl) (by kernel_rfl) (fun _ _ _ h => h) (Or.inr ⟨by kernel_rfl, rfl⟩) hHeld ?rb24
            refine' wpAnyH_take (i := 25) (v := undef) rfl (by kernel_rfl) (by kernel_rfl) (by kernel_rfl) (fun _ _ _ h => h) (Or.inr ⟨by kernel_rfl, rfl⟩) hHeld ?rb25
            refine' wpAnyH_take (i := 26) (v := undef) rfl (by kernel_rfl) (by kernel_rfl) (by kernel_rfl) (fun _ _ _ h => h) (Or.inr ⟨by kernel_rfl, rfl⟩) hHeld ?rb26
            refine' wpAnyH_take (i := 27) (v := undef) rfl (by kernel_rfl) (by kernel_rfl) (by kernel_rfl) (fun _ _ _ h => h) (Or.inr ⟨by kernel_rfl, rfl⟩) hHeld ?rb27
            refine' wpAnyH_take (i := 28) (v := undef) rfl (by kernel_rfl) (by kernel_rfl) (by kernel_rfl) (fun _ _ _ h => h) (Or.inr ⟨by kernel_rfl, rfl⟩) hHeld ?rb28
            refine' wpAnyH_take (i := 29) (v := undef) rfl (by kernel_rfl) (by kernel_rfl) (by kernel_rfl) (fun _ _ _ h => h) (Or.inr ⟨by kernel_rfl, rfl⟩) hHeld ?rb29
            refine' wpAnyH_take (i := 30) (v := undef) rfl (by kernel_rfl) (by kernel_rfl) (by kernel_rfl) (fun _ _ _ h => h) (Or.inr ⟨by kernel_rfl, rfl⟩) hHeld ?rb30
            refine' wpAnyH_take (i := 31) (v := undef) rfl (by kernel_rfl) (by kernel_rfl) (by kernel_rfl) (fun _ _ _ h => h) (Or.inr ⟨by kernel_rfl, rfl⟩) hHeld ?rb31
            refine' wpAnyH_take (i := 32) (v := undef) rfl (by kernel_rfl) (by kernel_rfl) (by kernel_rfl) (fun _ _ _ h => h) (Or.inr ⟨by kernel_rfl, rfl⟩) hHeld ?rb32
            refine' wpAnyH_take (i := 33) (v := undef) rfl (by kernel_rfl) (by kernel_rfl) (by kernel_rfl) (fun _ _ _ h => h) (Or.inr ⟨by kernel_rfl, rfl⟩) hHeld ?rb33
            refine' wpAnyH_take (i := 34) (v := undef) rfl (by kernel_rfl) (by kernel_rfl) (by kernel_rfl) (fun _ _ _ h => h) (Or.inr ⟨by kernel_rfl, rfl⟩) hHeld ?rb34
            refine' wpAnyH_take (i := 35) (v := undef) rfl (by kernel_rfl) (by kernel_rfl) (by kernel_rfl) (fun _ _ _ h => h) (Or.inr ⟨by kernel_rfl, rfl⟩) hHeld ?rb35
            refine' wpAnyH_take (i := 36) (v := undef) rfl (by kernel_rfl) (by kernel_rfl) (by kernel_rfl) (fun _ _ _ h => h) (Or.inr ⟨by kernel_rfl, rfl⟩) hHeld ?rb36
            refine' wpAnyH_take (i := 37) (v := undef) rfl (by kernel_rfl) (by kernel_rfl) (by kernel_rfl) (fun _ _ _ h => h) (Or.inr ⟨by kernel_rfl, rfl⟩) hHeld ?rb37
            refine' wpAnyH_take (i := 38) (v := undef) rfl (by kernel_rfl) (by kernel_rfl) (by kernel_rfl) (fun _ _ _ h => h) (Or.inr ⟨by kernel_rfl, rfl⟩) hHeld ?rb38
            refine' wpAnyH_take (i := 39) (v := undef) rfl (by kernel_rfl) (by kernel_rfl) (by kernel_rfl) (fun _ _ _ h => h) (Or.inr ⟨by kernel_rfl, rfl⟩) hHeld ?rb39
            refine' wpAnyH_take (i := 40) (v := .bool false) rfl (by kernel_rfl) (by kernel_rfl) (by kernel_rfl) (fun _ _ _ h => h) (Or.inl ⟨by kernel_rfl, fun W hW => ?yb40⟩) hHeld ?rb40
            · obtain ⟨q, rfl⟩ := hW
              go_simp
            refine' wpAnyH_take (i := 41) (v := .bool false) rfl (by kernel_rfl) (by kernel_rfl) (by kernel_rfl) (fun _ _ _ h => h) (Or.inl ⟨by kernel_rfl, fun W hW => ?yb41⟩) hHeld ?rb41
            · obtain ⟨q, rfl⟩ := hW
              go_simp
            refine' wpAnyH_take (i := 42) (v := .int .i64 j) rfl (by kernel_rfl) (by kernel_rfl) (by kernel_rfl) (fun _ _ _ h => h) (Or.inl ⟨by kernel_rfl, fun W hW => ?yb42⟩) hHeld ?rb42
            · obtain ⟨q, rfl⟩ := hW
              go_simp
            refine' wpAnyH_take (i := 43) (v := .pointer (some ⟨p, 0, none⟩)) rfl (by kernel_rfl) (by kernel_rfl) (by kernel_rfl) (fun _ _ _ h => h) (Or.inl ⟨by kernel_rfl, fun W hW => ?yb43⟩) hHeld ?rb43
            · obtain ⟨q, rfl⟩ := hW
              go_simp
            refine' wpAnyH_take (i := 44) (v := .pointer (some ⟨p, 0, none⟩)) rfl (by kernel_rfl) (by kernel_rfl) (by kernel_rfl) (fun _ _ _ h => h) (Or.inl ⟨by kernel_rfl, fun W hW => ?yb44⟩) hHeld ?rb44
            · obtain ⟨q, rfl⟩ := hW
              go_simp
            refine' wpAnyH_take (i := 45) (v := .pointer (some ⟨p, 1, none⟩)) rfl (by kernel_rfl) (by kernel_rfl) (by kernel_rfl) (fun _ _ _ h => h) (Or.inl ⟨by kernel_rfl, fun W hW => ?yb45⟩) hHeld ?rb45
            · obtain ⟨q, rfl⟩ := hW
              go_simp
            refine' wpAnyH_take (i := 46) (v := .slice (some ⟨gw, 0, none⟩) L cw) rfl (by kernel_rfl) (by kernel_rfl) (by kernel_rfl) (fun _ _ _ h => h) (Or.inl ⟨by kernel_rfl, fun W hW => ?yb46⟩) hHeld ?rb46
            · obtain ⟨q, rfl⟩ := hW
              go_simp
            refine' wpAnyH_take (i := 47) (v := .int .i64 i) rfl (by kernel_rfl) (by kernel_rfl) (by kernel_rfl) (fun _ _ _ h => h) (Or.inl ⟨by kernel_rfl, fun W hW => ?yb47⟩) hHeld ?rb47
            · obtain ⟨q, rfl⟩ := hW
              go_simp
            refine' wpAnyH_take (i := 48) (v := .pointer (some ⟨gw, i, none⟩)) rfl (by kernel_rfl) (by kernel_rfl) (by kernel_rfl) (fun _ _ _ h => h) (Or.inl ⟨by kernel_rfl, fun W hW => ?yb48⟩) hHeld ?rb48
            · obtain ⟨q, rfl⟩ := hW
              go_simp
            refine' wpAnyH_take (i := 49) (v := .slice xaw K xcw) rfl (by kernel_rfl) (by kernel_rfl) (by kernel_rfl) (fun _ _ _ h => h) (Or.inl ⟨by kernel_rfl, fun W hW => ?yb49⟩) hHeld ?rb49
            · obtain ⟨q, rfl⟩ := hW
              go_simp
            refine' wpAnyH_take (i := 50) (v := .int .i64 K) rfl (by kernel_rfl) (by kernel_rfl) (by kernel_rfl) (fun _ _ _ h => h) (Or.inl ⟨by kernel_rfl, fun W hW => ?yb50⟩) hHeld ?rb50
            · obtain ⟨q, rfl⟩ := hW
              go_simp
            refine' wpAnyH_take (i := 51) (v := .bool true) rfl (by kernel_rfl) (by kernel_rfl) (by kernel_rfl) (fun _ _ _ h => h) (Or.inl ⟨by kernel_rfl, fun W hW => ?yb51⟩) hHeld ?rb51
            · obtain ⟨q, rfl⟩ := hW
              go_simp
            refine' wpAnyH_take (i := 52) (v := .bool true) rfl (by kernel_rfl) (by kernel_rfl) (by kernel_rfl) (fun _ _ _ h => h) (Or.inl ⟨by kernel_rfl, fun W hW => ?yb52⟩) hHeld ?rb52
            · obtain ⟨q, rfl⟩ := hW
              go_simp
            refine' wpAnyH_take (i := 53) (v := .pointer (some ⟨p, 0, none⟩)) rfl (by kernel_rfl) (by kernel_rfl) (by kernel_rfl) (fun _ _ _ h => h) (Or.inl ⟨by kernel_rfl, fun W hW => ?yb53⟩) hHeld ?rb53
            · obtain ⟨q, rfl⟩ := hW
              go_simp
            refine' wpAnyH_take (i := 54) (v := .pointer (some ⟨p, 0, none⟩)) rfl (by kernel_rfl) (by kernel_rfl) (by kernel_rfl) (fun _ _ _ h => h) (Or.inl ⟨by kernel_rfl, fun W hW => ?yb54⟩) hHeld ?rb54
            · obtain ⟨q, rfl⟩ := hW
              go_simp
            refine' wpAnyH_take (i := 55) (v := .pointer (some ⟨p, 2, none⟩)) rfl (by kernel_rfl) (by kernel_rfl) (by kernel_rfl) (fun _ _ _ h => h) (Or.inl ⟨by kernel_rfl, fun W hW => ?yb55⟩) hHeld ?rb55
            · obtain ⟨q, rfl⟩ := hW
              go_simp
            refine' wpAnyH_take (i := 56) (v := .slice (some ⟨gn, 0, none⟩) L cn) rfl (by kernel_rfl) (by kernel_rfl) (by kernel_rfl) (fun _ _ _ h => h) (Or.inl ⟨by kernel_rfl, fun W hW => ?yb56⟩) hHeld ?rb56
            · obtain ⟨q, rfl⟩ := hW
              go_simp
            refine' wpAnyH_take (i := 57) (v := .int .i64 i) rfl (by kernel_rfl) (by kernel_rfl) (by kernel_rfl) (fun _ _ _ h => h) (Or.inl ⟨by kernel_rfl, fun W hW => ?yb57⟩) hHeld ?rb57
            · obtain ⟨q, rfl⟩ := hW
              go_simp
            refine' wpAnyH_take (i := 58) (v := .pointer (some ⟨gn, i, none⟩)) rfl (by kernel_rfl) (by kernel_rfl) (by kernel_rfl) (fun _ _ _ h => h) (Or.inl ⟨by kernel_rfl, fun W hW => ?yb58⟩) hHeld ?rb58
            · obtain ⟨q, rfl⟩ := hW
              go_simp
            refine' wpAnyH_take (i := 59) (v := .slice (some ⟨ga, oa, none⟩) K4 xcn) rfl (by kernel_rfl) (by kernel_rfl) (by kernel_rfl) (fun _ _ _ h => h) (Or.inl ⟨by kernel_rfl, fun W hW => ?yb59⟩) hHeld ?rb59
            · obtain ⟨q, rfl⟩ := hW
              go_simp
            refine' wpAnyH_take (i := 60) (v := .int .i64 j) rfl (by kernel_rfl) (by kernel_rfl) (by kernel_rfl) (fun _ _ _ h => h) (Or.inl ⟨by kernel_rfl, fun W hW => ?yb60⟩) hHeld ?rb60
            · obtain ⟨q, rfl⟩ := hW
              go_simp
            refine' wpAnyH_take (i := 61) (v := .pointer (some ⟨ga, oa + j, none⟩)) rfl (by kernel_rfl) (by kernel_rfl) (by kernel_rfl) (fun _ _ _ h => h) (Or.inl ⟨by kernel_rfl, fun W hW => ?yb61⟩) hHeld ?rb61
            · obtain ⟨q, rfl⟩ := hW
              go_simp
            refine' wpAnyH_take (i := 62) (v := .int .u8 y) rfl (by kernel_rfl) (by kernel_rfl) (by kernel_rfl) (fun _ _ _ h => h) (Or.inl ⟨by kernel_rfl, fun W hW => ?yb62⟩) hHeld ?rb62
            · obtain ⟨q, rfl⟩ := hW
              go_simp
            refine' wpAnyH_take (i := 63) (v := .pointer (some ⟨p, 0, none⟩)) rfl (by kernel_rfl) (by kernel_rfl) (by kernel_rfl) (fun _ _ _ h => h) (Or.inl ⟨by kernel_rfl, fun W hW => ?yb63⟩) hHeld ?rb63
            · obtain ⟨q, rfl⟩ := hW
              go_simp
            refine' wpAnyH_take (i := 64) (v := .pointer (some ⟨p, 0, none⟩)) rfl (by kernel_rfl) (by kernel_rfl) (by kernel_rfl) (fun _ _ _ h => h) (Or.inl ⟨by kernel_rfl, fun W hW => ?yb64⟩) hHeld ?rb64
            · obtain ⟨q, rfl⟩ := hW
              go_simp
            refine' wpAnyH_take (i := 65) (v := .pointer (some ⟨p, 3, none⟩)) rfl (by kernel_rfl) (by kernel_rfl) (by kernel_rfl) (fun _ _ _ h => h) (Or.inl ⟨by kernel_rfl, fun W hW => ?yb65⟩) hHeld ?rb65
            · obtain ⟨q, rfl⟩ := hW
              go_simp
            refine' wpAnyH_take (i := 66) (v := .slice (some ⟨gm, 0, none⟩) L cm) rfl (by kernel_rfl) (by kernel_rfl) (by kernel_rfl) (fun _ _ _ h => h) (Or.inl ⟨by kernel_rfl, fun W hW => ?yb66⟩) hHeld ?rb66
            · obtain ⟨q, rfl⟩ := hW
              go_simp
            refine' wpAnyH_take (i := 67) (v := .int .i64 i) rfl (by kernel_rfl) (by kernel_rfl) (by kernel_rfl) (fun _ _ _ h => h) (Or.inl ⟨by kernel_rfl, fun W hW => ?yb67⟩) hHeld ?rb67
            · obtain ⟨q, rfl⟩ := hW
              go_simp
            refine' wpAnyH_take (i := 68) (v := .pointer (some ⟨gm, i, none⟩)) rfl (by kernel_rfl) (by kernel_rfl) (by kernel_rfl) (fun _ _ _ h => h) (Or.inl ⟨by kernel_rfl, fun W hW => ?yb68⟩) hHeld ?rb68
            · obtain ⟨q, rfl⟩ := hW
              go_simp
            refine' wpAnyH_take (i := 69) (v := .int .u8 y) rfl (by kernel_rfl) (by kernel_rfl) (by kernel_rfl) (fun _ _ _ h => h) (Or.inl ⟨by kernel_rfl, fun W hW => ?yb69⟩) hHeld ?rb69
            · obtain ⟨q, rfl⟩ := hW
              go_simp
            refine' wpAnyH_take (i := 70) (v := .bool false) rfl (by kernel_rfl) (by kernel_rfl) (by kernel_rfl) (fun _ _ _ h => h) (Or.inl ⟨by kernel_rfl, fun W hW => ?yb70⟩) hHeld ?rb70
            · obtain ⟨q, rfl⟩ := hW
              go_simp
            refine' wpAnyH_take (i := 71) (v := .bool false) rfl (by kernel_rfl) (by kernel_rfl) (by kernel_rfl) (fun _ _ _ h => h) (Or.inl ⟨by kernel_rfl, fun W hW => ?yb71⟩) hHeld ?rb71
            · obtain ⟨q, rfl⟩ := hW
              go_simp
            refine wpAnyH_ready (rs := [72]) (by kernel_rfl) (by simp) ?_
            refine AllReadyH.cons rfl (fun K' hK => ?_) AllReadyH.nil
            go_simp
            refine hK.out _ _ hHeld (fun hHeld => ?_)
            clear hK
            refine wpAnyH_done (by kernel_rfl) ?_ _
            refine NoPanic.normal ?_
            go_simp
            have hlj := HNN.out.2.2.2
            have hjb2 := hjb.out
            go_wp2_with fail
            go_roundw
            case rel => exact ⟨j + 1, m + 1, by have := HNN.out.2.2.2; omega, by go_num, by simp⟩
            case measure => have := HNN.out.2.2.2; simp [intOf]; omega
        · obtain rfl : j = K4 := by omega
          have hlj' : ¬ (j : Int) < (j : Int) := by omega
          go_wp2_with fail
          go_roundw
          case rel => exact ⟨i + 1, m, by omega, by go_num, rfl⟩
          case measure => simp [intOf]; omega
    · obtain rfl : i = L := by omega
      have hlt' : ¬ (i : Int) < (i : Int) := by omega
      go_wp2_with fail
      go_ret
      exact ⟨rfl, (Turn.refl no w).drewN n⟩
end Go.Proofs.Ytfjdojodbhmmaaa
