/- Two proofs held against each other: the law's sameProof. -/
import Derived.Test.YtmihgjdodgmipaaGreatDoorP1
namespace Go.Proofs.YtmihgjdodgmipaaGreatDoor
open Go.RowKit
set_option linter.unusedVariables false

set_option maxRecDepth 100000 in
set_option maxHeartbeats 8000000 in
theorem same33 (w : World) (t i : Int) (l : List (List UInt8)) (a : Option Addr) (cap : Nat) (a' : Option Addr) (cap' : Nat) (hk : HsAt w a cap l) (hk' : HsAt w a' cap' l) : Calls Tryz.prog 33 #[.agg #[.int .i64 t, .int .i64 i, .slice a l.length cap], .agg #[.int .i64 t, .int .i64 i, .slice a' l.length cap']] w fun e w' => e = .returned (.bool true) ∧ Turn no w w' := by
  obtain ⟨n, hn⟩ : ∃ n, Hid (l.length = n) := ⟨_, rfl⟩
  have hn' : l.length = n := hn.out
  have hle : n ≤ 9223372036854775807 := by have := hk.le; have := hk.cap; simp only [maxLen] at this; omega
  rw [hn']
  obtain ⟨w0, hw0⟩ : ∃ w0, (w.alloc (.cells #[.int .i64 t, .int .i64 i, .slice a n cap] 69)).alloc (.cells #[.int .i64 t, .int .i64 i, .slice a' n cap'] 69) = w0 := ⟨_, rfl⟩
  have T0 : Turn no w w0 := by rw [← hw0]; exact ((Turn.refl no w).alloc _).alloc _
  have B0 : Row w0 w.heap.size #[.int .i64 t, .int .i64 i, .slice a n cap] 69 := by rw [← hw0]; exact (Row.new w _ 69).alloc _
  have B1 : Row w0 (w.heap.size + 1) #[.int .i64 t, .int .i64 i, .slice a' n cap'] 69 := by rw [← hw0]; exact Row.newAt _ _ _ _ (by simp)
  have HK := shut (hk.turn_no T0)
  have HK' := shut (hk'.turn_no T0)
  have HY : Shut (∀ W, Turn no w0 W → W.cell? ⟨w.heap.size, 2, none⟩ = some (.slice a n cap) ∧ W.cell? ⟨w.heap.size + 1, 2, none⟩ = some (.slice a' n cap')) := fun W t => ⟨t.keep (B0.cell 2 _ rfl) (fun q => q), t.keep (B1.cell 2 _ rfl) (fun q => q)⟩
  have HT0 := shut T0
  have x0 := B0.cell 0 _ rfl
  have x1 := B0.cell 1 _ rfl
  have x2 := B0.cell 2 _ rfl
  have y0 := B1.cell 0 _ rfl
  have y1 := B1.cell 1 _ rfl
  have y2 := B1.cell 2 _ rfl
  have e0 : (t != t) = false := by simp
  have e1 : (i != i) = false := by simp
  have e2 : ((n : Int) != (n : Int)) = false := by simp
  clear hk hk' hn' B0 B1 T0
  go_enter Tryz.func33, Tryz.ntmps33
  go_upto_region 1 with fail
  try rw [hw0]
  clear hw0
  go_wp2_with fail
  clear x0 x1 x2 y0 y1 y2 e0 e1 e2
  go_loopw [5] (fun c wr => ∃ k : Nat, k ≤ n ∧ c = .int .i64 k ∧ Shut (Turn no w0 wr)) (fun c _ => n - (intOf c).toNat)
  case atStart => exact ⟨0, by omega, rfl, Turn.refl _ _⟩
  case round =>
    obtain ⟨k, hk, rfl, HT⟩ := hrel
    obtain ⟨z0, z1⟩ := HY.out wr HT.out
    by_cases hlt : k < n
    · obtain ⟨m, hm⟩ : ∃ m, l[k]? = some m := ⟨l[k]'(by rw [hn.out]; exact hlt), List.getElem?_eq_getElem _⟩
      obtain ⟨b, off, rfl, c0⟩ := (HK.out.turn_no HT.out).cells k m hm
      obtain ⟨b', off', rfl, d0⟩ := (HK'.out.turn_no HT.out).cells k m hm
      have hlt' : (k : Int) < (n : Int) := by omega
      have hmo := HK.out.ok m (List.mem_of_getElem? hm)
      have hs : (Tryz.prog.info? 31).map (·.size) = some (m.map bv).length := by rw [List.length_map, hmo]; exact size35
      have HE : Shut (∀ W, (Op.equalIn 10000 31 (.agg (m.map bv).toArray) (.agg (m.map bv).toArray)).run Tryz.prog W = .ok true W) := fun W => by rw [eqIn35 W m m hmo hmo]; simp
      clear hm hmo
      generalize m.map bv = X at *
      have HC : Shut (∀ W, Turn no wr W → W.rangeAt b (off + k * 32) X ∧ W.rangeAt b' (off' + k * 32) X) := fun W t => ⟨fun i v hi => t.keep (c0 i v hi) (fun q => q), fun i v hi => t.keep (d0 i v hi) (fun q => q)⟩
      have HY2 : Shut (∀ W, Turn no wr W → W.cell? ⟨w.heap.size, 2, none⟩ = some (.slice (some ⟨b, off, none⟩) n cap) ∧ W.cell? ⟨w.heap.size + 1, 2, none⟩ = some (.slice (some ⟨b', off', none⟩) n cap')) := fun W t => HY.out W (HT.out.then_no t)
      clear c0 d0
      go_wp2_with fail
      clear z0 z1
      refine wp_region_held_drew (S := fun W => Turn no wr W) (by kernel_rfl) (Turn.refl no wr).drew (fun hHeld => ?_)
      refine' wpAnyH_take (i := 0) (v := .pointer (some ⟨w.heap.size, 2, none⟩)) rfl (by kernel_rfl) (by kernel_rfl) (by kernel_rfl) (fun _ _ _ h => h) (Or.inl ⟨by kernel_rfl, fun W hW => ?y1⟩) hHeld ?r1
      · go_simp
      refine' wpAnyH_take (i := 1) (v := .slice (some ⟨b, off, none⟩) n cap) rfl (by kernel_rfl) (by kernel_rfl) (by kernel_rfl) (fun _ _ _ h => h) (Or.inl ⟨by kernel_rfl, fun W hW => ?y2⟩) hHeld ?r2
      · obtain ⟨z0, z1⟩ := HY2.out W hW
        go_simp
      refine' wpAnyH_take (i := 2) (v := .int .i64 k) rfl (by kernel_rfl) (by kernel_rfl) (by kernel_rfl) (fun _ _ _ h => h) (Or.inl ⟨by kernel_rfl, fun W hW => ?y3⟩) hHeld ?r3
      · go_simp
      refine' wpAnyH_take (i := 3) (v := .pointer (some ⟨b, off + k * 32, none⟩)) rfl (by kernel_rfl) (by kernel_rfl) (by kernel_rfl) (fun _ _ _ h => h) (Or.inl ⟨by kernel_rfl, fun W hW => ?y4⟩) hHeld ?r4
      · go_simp
      refine' wpAnyH_take (i := 4) (v := .agg X.toArray) rfl (by kernel_rfl) (by kernel_rfl) (by kernel_rfl) (fun _ _ _ h => h) (yieldsIf_load_mid (by kernel_rfl) 31 (.tmp 37) rfl b (off + k * 32) (by kernel_rfl) X _ (fun W h => (HC.out W h).1) Tryz.underlying31 rfl hs) hHeld ?s0
      refine' wpAnyH_take (i := 5) (v := .pointer (some ⟨w.heap.size + 1, 2, none⟩)) rfl (by kernel_rfl) (by kernel_rfl) (by kernel_rfl) (fun _ _ _ h => h) (Or.inl ⟨by kernel_rfl, fun W hW => ?y5⟩) hHeld ?r5
      · go_simp
      refine' wpAnyH_take (i := 6) (v := .slice (some ⟨b', off', none⟩) n cap') rfl (by kernel_rfl) (by kernel_rfl) (by kernel_rfl) (fun _ _ _ h => h) (Or.inl ⟨by kernel_rfl, fun W hW => ?y6⟩) hHeld ?r6
      · obtain ⟨z0, z1⟩ := HY2.out W hW
        go_simp
      refine' wpAnyH_take (i := 7) (v := .int .i64 k) rfl (by kernel_rfl) (by kernel_rfl) (by kernel_rfl) (fun _ _ _ h => h) (Or.inl ⟨by kernel_rfl, fun W hW => ?y7⟩) hHeld ?r7
      · go_simp
      refine' wpAnyH_take (i := 8) (v := .pointer (some ⟨b', off' + k * 32, none⟩)) rfl (by kernel_rfl) (by kernel_rfl) (by kernel_rfl) (fun _ _ _ h => h) (Or.inl ⟨by kernel_rfl, fun W hW => ?y8⟩) hHeld ?r8
      · go_simp
      refine' wpAnyH_take (i := 9) (v := .agg X.toArray) rfl (by kernel_rfl) (by kernel_rfl) (by kernel_rfl) (fun _ _ _ h => h) (yieldsIf_load_mid (by kernel_rfl) 31 (.tmp 42) rfl b' (off' + k * 32) (by kernel_rfl) X _ (fun W h => (HC.out W h).2) Tryz.underlying31 rfl hs) hHeld ?s1
      refine' wpAnyH_take (i := 10) (v := .bool false) rfl (by kernel_rfl) (by kernel_rfl) (by kernel_rfl) (fun _ _ _ h => h) (Or.inl ⟨by kernel_rfl, fun W hW => ?y9⟩) hHeld ?r9
      · have e := HE.out
        go_simp
      refine wpAnyH_done (by kernel_rfl) ?_ _
      go_simp
      have HN := shut (HT.out.then_no hHeld)
      clear hHeld HC HY2
      go_wp2_with fail
      go_roundw
      case rel => exact ⟨k + 1, by omega, by go_num, HN.out⟩
      case measure => simp [intOf]; omega
    · have hkn : k = n := by omega
      have hlt' : ¬ (k : Int) < (n : Int) := by omega
      clear hkn
      go_wp2_with fail
      go_ret
      exact ⟨rfl, HT0.out.then_no HT.out⟩
end Go.Proofs.YtmihgjdodgmipaaGreatDoor

