/- Texts in one. -/
import Derived.Test.YtaoigopjfelgpaaGreatDoorP1
import Derived.Test.YtaoigopjfelgpaaGreatDoorYx
import Derived.ChangeKeysEq
import Derived.Test.YtaoigopjfelgpaaGreatDoorY2
/- Two proofs held against each other: the law's sameProof. -/
namespace Go.Proofs.YtaoigopjfelgpaaGreatDoor
open Go.RowKit
set_option linter.unusedVariables false

set_option maxRecDepth 100000 in
set_option maxHeartbeats 8000000 in
theorem same33 (w : World) (t i : Int) (l : List (List UInt8)) (a : Option Addr) (cap : Nat) (a' : Option Addr) (cap' : Nat) (hk : HsAt w a cap l) (hk' : HsAt w a' cap' l) : Calls Tryz.prog 51 #[.agg #[.int .i64 t, .int .i64 i, .slice a l.length cap], .agg #[.int .i64 t, .int .i64 i, .slice a' l.length cap']] w fun e w' => e = .returned (.bool true) ∧ Turn no w w' := by
  obtain ⟨n, hn⟩ : ∃ n, Hid (l.length = n) := ⟨_, rfl⟩
  have hn' : l.length = n := hn.out
  have hle : n ≤ 9223372036854775807 := by have := hk.le; have := hk.cap; simp only [maxLen] at this; omega
  rw [hn']
  obtain ⟨w0, hw0⟩ : ∃ w0, (w.alloc (.cells #[.int .i64 t, .int .i64 i, .slice a n cap] 53)).alloc (.cells #[.int .i64 t, .int .i64 i, .slice a' n cap'] 53) = w0 := ⟨_, rfl⟩
  have T0 : Turn no w w0 := by rw [← hw0]; exact ((Turn.refl no w).alloc _).alloc _
  have B0 : Row w0 w.heap.size #[.int .i64 t, .int .i64 i, .slice a n cap] 53 := by rw [← hw0]; exact (Row.new w _ 53).alloc _
  have B1 : Row w0 (w.heap.size + 1) #[.int .i64 t, .int .i64 i, .slice a' n cap'] 53 := by rw [← hw0]; exact Row.newAt _ _ _ _ (by simp)
  have HK := shut (hk.turn_no T0)
  have HK' := shut (hk'.turn_no T0)
  have HY : Shut (∀ W, Turn no w0 W → W.cell? ⟨w.heap.size, 2, none⟩ = some (.slice a n cap) ∧ W.cell? ⟨w.heap.size + 1, 2, none⟩ = some (.slice a' n cap')) := fun W t => ⟨t.keep (B0.cell 2 _ rfl) (fun q => q), t.keep (B1.cell 2 _ rfl) (fun q => q)⟩
  have HT0 := shut T0
  have x0 := B0.cell 0 _ rfl
  have x1 := B0.cell 1 _ rfl
  have x2 := B0.cell 2 _ rfl
  have y0 := B1.cell 0 _ rfl
  have y1 := B1.cell 1 _ rfl
  have y2 := B1.cell 2 _ rfl
  have e0 : (t != t) = false := by simp
  have e1 : (i != i) = false := by simp
  have e2 : ((n : Int) != (n : Int)) = false := by simp
  clear hk hk' hn' B0 B1 T0
  go_enter Tryz.func51, Tryz.ntmps51
  go_upto_region 1 with fail
  try rw [hw0]
  clear hw0
  go_wp2_with fail
  clear x0 x1 x2 y0 y1 y2 e0 e1 e2
  go_loopw [5] (fun c wr => ∃ k : Nat, k ≤ n ∧ c = .int .i64 k ∧ Shut (Turn no w0 wr)) (fun c _ => n - (intOf c).toNat)
  case atStart => exact ⟨0, by omega, rfl, Turn.refl _ _⟩
  case round =>
    obtain ⟨k, hk, rfl, HT⟩ := hrel
    obtain ⟨z0, z1⟩ := HY.out wr HT.out
    by_cases hlt : k < n
    · obtain ⟨m, hm⟩ : ∃ m, l[k]? = some m := ⟨l[k]'(by rw [hn.out]; exact hlt), List.getElem?_eq_getElem _⟩
      obtain ⟨b, off, rfl, c0⟩ := (HK.out.turn_no HT.out).cells k m hm
      obtain ⟨b', off', rfl, d0⟩ := (HK'.out.turn_no HT.out).cells k m hm
      have hlt' : (k : Int) < (n : Int) := by omega
      have hmo := HK.out.ok m (List.mem_of_getElem? hm)
      have hs : (Tryz.prog.info? 40).map (·.size) = some (m.map bv).length := by rw [List.length_map, hmo]; exact size35
      have HE : Shut (∀ W, (Op.equalIn 10000 40 (.agg (m.map bv).toArray) (.agg (m.map bv).toArray)).run Tryz.prog W = .ok true W) := fun W => by rw [eqIn35 W m m hmo hmo]; simp
      clear hm hmo
      generalize m.map bv = X at *
      have HC : Shut (∀ W, Turn no wr W → W.rangeAt b (off + k * 32) X ∧ W.rangeAt b' (off' + k * 32) X) := fun W t => ⟨fun i v hi => t.keep (c0 i v hi) (fun q => q), fun i v hi => t.keep (d0 i v hi) (fun q => q)⟩
      have HY2 : Shut (∀ W, Turn no wr W → W.cell? ⟨w.heap.size, 2, none⟩ = some (.slice (some ⟨b, off, none⟩) n cap) ∧ W.cell? ⟨w.heap.size + 1, 2, none⟩ = some (.slice (some ⟨b', off', none⟩) n cap')) := fun W t => HY.out W (HT.out.then_no t)
      clear c0 d0
      go_wp2_with fail
      clear z0 z1
      refine wp_region_held_drew (S := fun W => Turn no wr W) (by kernel_rfl) (Turn.refl no wr).drew (fun hHeld => ?_)
      refine' wpAnyH_take (i := 0) (v := .pointer (some ⟨w.heap.size, 2, none⟩)) rfl (by kernel_rfl) (by kernel_rfl) (by kernel_rfl) (fun _ _ _ h => h) (Or.inl ⟨by kernel_rfl, fun W hW => ?y1⟩) hHeld ?r1
      · go_simp
      refine' wpAnyH_take (i := 1) (v := .slice (some ⟨b, off, none⟩) n cap) rfl (by kernel_rfl) (by kernel_rfl) (by kernel_rfl) (fun _ _ _ h => h) (Or.inl ⟨by kernel_rfl, fun W hW => ?y2⟩) hHeld ?r2
      · obtain ⟨z0, z1⟩ := HY2.out W hW
        go_simp
      refine' wpAnyH_take (i := 2) (v := .int .i64 k) rfl (by kernel_rfl) (by kernel_rfl) (by kernel_rfl) (fun _ _ _ h => h) (Or.inl ⟨by kernel_rfl, fun W hW => ?y3⟩) hHeld ?r3
      · go_simp
      refine' wpAnyH_take (i := 3) (v := .pointer (some ⟨b, off + k * 32, none⟩)) rfl (by kernel_rfl) (by kernel_rfl) (by kernel_rfl) (fun _ _ _ h => h) (Or.inl ⟨by kernel_rfl, fun W hW => ?y4⟩) hHeld ?r4
      · go_simp
      refine' wpAnyH_take (i := 4) (v := .agg X.toArray) rfl (by kernel_rfl) (by kernel_rfl) (by kernel_rfl) (fun _ _ _ h => h) (yieldsIf_load_mid (by kernel_rfl) 40 (.tmp 37) rfl b (off + k * 32) (by kernel_rfl) X _ (fun W h => (HC.out W h).1) Tryz.underlying40 rfl hs) hHeld ?s0
      refine' wpAnyH_take (i := 5) (v := .pointer (some ⟨w.heap.size + 1, 2, none⟩)) rfl (by kernel_rfl) (by kernel_rfl) (by kernel_rfl) (fun _ _ _ h => h) (Or.inl ⟨by kernel_rfl, fun W hW => ?y5⟩) hHeld ?r5
      · go_simp
      refine' wpAnyH_take (i := 6) (v := .slice (some ⟨b', off', none⟩) n cap') rfl (by kernel_rfl) (by kernel_rfl) (by kernel_rfl) (fun _ _ _ h => h) (Or.inl ⟨by kernel_rfl, fun W hW => ?y6⟩) hHeld ?r6
      · obtain ⟨z0, z1⟩ := HY2.out W hW
        go_simp
      refine' wpAnyH_take (i := 7) (v := .int .i64 k) rfl (by kernel_rfl) (by kernel_rfl) (by kernel_rfl) (fun _ _ _ h => h) (Or.inl ⟨by kernel_rfl, fun W hW => ?y7⟩) hHeld ?r7
      · go_simp
      refine' wpAnyH_take (i := 8) (v := .pointer (some ⟨b', off' + k * 32, none⟩)) rfl (by kernel_rfl) (by kernel_rfl) (by kernel_rfl) (fun _ _ _ h => h) (Or.inl ⟨by kernel_rfl, fun W hW => ?y8⟩) hHeld ?r8
      · go_simp
      refine' wpAnyH_take (i := 9) (v := .agg X.toArray) rfl (by kernel_rfl) (by kernel_rfl) (by kernel_rfl) (fun _ _ _ h => h) (yieldsIf_load_mid (by kernel_rfl) 40 (.tmp 42) rfl b' (off' + k * 32) (by kernel_rfl) X _ (fun W h => (HC.out W h).2) Tryz.underlying40 rfl hs) hHeld ?s1
      refine' wpAnyH_take (i := 10) (v := .bool false) rfl (by kernel_rfl) (by kernel_rfl) (by kernel_rfl) (fun _ _ _ h => h) (Or.inl ⟨by kernel_rfl, fun W hW => ?y9⟩) hHeld ?r9
      · have e := HE.out
        go_simp
      refine wpAnyH_done (by kernel_rfl) ?_ _
      go_simp
      have HN := shut (HT.out.then_no hHeld)
      clear hHeld HC HY2
      go_wp2_with fail
      go_roundw
      case rel => exact ⟨k + 1, by omega, by go_num, HN.out⟩
      case measure => simp [intOf]; omega
    · have hkn : k = n := by omega
      have hlt' : ¬ (k : Int) < (n : Int) := by omega
      clear hkn
      go_wp2_with fail
      go_ret
      exact ⟨rfl, HT0.out.then_no HT.out⟩
end Go.Proofs.YtaoigopjfelgpaaGreatDoor



/- An account held against itself. -/
namespace Go.Proofs.YtaoigopjfelgpaaGreatDoor
open Go.RowKit
set_option linter.unusedVariables false

theorem eqFields_self (w : World) (d : Nat) (xs : Array Value) : ∀ fs : List Field, (∀ f ∈ fs, ∃ v, (part f.type xs f.offset).run Tryz.prog w = .ok v w ∧ (Op.equalIn d f.type v v).run Tryz.prog w = .ok true w) → (Op.eqFields d xs xs fs).run Tryz.prog w = .ok true w
  | [], _ => by simp [Op.eqFields]
  | f :: fs, h => by
    obtain ⟨v, h1, h2⟩ := h f (by simp)
    have ih := eqFields_self w d xs fs (fun g hg => h g (by simp [hg]))
    simp only [Op.eqFields, Sem.run_bind, Sem.run_ite]
    split
    · simp only [h1, h2, Result.andThen_ok, Bool.not_true, Bool.false_eq_true, if_false]
      exact ih
    · exact ih
theorem cell_part {t : TypeId} (w : World) {xs : Array Value} {o : Nat} {v : Value} (ha : (isAgg t).run Tryz.prog w = .ok false w) (h : xs[o]? = some v) : (part t xs o).run Tryz.prog w = .ok v w := by
  simp [part, ha, h]
theorem fields32 : (Tryz.prog.fieldsOf 50).toList.map (fun f => (f.type, f.offset)) = [(26, 0), (23, 1), (23, 2), (23, 3), (4, 4)] := by kernel_rfl
theorem eq32v (w : World) (m : Ac) : (Op.equalIn 10000 50 (.agg (acs m).toArray) (.agg (acs m).toArray)).run Tryz.prog w = .ok true w := by
  rw [run_equalIn_struct w 9999 50 _ _ (by kernel_rfl) (by kernel_rfl)]
  refine eqFields_self w 9999 _ _ (fun f hf => ?_)
  have hm : (f.type, f.offset) ∈ [(26, 0), (23, 1), (23, 2), (23, 3), (4, 4)] := by
    rw [← fields32]
    exact List.mem_map.2 ⟨f, hf, rfl⟩
  generalize f.type = t at *
  generalize f.offset = o at *
  simp only [List.mem_cons, Prod.mk.injEq, List.not_mem_nil, or_false] at hm
  rcases hm with ⟨rfl, rfl⟩ | ⟨rfl, rfl⟩ | ⟨rfl, rfl⟩ | ⟨rfl, rfl⟩ | ⟨rfl, rfl⟩
  · exact ⟨_, cell_part w (v := .int .u64 m.ad) (by kernel_rfl) (by simp [acs]), by rw [run_equalIn_int w 9998 26 .u64 .u64 _ _ Tryz.underlying26]; simp⟩
  · exact ⟨_, cell_part w (v := .int .u64 m.bal) (by kernel_rfl) (by simp [acs]), by rw [run_equalIn_int w 9998 23 .u64 .u64 _ _ Tryz.underlying23]; simp⟩
  · exact ⟨_, cell_part w (v := .int .u64 m.bond) (by kernel_rfl) (by simp [acs]), by rw [run_equalIn_int w 9998 23 .u64 .u64 _ _ Tryz.underlying23]; simp⟩
  · exact ⟨_, cell_part w (v := .int .u64 m.nonce) (by kernel_rfl) (by simp [acs]), by rw [run_equalIn_int w 9998 23 .u64 .u64 _ _ Tryz.underlying23]; simp⟩
  · exact ⟨_, cell_part w (v := .bool m.jail) (by kernel_rfl) (by simp [acs]), by rw [run_equalIn_bool w 9998 4 _ _ Tryz.underlying4]; simp⟩
end Go.Proofs.YtaoigopjfelgpaaGreatDoor



/- Two like witnesses held against each other: the law's sameWitness. -/
namespace Go.Proofs.YtaoigopjfelgpaaGreatDoor
open Go.RowKit
set_option linter.unusedVariables false

set_option maxRecDepth 100000 in
set_option maxHeartbeats 16000000 in
theorem sameW11 (w : World) (R : List UInt8) (hR : R.length = 32) (va va' vp vp' : Value) (l : List Ac) (qs : List Pf) (ha : As w va l) (ha' : As w va' l) (hp : Qs w vp qs) (hp' : Qs w vp' qs) : Calls Tryz.prog 17 #[.agg (wtL R va vp).toArray, .agg (wtL R va' vp').toArray] w fun e w' => e = .returned (.bool true) ∧ Turn no w w' := by
  obtain ⟨a, ca, rfl, hA⟩ := ha
  obtain ⟨a', ca', rfl, hA'⟩ := ha'
  obtain ⟨p, cp, rfl, hP⟩ := hp
  obtain ⟨p', cp', rfl, hP'⟩ := hp'
  have lea : l.length ≤ 9223372036854775807 := by have := hA.le; have := hA.cap; simp only [maxLen] at this; omega
  have lep : qs.length ≤ 9223372036854775807 := by have := hP.le; have := hP.cap; simp only [maxLen] at this; omega
  obtain ⟨n, hn⟩ : ∃ n, Hid (l.length = n) := ⟨_, rfl⟩
  obtain ⟨z, hz⟩ : ∃ z, Hid (qs.length = z) := ⟨_, rfl⟩
  rw [show l.length = n from hn.out] at lea
  rw [show qs.length = z from hz.out] at lep
  rw [show l.length = n from hn.out, show qs.length = z from hz.out]
  obtain ⟨w0, hw0⟩ : ∃ w0, (w.alloc (.cells (wtL R (.slice a n ca) (.slice p z cp)).toArray 43)).alloc (.cells (wtL R (.slice a' n ca') (.slice p' z cp')).toArray 43) = w0 := ⟨_, rfl⟩
  have T0 : Turn no w w0 := by rw [← hw0]; exact ((Turn.refl no w).alloc _).alloc _
  have B0 : Row w0 w.heap.size (wtL R (.slice a n ca) (.slice p z cp)).toArray 43 := by rw [← hw0]; exact (Row.new w _ 43).alloc _
  have B1 : Row w0 (w.heap.size + 1) (wtL R (.slice a' n ca') (.slice p' z cp')).toArray 43 := by rw [← hw0]; exact Row.newAt _ _ _ _ (by simp)
  have HA := shut (hA.turn_no T0)
  have HA' := shut (hA'.turn_no T0)
  have HP := shut (hP.turn_no T0)
  have HP' := shut (hP'.turn_no T0)
  have HY : Shut (∀ W, Turn no w0 W → W.cell? ⟨w.heap.size, 32, none⟩ = some (.slice a n ca) ∧ W.cell? ⟨w.heap.size + 1, 32, none⟩ = some (.slice a' n ca') ∧ W.cell? ⟨w.heap.size, 33, none⟩ = some (.slice p z cp) ∧ W.cell? ⟨w.heap.size + 1, 33, none⟩ = some (.slice p' z cp')) := fun W t => ⟨t.keep (B0.cell 32 _ (wtL_32 hR _ _)) (fun q => q), t.keep (B1.cell 32 _ (wtL_32 hR _ _)) (fun q => q), t.keep (B0.cell 33 _ (wtL_33 hR _ _)) (fun q => q), t.keep (B1.cell 33 _ (wtL_33 hR _ _)) (fun q => q)⟩
  have r0 : w0.rangeAt w.heap.size 0 (R.map bv) := fun j u hu => B0.cell (0 + j) _ (wtL_R R _ _ j u hu)
  have r1 : w0.rangeAt (w.heap.size + 1) 0 (R.map bv) := fun j u hu => B1.cell (0 + j) _ (wtL_R R _ _ j u hu)
  have iR : (Tryz.prog.info? 40).map (·.size) = some (R.map bv).length := by rw [List.length_map, hR]; exact size35
  have eR : ∀ W, (Op.equalIn 10000 40 (.agg (R.map bv).toArray) (.agg (R.map bv).toArray)).run Tryz.prog W = .ok true W := fun W => by rw [eqIn35 W R R hR hR]; simp
  have HT0 := shut T0
  generalize R.map bv = RL at *
  obtain ⟨z0, z1, z2, z3⟩ := HY.out w0 (Turn.refl no w0)
  have e1 : ((n : Int) != (n : Int)) = false := by simp
  have e2 : ((z : Int) != (z : Int)) = false := by simp
  clear hA hA' hP hP' B0 B1 T0 hR
  generalize (wtL R (.slice a n ca) (.slice p z cp)).toArray = WA at *
  generalize (wtL R (.slice a' n ca') (.slice p' z cp')).toArray = WB at *
  go_enter Tryz.func17, Tryz.ntmps17
  go_upto_region 1 with fail
  try rw [hw0]
  clear hw0
  go_upto_region 3 with (first | (guard_target =~ wpList _ _ _ ({ dst := some 9, op := Op.load 40 _, .. } :: _) _ _; refine wpList_load_mid rfl 40 (.tmp 8) rfl w.heap.size 0 rfl RL _ r0 Tryz.underlying40 rfl iR ?_) | (guard_target =~ wpList _ _ _ ({ dst := some 11, op := Op.load 40 _, .. } :: _) _ _; refine wpList_load_mid rfl 40 (.tmp 10) rfl (w.heap.size + 1) 0 rfl RL _ r1 Tryz.underlying40 rfl iR ?_))
  clear z0 z1 z2 z3 r0 r1 e1 e2 eR iR
  go_wp2_with fail
  go_loopw [5] (fun c wr => ∃ k : Nat, k ≤ n ∧ c = .int .i64 k ∧ Shut (Turn no w0 wr)) (fun c _ => n - (intOf c).toNat)
  case atStart => exact ⟨0, by omega, rfl, Turn.refl _ _⟩
  case round =>
    obtain ⟨k, hk, rfl, HT⟩ := hrel
    obtain ⟨z0, z1, z2, z3⟩ := HY.out wr HT.out
    by_cases hlt : k < n
    · obtain ⟨m, hm⟩ : ∃ m, l[k]? = some m := ⟨l[k]'(by rw [hn.out]; exact hlt), List.getElem?_eq_getElem _⟩
      obtain ⟨b, off, rfl, c0⟩ := (HA.out.turn_no HT.out).range k m hm
      obtain ⟨b', off', rfl, d0⟩ := (HA'.out.turn_no HT.out).range k m hm
      have hlt' : (k : Int) < (n : Int) := by omega
      have hs : (Tryz.prog.info? 50).map (·.size) = some (acs m).length := by kernel_rfl
      have HE : Shut (∀ W, (Op.equalIn 10000 50 (.agg (acs m).toArray) (.agg (acs m).toArray)).run Tryz.prog W = .ok true W) := fun W => eq32v W m
      clear hm
      generalize acs m = X at *
      have HC : Shut (∀ W, Turn no wr W → W.rangeAt b (off + k * 5) X ∧ W.rangeAt b' (off' + k * 5) X) := fun W t => ⟨fun i v hi => t.keep (c0 i v hi) (fun q => q), fun i v hi => t.keep (d0 i v hi) (fun q => q)⟩
      have HY2 : Shut (∀ W, Turn no wr W → W.cell? ⟨w.heap.size, 32, none⟩ = some (.slice (some ⟨b, off, none⟩) n ca) ∧ W.cell? ⟨w.heap.size + 1, 32, none⟩ = some (.slice (some ⟨b', off', none⟩) n ca')) := fun W t => ⟨(HY.out W (HT.out.then_no t)).1, (HY.out W (HT.out.then_no t)).2.1⟩
      clear c0 d0
      go_wp2_with fail
      clear z0 z1 z2 z3
      refine wp_region_held_drew (S := fun W => Turn no wr W) (by kernel_rfl) (Turn.refl no wr).drew (fun hHeld => ?_)
      refine' wpAnyH_take (i := 0) (v := .pointer (some ⟨w.heap.size, 32, none⟩)) rfl (by kernel_rfl) (by kernel_rfl) (by kernel_rfl) (fun _ _ _ h => h) (Or.inl ⟨by kernel_rfl, fun W hW => ?y1⟩) hHeld ?r1
      · go_simp
      refine' wpAnyH_take (i := 1) (v := .slice (some ⟨b, off, none⟩) n ca) rfl (by kernel_rfl) (by kernel_rfl) (by kernel_rfl) (fun _ _ _ h => h) (Or.inl ⟨by kernel_rfl, fun W hW => ?y2⟩) hHeld ?r2
      · obtain ⟨z0, z1⟩ := HY2.out W hW
        go_simp
      refine' wpAnyH_take (i := 2) (v := .int .i64 k) rfl (by kernel_rfl) (by kernel_rfl) (by kernel_rfl) (fun _ _ _ h => h) (Or.inl ⟨by kernel_rfl, fun W hW => ?y3⟩) hHeld ?r3
      · go_simp
      refine' wpAnyH_take (i := 3) (v := .pointer (some ⟨b, off + k * 5, none⟩)) rfl (by kernel_rfl) (by kernel_rfl) (by kernel_rfl) (fun _ _ _ h => h) (Or.inl ⟨by kernel_rfl, fun W hW => ?y4⟩) hHeld ?r4
      · go_simp
      refine' wpAnyH_take (i := 4) (v := .agg X.toArray) rfl (by kernel_rfl) (by kernel_rfl) (by kernel_rfl) (fun _ _ _ h => h) (yieldsIf_load_mid (by kernel_rfl) 50 (.tmp 41) rfl b (off + k * 5) (by kernel_rfl) X _ (fun W h => (HC.out W h).1) Tryz.underlying50 rfl hs) hHeld ?s0
      refine' wpAnyH_take (i := 5) (v := .pointer (some ⟨w.heap.size + 1, 32, none⟩)) rfl (by kernel_rfl) (by kernel_rfl) (by kernel_rfl) (fun _ _ _ h => h) (Or.inl ⟨by kernel_rfl, fun W hW => ?y5⟩) hHeld ?r5
      · go_simp
      refine' wpAnyH_take (i := 6) (v := .slice (some ⟨b', off', none⟩) n ca') rfl (by kernel_rfl) (by kernel_rfl) (by kernel_rfl) (fun _ _ _ h => h) (Or.inl ⟨by kernel_rfl, fun W hW => ?y6⟩) hHeld ?r6
      · obtain ⟨z0, z1⟩ := HY2.out W hW
        go_simp
      refine' wpAnyH_take (i := 7) (v := .int .i64 k) rfl (by kernel_rfl) (by kernel_rfl) (by kernel_rfl) (fun _ _ _ h => h) (Or.inl ⟨by kernel_rfl, fun W hW => ?y7⟩) hHeld ?r7
      · go_simp
      refine' wpAnyH_take (i := 8) (v := .pointer (some ⟨b', off' + k * 5, none⟩)) rfl (by kernel_rfl) (by kernel_rfl) (by kernel_rfl) (fun _ _ _ h => h) (Or.inl ⟨by kernel_rfl, fun W hW => ?y8⟩) hHeld ?r8
      · go_simp
      refine' wpAnyH_take (i := 9) (v := .agg X.toArray) rfl (by kernel_rfl) (by kernel_rfl) (by kernel_rfl) (fun _ _ _ h => h) (yieldsIf_load_mid (by kernel_rfl) 50 (.tmp 46) rfl b' (off' + k * 5) (by kernel_rfl) X _ (fun W h => (HC.out W h).2) Tryz.underlying50 rfl hs) hHeld ?s1
      refine' wpAnyH_take (i := 10) (v := .bool false) rfl (by kernel_rfl) (by kernel_rfl) (by kernel_rfl) (fun _ _ _ h => h) (Or.inl ⟨by kernel_rfl, fun W hW => ?y9⟩) hHeld ?r9
      · have e := HE.out
        go_simp
      refine wpAnyH_done (by kernel_rfl) ?_ _
      go_simp
      have HN := shut (HT.out.then_no hHeld)
      clear hHeld HC HY2
      go_wp2_with fail
      go_roundw
      case rel => exact ⟨k + 1, by omega, by go_num, HN.out⟩
      case measure => simp [intOf]; omega
    · have hkn : k = n := by omega
      have hlt' : ¬ (k : Int) < (n : Int) := by omega
      clear hkn HA HA'
      go_wp2_with fail
      clear z0 z1 z2 z3
      obtain ⟨wm, rfl⟩ : ∃ wm : World, wm = wr := ⟨_, rfl⟩
      go_loopw [6] (fun c wr => ∃ j : Nat, j ≤ z ∧ c = .int .i64 j ∧ Shut (Turn no w0 wr)) (fun c _ => z - (intOf c).toNat)
      case atStart => exact ⟨0, by omega, rfl, HT.out⟩
      case round =>
        obtain ⟨j, hj, rfl, HT2⟩ := hrel
        obtain ⟨z0, z1, z2, z3⟩ := HY.out wr HT2.out
        by_cases hjz : j < z
        · obtain ⟨q, hq⟩ : ∃ q, qs[j]? = some q := ⟨qs[j]'(by rw [hz.out]; exact hjz), List.getElem?_eq_getElem _⟩
          obtain ⟨b, off, a1, c1, rfl, h1, k1⟩ := (HP.out.turn_no HT2.out).cells j q hq
          obtain ⟨b', off', a2, c2, rfl, h2, k2⟩ := (HP'.out.turn_no HT2.out).cells j q hq
          have hjn : (j : Int) < (z : Int) := by omega
          have hs : (Tryz.prog.info? 53).map (·.size) = some (pfC q a1 c1).length := by kernel_rfl
          have hs' : (Tryz.prog.info? 53).map (·.size) = some (pfC q a2 c2).length := by kernel_rfl
          have HS : Shut (∀ W, Turn no wr W → Calls Tryz.prog 51 #[.agg (pfC q a1 c1).toArray, .agg (pfC q a2 c2).toArray] W fun e w' => e = .returned (.bool true) ∧ Turn no W w') := fun W t => same33 W q.t q.i q.A a1 c1 a2 c2 (h1.turn_no t) (h2.turn_no t)
          clear hq h1 h2
          generalize pfC q a1 c1 = X at *
          generalize pfC q a2 c2 = Y at *
          have HC : Shut (∀ W, Turn no wr W → W.rangeAt b (off + j * 3) X ∧ W.rangeAt b' (off' + j * 3) Y) := fun W t => ⟨fun i v hi => t.keep (k1 i v hi) (fun q => q), fun i v hi => t.keep (k2 i v hi) (fun q => q)⟩
          have HY2 : Shut (∀ W, Turn no wr W → W.cell? ⟨w.heap.size, 33, none⟩ = some (.slice (some ⟨b, off, none⟩) z cp) ∧ W.cell? ⟨w.heap.size + 1, 33, none⟩ = some (.slice (some ⟨b', off', none⟩) z cp')) := fun W t => ⟨(HY.out W (HT2.out.then_no t)).2.2.1, (HY.out W (HT2.out.then_no t)).2.2.2⟩
          clear k1 k2
          go_upto_region 11 with fail
          clear z0 z1 z2 z3
          refine wp_region_held_drew (S := fun W => Turn no wr W) (by kernel_rfl) (Turn.refl no wr).drew (fun hHeld => ?_)
          refine' wpAnyH_take (i := 0) (v := .pointer (some ⟨w.heap.size, 33, none⟩)) rfl (by kernel_rfl) (by kernel_rfl) (by kernel_rfl) (fun _ _ _ h => h) (Or.inl ⟨by kernel_rfl, fun W hW => ?yy1⟩) hHeld ?rr1
          · go_simp
          refine' wpAnyH_take (i := 1) (v := .slice (some ⟨b, off, none⟩) z cp) rfl (by kernel_rfl) (by kernel_rfl) (by kernel_rfl) (fun _ _ _ h => h) (Or.inl ⟨by kernel_rfl, fun W hW => ?yy2⟩) hHeld ?rr2
          · obtain ⟨z0, z1⟩ := HY2.out W hW
            go_simp
          refine' wpAnyH_take (i := 2) (v := .int .i64 j) rfl (by kernel_rfl) (by kernel_rfl) (by kernel_rfl) (fun _ _ _ h => h) (Or.inl ⟨by kernel_rfl, fun W hW => ?yy3⟩) hHeld ?rr3
          · go_simp
          refine' wpAnyH_take (i := 3) (v := .pointer (some ⟨b, off + j * 3, none⟩)) rfl (by kernel_rfl) (by kernel_rfl) (by kernel_rfl) (fun _ _ _ h => h) (Or.inl ⟨by kernel_rfl, fun W hW => ?yy4⟩) hHeld ?rr4
          · go_simp
          refine' wpAnyH_take (i := 4) (v := .agg X.toArray) rfl (by kernel_rfl) (by kernel_rfl) (by kernel_rfl) (fun _ _ _ h => h) (yieldsIf_load_mid (by kernel_rfl) 53 (.tmp 59) rfl b (off + j * 3) (by kernel_rfl) X _ (fun W h => (HC.out W h).1) Tryz.underlying53 rfl hs) hHeld ?ss0
          refine' wpAnyH_take (i := 5) (v := .pointer (some ⟨w.heap.size + 1, 33, none⟩)) rfl (by kernel_rfl) (by kernel_rfl) (by kernel_rfl) (fun _ _ _ h => h) (Or.inl ⟨by kernel_rfl, fun W hW => ?yy5⟩) hHeld ?rr5
          · go_simp
          refine' wpAnyH_take (i := 6) (v := .slice (some ⟨b', off', none⟩) z cp') rfl (by kernel_rfl) (by kernel_rfl) (by kernel_rfl) (fun _ _ _ h => h) (Or.inl ⟨by kernel_rfl, fun W hW => ?yy6⟩) hHeld ?rr6
          · obtain ⟨z0, z1⟩ := HY2.out W hW
            go_simp
          refine' wpAnyH_take (i := 7) (v := .int .i64 j) rfl (by kernel_rfl) (by kernel_rfl) (by kernel_rfl) (fun _ _ _ h => h) (Or.inl ⟨by kernel_rfl, fun W hW => ?yy7⟩) hHeld ?rr7
          · go_simp
          refine' wpAnyH_take (i := 8) (v := .pointer (some ⟨b', off' + j * 3, none⟩)) rfl (by kernel_rfl) (by kernel_rfl) (by kernel_rfl) (fun _ _ _ h => h) (Or.inl ⟨by kernel_rfl, fun W hW => ?yy8⟩) hHeld ?rr8
          · go_simp
          refine' wpAnyH_take (i := 9) (v := .agg Y.toArray) rfl (by kernel_rfl) (by kernel_rfl) (by kernel_rfl) (fun _ _ _ h => h) (yieldsIf_load_mid (by kernel_rfl) 53 (.tmp 64) rfl b' (off' + j * 3) (by kernel_rfl) Y _ (fun W h => (HC.out W h).2) Tryz.underlying53 rfl hs') hHeld ?ss1
          refine wpAnyH_ready (rs := [10]) (by kernel_rfl) (by simp) ?_
          refine AllReadyH.cons rfl (fun K hK => ?_) AllReadyH.nil
          go_simp
          refine (HS.out wr.drew (Turn.refl no wr).drew).mono ?_
          rintro e w5 ⟨rfl, t5⟩
          have T5 : Turn no wr w5 := (Turn.refl no wr).drew.then_no t5
          go_wp2_with fail
          refine hK.out _ _ T5 (fun hHeld => ?_)
          clear hK
          refine wpAnyH_ready (rs := [11]) (by kernel_rfl) (by simp) ?_
          refine AllReadyH.cons rfl (fun K hK => ?_) AllReadyH.nil
          go_simp
          refine hK.out _ _ T5 (fun hHeld => ?_)
          clear hK
          refine wpAnyH_done (by kernel_rfl) ?_ _
          have HN := shut (HT2.out.then_no T5)
          clear hHeld HC HY2 HS t5 T5
          go_wp2_with fail
          go_roundw
          case rel => exact ⟨j + 1, by omega, by go_num, HN.out⟩
          case measure => simp [intOf]; omega
        · have hjn : ¬ (j : Int) < (z : Int) := by omega
          go_wp2_with fail
          go_ret
          exact ⟨rfl, HT0.out.then_no HT2.out⟩
end Go.Proofs.YtaoigopjfelgpaaGreatDoor

