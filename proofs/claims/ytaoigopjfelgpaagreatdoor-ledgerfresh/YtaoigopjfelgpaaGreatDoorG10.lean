/- sameLedger, sameMembers, cut. -/
import Derived.Test.YtaoigopjfelgpaaGreatDoorGb
namespace Go.Proofs.YtaoigopjfelgpaaGreatDoor
open Go.RowKit
set_option linter.unusedVariables false

set_option maxRecDepth 100000 in
set_option maxHeartbeats 8000000 in
theorem same16 (w : World) (va vr ua ur : Value) (l : List Ac) (r : List Rl) (ha : As w va l) (hr : Rs w vr r) (ha' : As w ua l) (hr' : Rs w ur r) (b s : Int) : Calls Tryz.prog 14 #[.agg #[va, vr, .int .u64 b, .int .u64 s], .agg #[ua, ur, .int .u64 b, .int .u64 s]] w fun e w' => e = .returned (.bool true) ∧ Turn no w w' := by
  obtain ⟨a, ac, rfl, hA⟩ := ha
  obtain ⟨p, pc, rfl, hP⟩ := hr
  obtain ⟨a', ac', rfl, hA'⟩ := ha'
  obtain ⟨p', pc', rfl, hP'⟩ := hr'
  have hle : l.length ≤ 9223372036854775807 := by have := hA.le; have := hA.cap; simp only [maxLen] at this; omega
  have hle2 : r.length ≤ 9223372036854775807 := by have := hP.le; have := hP.cap; simp only [maxLen] at this; omega
  obtain ⟨n, hn⟩ : ∃ n, Hid (l.length = n) := ⟨_, rfl⟩
  have hn' : l.length = n := hn.out
  obtain ⟨k, hk⟩ : ∃ k, Hid (r.length = k) := ⟨_, rfl⟩
  have hk' : r.length = k := hk.out
  rw [hn'] at hle
  rw [hk'] at hle2
  rw [hn', hk']
  obtain ⟨w0, hw0⟩ : ∃ w0, (w.alloc (.cells #[.slice a n ac, .slice p k pc, .int .u64 b, .int .u64 s] 30)).alloc (.cells #[.slice a' n ac', .slice p' k pc', .int .u64 b, .int .u64 s] 30) = w0 := ⟨_, rfl⟩
  have T0 : Turn no w w0 := by rw [← hw0]; exact ((Turn.refl no w).alloc _).alloc _
  have B0 : Row w0 w.heap.size #[.slice a n ac, .slice p k pc, .int .u64 b, .int .u64 s] 30 := by rw [← hw0]; exact (Row.new w _ 30).alloc _
  have B1 : Row w0 (w.heap.size + 1) #[.slice a' n ac', .slice p' k pc', .int .u64 b, .int .u64 s] 30 := by rw [← hw0]; exact Row.newAt _ _ _ _ (by simp)
  have HY : Shut (∀ W, Turn no w0 W → W.cell? ⟨w.heap.size, 0, none⟩ = some (.slice a n ac) ∧ W.cell? ⟨w.heap.size, 1, none⟩ = some (.slice p k pc) ∧ W.cell? ⟨w.heap.size + 1, 0, none⟩ = some (.slice a' n ac') ∧ W.cell? ⟨w.heap.size + 1, 1, none⟩ = some (.slice p' k pc')) := fun W t =>
    ⟨t.keep (B0.cell 0 _ rfl) (fun q => q), t.keep (B0.cell 1 _ rfl) (fun q => q), t.keep (B1.cell 0 _ rfl) (fun q => q), t.keep (B1.cell 1 _ rfl) (fun q => q)⟩
  have x2 := B0.cell 2 _ rfl
  have x3 := B0.cell 3 _ rfl
  have y2 := B1.cell 2 _ rfl
  have y3 := B1.cell 3 _ rfl
  obtain ⟨x0, x1, y0, y1⟩ := HY.out w0 (Turn.refl no w0)
  have HT0 := shut T0
  have HA := shut hA
  have HA' := shut hA'
  have HP := shut hP
  have HP' := shut hP'
  clear hA hA' hP hP' T0 B0 B1 hn' hk'
  go_enter Tryz.func14, Tryz.ntmps14
  go_upto_region 1 with fail
  try rw [hw0]
  go_wp2_with fail
  clear x0 x1 x2 x3 y0 y1 y2 y3 hw0
  go_loopw [5] (fun c wr => ∃ i : Nat, i ≤ n ∧ c = .int .i64 i ∧ Turn no w0 wr) (fun c _ => n - (intOf c).toNat)
  case atStart => exact ⟨0, by omega, rfl, Turn.refl _ _⟩
  case round =>
    obtain ⟨i, hi, rfl, T⟩ := hrel
    obtain ⟨x0, x1, y0, y1⟩ := HY.out wr T
    by_cases hlt : i < n
    · obtain ⟨m, hm⟩ : ∃ m, l[i]? = some m := ⟨l[i]'(by rw [hn.out]; exact hlt), List.getElem?_eq_getElem _⟩
      obtain ⟨bb, off, rfl, c0, c1, c2, c3, c4⟩ := (HA.out.turn_no (HT0.out.then_no T)).cells i m hm
      obtain ⟨bb', off', rfl, d0, d1, d2, d3, d4⟩ := (HA'.out.turn_no (HT0.out.then_no T)).cells i m hm
      have hlt' : (i : Int) < (n : Int) := by omega
      clear hm x1 y1
      go_wp2_with fail
      go_quiet (fail)
      go_wp2_with fail
      go_roundw
      case rel => exact ⟨i + 1, by omega, by go_num, T.drewN _⟩
      case measure => simp [intOf]; omega
    · have hin : i = n := by omega
      subst hin
      have hlt' : ¬ (i : Int) < (i : Int) := by omega
      have HT := shut T
      clear hi hlt
      go_wp2_with fail
      clear x0 x1 y0 y1 T
      go_loopw [6] (fun c wq => ∃ j : Nat, j ≤ k ∧ c = .int .i64 j ∧ Turn no wr wq) (fun c _ => k - (intOf c).toNat)
      case atStart => exact ⟨0, by omega, rfl, Turn.refl _ _⟩
      case round =>
        obtain ⟨j, hj, rfl, T⟩ := hrel
        rename_i wq
        obtain ⟨x0, x1, y0, y1⟩ := HY.out _ (HT.out.then_no T)
        by_cases hlt2 : j < k
        · obtain ⟨m, hm⟩ : ∃ m, r[j]? = some m := ⟨r[j]'(by rw [hk.out]; exact hlt2), List.getElem?_eq_getElem _⟩
          obtain ⟨bb, off, rfl, c0, c1, c2, c3⟩ := (HP.out.turn_no (HT0.out.then_no (HT.out.then_no T))).cells j m hm
          obtain ⟨bb', off', rfl, d0, d1, d2, d3⟩ := (HP'.out.turn_no (HT0.out.then_no (HT.out.then_no T))).cells j m hm
          have hlt2' : (j : Int) < (k : Int) := by omega
          clear hm x0 y0
          go_wp2_with fail
          go_quiet (fail)
          go_wp2_with fail
          go_roundw
          case rel => exact ⟨j + 1, by omega, by go_num, T.drewN _⟩
          case measure => simp [intOf]; omega
        · have hjk : j = k := by omega
          subst hjk
          have hlt2' : ¬ (j : Int) < (j : Int) := by omega
          have HT2 := shut (HT0.out.then_no (HT.out.then_no T))
          clear hj hlt2 T
          go_wp2_with fail
          go_ret
          exact ⟨rfl, HT2.out⟩
set_option maxRecDepth 100000 in
set_option maxHeartbeats 4000000 in
theorem sameM18 (w : World) (v u : Value) (n : Nat) (L : List Ac) (hn : L.length = n) (hv : OwnN w 55 3 v n (meC L)) (hu : OwnN w 55 3 u n (meC L)) : Calls Tryz.prog 16 #[v, u] w fun e w' => e = .returned (.bool true) ∧ Turn no w w' := by
  obtain ⟨a, cap, e1, _, hle, _⟩ := id hv.form
  obtain ⟨a', cap', e2, _⟩ := id hu.form
  subst e1
  subst e2
  have HV := shut hv
  have HU := shut hu
  have HN := shut hn
  have hle : n ≤ 9223372036854775807 := by simp only [maxLen] at hle; omega
  clear hv hu hn
  go_enter Tryz.func16, Tryz.ntmps16
  go_wp2_with fail
  go_loopw [5] (fun c wr => ∃ i : Nat, i ≤ n ∧ c = .int .i64 i ∧ Turn no w wr) (fun c _ => n - (intOf c).toNat)
  case atStart => exact ⟨0, by omega, rfl, Turn.refl _ _⟩
  case round =>
    obtain ⟨i, hi, rfl, T⟩ := hrel
    by_cases hlt : i < n
    · obtain ⟨m, hm⟩ : ∃ m, L[i]? = some m := ⟨L[i]'(by rw [HN.out]; exact hlt), List.getElem?_eq_getElem _⟩
      have h1 := HV.out.turn_no T
      have h2 := HU.out.turn_no T
      rw [← HN.out] at h1 h2
      obtain ⟨bb, rfl, c0, c1, c2⟩ := mem_cells h1 i m hm
      obtain ⟨bb', rfl, d0, d1, d2⟩ := mem_cells h2 i m hm
      have hlt' : (i : Int) < (n : Int) := by omega
      clear hm h1 h2
      go_wp2_with fail
      go_quiet (fail)
      go_wp2_with fail
      go_roundw
      case rel => exact ⟨i + 1, by omega, by go_num, T.drewN _⟩
      case measure => simp [intOf]; omega
    · have hin : i = n := by omega
      subst hin
      have hlt' : ¬ (i : Int) < (i : Int) := by omega
      have HT := shut T
      clear hi hlt T
      go_wp2_with fail
      go_ret
      exact ⟨rfl, HT.out⟩
end Go.Proofs.YtaoigopjfelgpaaGreatDoor

