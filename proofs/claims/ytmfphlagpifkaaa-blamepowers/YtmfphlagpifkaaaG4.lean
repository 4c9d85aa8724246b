/- same; sameMarks of none. -/
import Derived.Test.YtmfphlagpifkaaaG3
namespace Go.Proofs.Ytmfphlagpifkaaa
open Go.RowKit
set_option linter.unusedVariables false

set_option maxRecDepth 100000 in
set_option maxHeartbeats 8000000 in
theorem same7 (w : World) (v u : Value) (l : List Gu) (hv : Gs w v l) (hu : Gs w u l) : Calls Try.prog 7 #[v, u] w fun e w' => e = .returned (.bool true) ∧ Turn no w w' := by
  obtain ⟨a, cap, rfl, hk⟩ := hv
  obtain ⟨a', cap', rfl, hk'⟩ := hu
  obtain ⟨n, hn⟩ : ∃ n, Hid (l.length = n) := ⟨_, rfl⟩
  have hn' : l.length = n := hn.out
  have hle : n ≤ 9223372036854775807 := by have := hk.le; have := hk.cap; simp only [maxLen] at this; omega
  rw [hn']
  have HK := shut hk
  have HK' := shut hk'
  clear hk hk' hn'
  go_enter Try.func7, Try.ntmps7
  go_wp2_with fail
  go_loopw [5] (fun c wr => ∃ k : Nat, k ≤ n ∧ c = .int .i64 k ∧ Shut (Turn no w wr)) (fun c _ => n - (intOf c).toNat)
  case atStart => exact ⟨0, by omega, rfl, Turn.refl _ _⟩
  case round =>
    obtain ⟨k, hk, rfl, HT⟩ := hrel
    by_cases hlt : k < n
    · obtain ⟨m, hm⟩ : ∃ m, l[k]? = some m := ⟨l[k]'(by rw [hn.out]; exact hlt), List.getElem?_eq_getElem _⟩
      obtain ⟨b, off, rfl, c0⟩ := (HK.out.turn_no HT.out).range k m hm
      obtain ⟨b', off', rfl, d0⟩ := (HK'.out.turn_no HT.out).range k m hm
      have hlt' : (k : Int) < (n : Int) := by omega
      have hmo := HK.out.ok m (List.mem_of_getElem? hm)
      have hs : (Try.prog.info? 43).map (·.size) = some m.cs.length := by rw [Gu.len hmo]; exact size43
      have HE : Shut (∀ W, (Op.equalIn 10000 43 (.agg m.cs.toArray) (.agg m.cs.toArray)).run Try.prog W = .ok true W) := fun W => eq43 W 9996 m hmo
      clear hm hmo
      generalize m.cs = X at *
      have HC : Shut (∀ W, Turn no wr W → W.rangeAt b (off + k * 108) X ∧ W.rangeAt b' (off' + k * 108) X) := fun W t => ⟨fun i v hi => t.keep (c0 i v hi) (fun q => q), fun i v hi => t.keep (d0 i v hi) (fun q => q)⟩
      clear c0 d0
      go_wp2_with fail
      refine wp_region_held_drew (S := fun W => Turn no wr W) (by kernel_rfl) (Turn.refl no wr).drew (fun hHeld => ?_)
      refine' wpAnyH_take (i := 0) (v := .slice (some ⟨b, off, none⟩) n cap) rfl (by kernel_rfl) (by kernel_rfl) (by kernel_rfl) (fun _ _ _ h => h) (Or.inl ⟨by kernel_rfl, fun W hW => ?y1⟩) hHeld ?r1
      · go_simp
      refine' wpAnyH_take (i := 1) (v := .int .i64 k) rfl (by kernel_rfl) (by kernel_rfl) (by kernel_rfl) (fun _ _ _ h => h) (Or.inl ⟨by kernel_rfl, fun W hW => ?y2⟩) hHeld ?r2
      · go_simp
      refine' wpAnyH_take (i := 2) (v := .pointer (some ⟨b, off + k * 108, none⟩)) rfl (by kernel_rfl) (by kernel_rfl) (by kernel_rfl) (fun _ _ _ h => h) (Or.inl ⟨by kernel_rfl, fun W hW => ?y3⟩) hHeld ?r3
      · go_simp
      refine' wpAnyH_take (i := 3) (v := .agg X.toArray) rfl (by kernel_rfl) (by kernel_rfl) (by kernel_rfl) (fun _ _ _ h => h) (yieldsIf_load_mid (by kernel_rfl) 43 (.tmp 19) rfl b (off + k * 108) (by kernel_rfl) X _ (fun W h => (HC.out W h).1) Try.underlying43 rfl hs) hHeld ?s0
      refine' wpAnyH_take (i := 4) (v := .slice (some ⟨b', off', none⟩) n cap') rfl (by kernel_rfl) (by kernel_rfl) (by kernel_rfl) (fun _ _ _ h => h) (Or.inl ⟨by kernel_rfl, fun W hW => ?y4⟩) hHeld ?r4
      · go_simp
      refine' wpAnyH_take (i := 5) (v := .int .i64 k) rfl (by kernel_rfl) (by kernel_rfl) (by kernel_rfl) (fun _ _ _ h => h) (Or.inl ⟨by kernel_rfl, fun W hW => ?y5⟩) hHeld ?r5
      · go_simp
      refine' wpAnyH_take (i := 6) (v := .pointer (some ⟨b', off' + k * 108, none⟩)) rfl (by kernel_rfl) (by kernel_rfl) (by kernel_rfl) (fun _ _ _ h => h) (Or.inl ⟨by kernel_rfl, fun W hW => ?y6⟩) hHeld ?r6
      · go_simp
      refine' wpAnyH_take (i := 7) (v := .agg X.toArray) rfl (by kernel_rfl) (by kernel_rfl) (by kernel_rfl) (fun _ _ _ h => h) (yieldsIf_load_mid (by kernel_rfl) 43 (.tmp 23) rfl b' (off' + k * 108) (by kernel_rfl) X _ (fun W h => (HC.out W h).2) Try.underlying43 rfl hs) hHeld ?s1
      refine' wpAnyH_take (i := 8) (v := .bool false) rfl (by kernel_rfl) (by kernel_rfl) (by kernel_rfl) (fun _ _ _ h => h) (Or.inl ⟨by kernel_rfl, fun W hW => ?y7⟩) hHeld ?r7
      · have e := HE.out
        go_simp
      refine wpAnyH_done (by kernel_rfl) ?_ _
      go_simp
      go_wp2_with fail
      go_roundw
      case rel => exact ⟨k + 1, by omega, by go_num, HT.out.then_no (Turn.refl no wr).drew⟩
      case measure => simp [intOf]; omega
    · have hkn : k = n := by omega
      have hlt' : ¬ (k : Int) < (n : Int) := by omega
      clear hkn
      go_wp2_with fail
      go_ret
      exact ⟨rfl, HT.out⟩
theorem marks13_none (w : World) (a a' : Option Addr) (c c' : Nat) : Calls Try.prog 13 #[.slice a 0 c, .slice a' 0 c'] w fun e w' => e = .returned (.bool true) ∧ Turn no w w' := by
  go_enter Try.func13, Try.ntmps13
  go_wp2_with fail
  refine wp_loop_once ?_
  go_wp2_with fail
  go_ret
  exact ⟨rfl, Turn.refl _ _⟩
end Go.Proofs.Ytmfphlagpifkaaa
