/- Sound of a ledger without rows. -/
import Derived.Test.YtdbfbdhnjbmmjaaA3
import Derived.Deep.RegionHeld3
namespace Go.Proofs.Ytdbfbdhnjbmmjaa
open Go.RowKit
set_option linter.unusedVariables false

set_option maxRecDepth 100000 in
set_option maxHeartbeats 2000000 in
theorem soundR28_nil (w : World) (a : Option Addr) (n cap : Nat) : Calls Try.prog 28 #[.slice a n cap, .slice none 0 0] w fun e w' => e = .returned (.int .i64 0) ∧ Turn no w w' := by
  have T : Turn no w (w.alloc (.cells #[.int .u64 0, .int .u64 0, .int .u64 0, .int .u64 0] 58)) := (Turn.refl no w).alloc _
  go_enter Try.func28, Try.ntmps28
  go_wp2_with fail
  go_loopw [12] (fun c wr => c = .int .i64 0 ∧ wr = w.alloc (.cells #[.int .u64 0, .int .u64 0, .int .u64 0, .int .u64 0] 58)) (fun c _ => 0)
  case atStart => exact ⟨rfl, rfl⟩
  case round =>
    obtain ⟨rfl, rfl⟩ := hrel
    go_wp2_with fail
    go_ret
    exact ⟨rfl, T⟩
/-- What is wrong with a ledger without rows. -/
def soundE (b : Nat) (l : List Ac) (s : Nat) : Int := if 65536 < l.length then 86 else if scanA 0 l ≠ 0 then scanA 0 l else if 1152921504606846975 < s ∨ wholeN b l [] ≠ s then 87 else 0
set_option maxRecDepth 100000 in
set_option maxHeartbeats 4000000 in
theorem sound11_nil (w : World) (va : Value) (l : List Ac) (ha : As w va l) (b s : Nat) : Calls Try.prog 11 #[.agg #[va, .slice none 0 0, .int .u64 b, .int .u64 s]] w fun e w' => e = .returned (.int .i64 (soundE b l s)) ∧ Turn no w w' := by
  obtain ⟨a, cap, rfl, h⟩ := id ha
  have hle : l.length ≤ 9223372036854775807 := by have := h.le; have := h.cap; simp only [maxLen] at this; omega
  obtain ⟨w1, hw1⟩ : ∃ w1, w1 = w.alloc (.cells #[.slice a l.length cap, .slice none 0 0, .int .u64 b, .int .u64 s] 29) := ⟨_, rfl⟩
  have t1 : Turn no w w1 := by rw [hw1]; exact (Turn.refl no w).alloc _
  have R1 : w1.heap[w.heap.size]? = some (.cells #[.slice a l.length cap, .slice none 0 0, .int .u64 b, .int .u64 s] 29 (0, 0)) := by rw [hw1]; exact heap_alloc_new w _
  have d : ∀ W, Turn no w1 W → W.cell? ⟨w.heap.size, 0, none⟩ = some (.slice a l.length cap) ∧ W.cell? ⟨w.heap.size, 1, none⟩ = some (.slice none 0 0) ∧ W.cell? ⟨w.heap.size, 2, none⟩ = some (.int .u64 b) ∧ W.cell? ⟨w.heap.size, 3, none⟩ = some (.int .u64 s) := fun W t =>
    ⟨t.keep (cell_of_row _ _ 0 _ 29 (0, 0) R1) (fun q => q), t.keep (cell_of_row _ _ 1 _ 29 (0, 0) R1) (fun q => q), t.keep (cell_of_row _ _ 2 _ 29 (0, 0) R1) (fun q => q), t.keep (cell_of_row _ _ 3 _ 29 (0, 0) R1) (fun q => q)⟩
  have HD := shut' d
  have cA := fun W (t : Turn no w1 W) => soundA27 W _ l (ha.turn_no (t1.then_no t))
  have cW := fun W (t : Turn no w1 W) => whole21 W _ _ l [] (ha.turn_no (t1.then_no t)) ⟨none, 0, rfl, by simp, by simp [maxLen], (fun m hm => by cases hm), fun j m hj => by simp at hj⟩ b s
  simp only [List.length_nil] at cW
  have HA := shut' cA
  have HC := shut' cW
  obtain ⟨n, hn⟩ : ∃ n, Hid (l.length = n) := ⟨_, rfl⟩
  have hn' : l.length = n := hn.out
  have hsE : soundE b l s = if 65536 < n then 86 else if scanA 0 l ≠ 0 then scanA 0 l else if 1152921504606846975 < s ∨ wholeN b l [] ≠ s then 87 else 0 := by rw [← hn']; rfl
  rw [hn'] at hle hw1 HD HA HC
  rw [hn']
  obtain ⟨z0, z1, z2, z3⟩ := HD.out w1 (Turn.refl no w1)
  have c1 := HA.out w1 (Turn.refl no w1)
  clear d cA cW h ha R1 hn'
  generalize scanA 0 l = E at *
  generalize wholeN b l [] = S at *
  by_cases h6 : 65536 < n
  · rw [if_pos h6] at hsE
    have h6' : (65536 : Int) < (n : Int) := by omega
    have HE := shut' hsE
    clear hsE
    go_enter Try.func11, Try.ntmps11
    go_wp2_with fail
    go_ret
    exact ⟨by rw [HE.out]; rfl, by rw [← hw1]; exact t1⟩
  · rw [if_neg h6] at hsE
    have h6' : ¬ (65536 : Int) < (n : Int) := by omega
    go_enter Try.func11, Try.ntmps11
    go_wp2_with fail
    try rw [← hw1]
    refine c1.mono ?_
    rintro e w2 ⟨rfl, t2⟩
    obtain ⟨y0, y1, y2, y3⟩ := HD.out w2 t2
    clear z0 z1 z2 z3 c1 hw1
    by_cases hE : E = 0
    · rw [if_neg (by simpa using hE)] at hsE
      subst hE
      go_wp2_with fail
      refine (soundR28_nil w2 _ _ _).mono ?_
      rintro e w3 ⟨rfl, t3⟩
      have t13 := t2.then_no t3
      obtain ⟨x0, x1, x2, x3⟩ := HD.out w3 t13
      clear y0 y1 y2 y3
      have D0 : ∀ W, Turn no w3 W → _ := fun W t => HD.out W (t13.then_no t)
      have HD3 := shut' D0
      clear D0
      by_cases hs : 1152921504606846975 < s
      · rw [if_pos (.inl hs)] at hsE
        have HE := shut' hsE
        have hs' : (1152921504606846975 : Int) < (s : Int) := by omega
        have hd : decide ((1152921504606846975 : Int) < (s : Int)) = true := by simp; omega
        clear hsE
        go_wp2_with fail
        refine wp_region_held_drew (S := fun W => Turn no w3 W) (by kernel_rfl) (Turn.refl no w3).drew (fun hHeld => ?_)
        refine' wpAnyH_take (i := 0) (v := .pointer (some ⟨w.heap.size, 3, none⟩)) rfl (by kernel_rfl) (by kernel_rfl) (by kernel_rfl) (fun _ _ _ h => h) (Or.inl ⟨by kernel_rfl, fun W hW => ?y1⟩) hHeld ?r1
        · go_simp
        refine' wpAnyH_take (i := 1) (v := .int .u64 s) rfl (by kernel_rfl) (by kernel_rfl) (by kernel_rfl) (fun _ _ _ h => h) (Or.inl ⟨by kernel_rfl, fun W hW => ?y2⟩) hHeld ?r2
        · have z := (HD3.out W hW).2.2.2
          go_simp
        refine' wpAnyH_take (i := 2) (v := .bool true) rfl (by kernel_rfl) (by kernel_rfl) (by kernel_rfl) (fun _ _ _ h => h) (Or.inl ⟨by kernel_rfl, fun W hW => ?y3⟩) hHeld ?r3
        · go_simp
        refine' wpAnyH_take (i := 3) (v := .bool true) rfl (by kernel_rfl) (by kernel_rfl) (by kernel_rfl) (fun _ _ _ h => h) (Or.inl ⟨by kernel_rfl, fun W hW => ?y4⟩) hHeld ?r4
        · go_simp
        refine' wpAnyH_take (i := 4) (v := undef) rfl (by kernel_rfl) (by kernel_rfl) (by kernel_rfl) (fun _ _ _ h => h) (Or.inr ⟨by kernel_rfl, rfl⟩) hHeld ?r5
        refine' wpAnyH_take (i := 6) (v := undef) rfl (by kernel_rfl) (by kernel_rfl) (by kernel_rfl) (fun _ _ _ h => h) (Or.inr ⟨by kernel_rfl, rfl⟩) hHeld ?r6
        refine' wpAnyH_take (i := 7) (v := undef) rfl (by kernel_rfl) (by kernel_rfl) (by kernel_rfl) (fun _ _ _ h => h) (Or.inr ⟨by kernel_rfl, rfl⟩) hHeld ?r7
        refine wpAnyH_ready (rs := [5]) (by kernel_rfl) (by simp) ?_
        refine AllReadyH.cons rfl (fun K hK => ?_) AllReadyH.nil
        go_simp
        refine hK.out _ _ hHeld (fun hHeld => ?_)
        clear hK
        refine' wpAnyH_take (i := 8) (v := undef) rfl (by kernel_rfl) (by kernel_rfl) (by kernel_rfl) (fun _ _ _ h => h) (Or.inr ⟨by kernel_rfl, rfl⟩) hHeld ?r8
        refine' wpAnyH_take (i := 9) (v := .bool true) rfl (by kernel_rfl) (by kernel_rfl) (by kernel_rfl) (fun _ _ _ h => h) (Or.inl ⟨by kernel_rfl, fun W hW => ?y9⟩) hHeld ?r9
        · go_simp
        refine wpAnyH_done (by kernel_rfl) ?_ _
        go_wp2_with fail
        go_ret
        exact ⟨by rw [HE.out]; rfl, (t1.then_no t13).then_no (Turn.refl no w3).drew⟩
      · have hs' : ¬ (1152921504606846975 : Int) < (s : Int) := by omega
        have hd : decide ((1152921504606846975 : Int) < (s : Int)) = false := by simp; omega
        have cur0 : Turn no w3 w3.drew := (Turn.refl no w3).drew
        have cC := HC.out w3.drew (t13.then_no cur0)
        have hsE' : soundE b l s = if ((S : Int) != (s : Int)) = true then 87 else 0 := by
          rw [hsE]
          by_cases q : S = s
          · rw [if_neg (by omega), if_neg (by simp; omega)]
          · rw [if_pos (.inr q), if_pos (by simp; omega)]
        have HE := shut' hsE'
        clear hsE hsE'
        go_wp2_with fail
        refine wp_region_held_drew (S := fun W => Turn no w3 W) (by kernel_rfl) (Turn.refl no w3).drew (fun hHeld => ?_)
        refine' wpAnyH_take (i := 0) (v := .pointer (some ⟨w.heap.size, 3, none⟩)) rfl (by kernel_rfl) (by kernel_rfl) (by kernel_rfl) (fun _ _ _ h => h) (Or.inl ⟨by kernel_rfl, fun W hW => ?y10⟩) hHeld ?r10
        · go_simp
        refine' wpAnyH_take (i := 1) (v := .int .u64 s) rfl (by kernel_rfl) (by kernel_rfl) (by kernel_rfl) (fun _ _ _ h => h) (Or.inl ⟨by kernel_rfl, fun W hW => ?y11⟩) hHeld ?r11
        · have z := (HD3.out W hW).2.2.2
          go_simp
        refine' wpAnyH_take (i := 2) (v := .bool false) rfl (by kernel_rfl) (by kernel_rfl) (by kernel_rfl) (fun _ _ _ h => h) (Or.inl ⟨by kernel_rfl, fun W hW => ?y12⟩) hHeld ?r12
        · go_simp
        refine' wpAnyH_take (i := 3) (v := .bool false) rfl (by kernel_rfl) (by kernel_rfl) (by kernel_rfl) (fun _ _ _ h => h) (Or.inl ⟨by kernel_rfl, fun W hW => ?y13⟩) hHeld ?r13
        · go_simp
        refine' wpAnyH_take (i := 4) (v := .agg #[.slice a n cap, .slice none 0 0, .int .u64 b, .int .u64 s]) rfl (by kernel_rfl) (by kernel_rfl) (by kernel_rfl) (fun _ _ _ h => h) (Or.inl ⟨by kernel_rfl, fun W hW => ?y14⟩) hHeld ?r14
        · obtain ⟨q0, q1, q2, q3⟩ := HD3.out W hW
          go_simp
        refine' wpAnyH_take (i := 6) (v := .pointer (some ⟨w.heap.size, 3, none⟩)) rfl (by kernel_rfl) (by kernel_rfl) (by kernel_rfl) (fun _ _ _ h => h) (Or.inl ⟨by kernel_rfl, fun W hW => ?y15⟩) hHeld ?r15
        · go_simp
        refine' wpAnyH_take (i := 7) (v := .int .u64 s) rfl (by kernel_rfl) (by kernel_rfl) (by kernel_rfl) (fun _ _ _ h => h) (Or.inl ⟨by kernel_rfl, fun W hW => ?y16⟩) hHeld ?r16
        · have z := (HD3.out W hW).2.2.2
          go_simp
        refine wpAnyH_ready (rs := [5]) (by kernel_rfl) (by simp) ?_
        refine AllReadyH.cons rfl (fun K hK => ?_) AllReadyH.nil
        go_simp
        refine cC.mono ?_
        rintro e w4 ⟨rfl, t4⟩
        have t34 := cur0.then_no t4
        refine hK.out _ _ t34 (fun hHeld => ?_)
        clear hK
        refine' wpAnyH_take (i := 8) (v := .bool ((S : Int) != (s : Int))) rfl (by kernel_rfl) (by kernel_rfl) (by kernel_rfl) (fun _ _ _ h => h) (Or.inl ⟨by kernel_rfl, fun W hW => ?y17⟩) hHeld ?r17
        · go_simp
        refine' wpAnyH_take (i := 9) (v := .bool ((S : Int) != (s : Int))) rfl (by kernel_rfl) (by kernel_rfl) (by kernel_rfl) (fun _ _ _ h => h) (Or.inl ⟨by kernel_rfl, fun W hW => ?y18⟩) hHeld ?r18
        · go_simp
        refine wpAnyH_done (by kernel_rfl) ?_ _
        generalize ((S : Int) != (s : Int)) = Q at *
        cases Q
        · go_wp2_with fail
          go_ret
          exact ⟨by rw [HE.out]; rfl, (t1.then_no t13).then_no t34⟩
        · go_wp2_with fail
          go_ret
          exact ⟨by rw [HE.out]; rfl, (t1.then_no t13).then_no t34⟩
    · rw [if_pos hE] at hsE
      have HE := shut' hsE
      have hE' : (E != 0) = true := by simpa using hE
      clear hsE
      go_wp2_with fail
      go_ret
      exact ⟨by rw [HE.out]; rfl, t1.then_no t2⟩
end Go.Proofs.Ytdbfbdhnjbmmjaa
