/- Texts in one. -/
import Derived.Test.YtaoigopjfelgpaaGreatDoorGa
/- Sound, of the program and of the document. -/
namespace Go.Proofs.YtaoigopjfelgpaaGreatDoor
open Go.RowKit
set_option linter.unusedVariables false

theorem step_sumR {S S' : Nat} {m : Rl} (h : min S' 1152921504606846976 = S) (hb : m.amt ≤ 1152921504606846975) : min (addN S' m.amt) 1152921504606846976 = stepR S m := by
  unfold stepR addN
  split <;> omega
theorem fold_sumR : ∀ (l : List Rl) (S S' : Nat), min S' 1152921504606846976 = S → (∀ m ∈ l, m.amt ≤ 1152921504606846975) → min (l.foldl (fun S m => addN S m.amt) S') 1152921504606846976 = l.foldl stepR S
  | [], _, _, h, _ => h
  | x :: r, S, S', h, hm => by
    have hx := hm x (List.mem_cons_self ..)
    exact fold_sumR r (stepR S x) (addN S' x.amt) (step_sumR h hx) (fun m h => hm m (List.mem_cons_of_mem _ h))
theorem scanR_ok (l : List Ac) : ∀ (r : List Rl) (p : Rl), scanR l p r = 0 → ∀ m ∈ r, m.amt ≤ 1152921504606846975
  | [], _, _, m, h => by cases h
  | x :: r, p, h, m, hm => by
    unfold scanR at h
    split at h
    · cases h
    · split at h
      · cases h
      · split at h
        · cases h
        · split at h
          · cases h
          · rename_i z
            rcases List.mem_cons.1 hm with rfl | hm
            · omega
            · exact scanR_ok l r x h m hm
theorem whole_sumR {l : List Ac} {r : List Rl} (b : Nat) (h : scanA 0 l = 0) (h2 : scanR l rl0 r = 0) : min (sumN b l r) 1152921504606846976 = wholeN b l r := by
  refine fold_sumR r _ _ (fold_sum l _ _ ?_ (scanA_ok l 0 h)) (scanR_ok l r rl0 h2)
  unfold addN
  split <;> omega
/-- What is wrong with a ledger. -/
def ledE (b : Nat) (l : List Ac) (r : List Rl) (s : Nat) : Int := if 65536 < l.length ∨ 65536 < r.length then 86 else if scanA 0 l ≠ 0 then scanA 0 l else if scanR l rl0 r ≠ 0 then scanR l rl0 r else if 1152921504606846975 < s ∨ wholeN b l r ≠ s then 87 else 0
theorem led_sum (b : Nat) (l : List Ac) (r : List Rl) (s : Nat) : ledE b l r s = if 65536 < l.length ∨ 65536 < r.length then 86 else if scanA 0 l ≠ 0 then scanA 0 l else if scanR l rl0 r ≠ 0 then scanR l rl0 r else if 1152921504606846975 < s ∨ sumN b l r ≠ s then 87 else 0 := by
  unfold ledE
  split
  · rfl
  · split
    · rfl
    · split
      · rfl
      · rename_i h1 h2
        have := whole_sumR (l := l) (r := r) b (by omega) (by omega)
        by_cases q : 1152921504606846975 < s ∨ wholeN b l r ≠ s
        · rw [if_pos q, if_pos (by omega)]
        · rw [if_neg q, if_neg (by omega)]

set_option maxRecDepth 100000 in
set_option maxHeartbeats 8000000 in
theorem sum23 (w : World) (va vr : Value) (l : List Ac) (r : List Rl) (ha : As w va l) (hr : Rs w vr r) (b s : Nat) : Calls Tryz.prog 21 #[.agg #[va, vr, .int .u64 b, .int .u64 s]] w fun e w' => e = .returned (.int .u64 (sumN b l r)) ∧ Turn no w w' := by
  obtain ⟨a, cap, rfl, h⟩ := ha
  obtain ⟨ra, rcap, rfl, hR⟩ := hr
  have hle : l.length ≤ 9223372036854775807 := by have := h.le; have := h.cap; simp only [maxLen] at this; omega
  have hle2 : r.length ≤ 9223372036854775807 := by have := hR.le; have := hR.cap; simp only [maxLen] at this; omega
  obtain ⟨w1, hw1⟩ : ∃ w1, w1 = w.alloc (.cells #[.slice a l.length cap, .slice ra r.length rcap, .int .u64 b, .int .u64 s] 30) := ⟨_, rfl⟩
  have t1 : Turn no w w1 := by rw [hw1]; exact (Turn.refl no w).alloc _
  have R1 : w1.heap[w.heap.size]? = some (.cells #[.slice a l.length cap, .slice ra r.length rcap, .int .u64 b, .int .u64 s] 30 (0, 0)) := by rw [hw1]; exact heap_alloc_new w _
  have d0 : w1.cell? ⟨w.heap.size, 0, none⟩ = some (.slice a l.length cap) := cell_of_row _ _ 0 _ 30 (0, 0) R1
  have d1 : w1.cell? ⟨w.heap.size, 1, none⟩ = some (.slice ra r.length rcap) := cell_of_row _ _ 1 _ 30 (0, 0) R1
  have d2 : w1.cell? ⟨w.heap.size, 2, none⟩ = some (.int .u64 b) := cell_of_row _ _ 2 _ 30 (0, 0) R1
  have hcells := shut (h.turn_no t1).cells
  have hcellR := shut (hR.turn_no t1).cells
  have c0 : Calls Tryz.prog 54 #[.int .u64 0, .int .u64 b] w1 fun e w' => e = .returned (.int .u64 (addN 0 b)) ∧ w' = w1 := add33 w1 0 b
  obtain ⟨n, hn⟩ : ∃ n, Hid (l.length = n) := ⟨_, rfl⟩
  have hn' : l.length = n := hn.out
  obtain ⟨nr, hnr⟩ : ∃ nr, Hid (r.length = nr) := ⟨_, rfl⟩
  have hnr' : r.length = nr := hnr.out
  rw [hn'] at hle d0
  rw [hnr'] at hle2 d1
  rw [hn', hnr'] at hw1
  rw [hn', hnr']
  clear hn' hnr' h R1 hR
  go_enter Tryz.func21, Tryz.ntmps21
  go_wp2_with fail
  try rw [← hw1]
  refine c0.mono ?_
  rintro e w2 ⟨rfl, rfl⟩
  clear hw1 c0
  go_wp2_with fail
  go_loopw [3, 4] (fun x c wr => ∃ k : Nat, k ≤ n ∧ c = .int .i64 k ∧ x = .int .u64 ((l.take k).foldl sumA (addN 0 b) : Nat) ∧ wr = w2) (fun _ c _ => n - (intOf c).toNat)
  case atStart => exact ⟨0, by omega, rfl, rfl, rfl⟩
  case round =>
    obtain ⟨k, hk, rfl, rfl, rfl⟩ := hrel
    by_cases hlt : k < n
    · obtain ⟨m, hm⟩ : ∃ m, l[k]? = some m := ⟨l[k]'(by rw [hn.out]; exact hlt), List.getElem?_eq_getElem _⟩
      obtain ⟨bb, off, rfl, _, c1, c2, _⟩ := hcells.out k m hm
      have hlt' : (k : Int) < (n : Int) := by omega
      have hk1 : Hid (k + 1 ≤ n) := hlt
      have hst := shut' (foldl_take sumA (addN 0 b) l k m hm)
      generalize (l.take k).foldl sumA (addN 0 b) = S at *
      clear hm
      go_wp2_with fail
      refine (add33 _ S m.bal).mono ?_
      rintro e w3 ⟨rfl, rfl⟩
      go_wp2_with fail
      refine (add33 _ (addN S m.bal) m.bond).mono ?_
      rintro e w3 ⟨rfl, rfl⟩
      go_wp2_with fail
      go_roundw
      case rel => exact ⟨k + 1, hk1.out, by go_num, by rw [hst.out]; rfl, by trivial⟩
      case measure => have := hk1.out; simp [intOf]; omega
    · have hlt' : ¬ (k : Int) < (n : Int) := by omega
      have hfull : l.take k = l := List.take_of_length_le (by have := hn.out; omega)
      rw [hfull]
      have HE : Hid (r.foldl (fun S m => addN S m.amt) (l.foldl sumA (addN 0 b)) = sumN b l r) := rfl
      generalize l.foldl sumA (addN 0 b) = S at *
      clear hcells hfull
      go_wp2_with fail
      go_loopw [3, 5] (fun x c wq => ∃ j : Nat, j ≤ nr ∧ c = .int .i64 j ∧ x = .int .u64 ((r.take j).foldl (fun S m => addN S m.amt) S : Nat) ∧ wq = wr) (fun _ c _ => nr - (intOf c).toNat)
      case atStart => exact ⟨0, by omega, rfl, rfl, rfl⟩
      case round =>
        obtain ⟨j, hj, rfl, rfl, rfl⟩ := hrel
        by_cases hlt2 : j < nr
        · obtain ⟨m, hm⟩ : ∃ m, r[j]? = some m := ⟨r[j]'(by rw [hnr.out]; exact hlt2), List.getElem?_eq_getElem _⟩
          obtain ⟨bb, off, rfl, _, _, _, c3⟩ := hcellR.out j m hm
          have hlt2' : (j : Int) < (nr : Int) := by omega
          have hj1 : Hid (j + 1 ≤ nr) := hlt2
          have hst := shut' (foldl_take (fun S (m : Rl) => addN S m.amt) S r j m hm)
          generalize (r.take j).foldl (fun S m => addN S m.amt) S = S2 at *
          clear hm HE
          go_wp2_with fail
          refine (add33 _ S2 m.amt).mono ?_
          rintro e w3 ⟨rfl, rfl⟩
          go_wp2_with fail
          go_roundw
          case rel => exact ⟨j + 1, hj1.out, by go_num, by rw [hst.out], by trivial⟩
          case measure => have := hj1.out; simp [intOf]; omega
        · have hlt2' : ¬ (j : Int) < (nr : Int) := by omega
          have hfull : r.take j = r := List.take_of_length_le (by have := hnr.out; omega)
          rw [hfull]
          generalize r.foldl (fun S m => addN S m.amt) S = S2 at *
          clear hcellR hfull
          go_wp2_with fail
          go_ret
          exact ⟨by rw [← HE.out]; rfl, t1⟩

set_option maxRecDepth 100000 in
set_option maxHeartbeats 8000000 in
theorem sound11 (w : World) (va vr : Value) (l : List Ac) (r : List Rl) (ha : As w va l) (hr : Rs w vr r) (b s : Nat) : Calls Tryz.prog 24 #[.agg #[va, vr, .int .u64 b, .int .u64 s]] w fun e w' => e = .returned (.int .i64 (ledE b l r s)) ∧ Turn no w w' := by
  obtain ⟨a, cap, rfl, h⟩ := id ha
  obtain ⟨ra, rcap, rfl, hR⟩ := id hr
  have hle : l.length ≤ 9223372036854775807 := by have := h.le; have := h.cap; simp only [maxLen] at this; omega
  have hle2 : r.length ≤ 9223372036854775807 := by have := hR.le; have := hR.cap; simp only [maxLen] at this; omega
  obtain ⟨w1, hw1⟩ : ∃ w1, w1 = w.alloc (.cells #[.slice a l.length cap, .slice ra r.length rcap, .int .u64 b, .int .u64 s] 30) := ⟨_, rfl⟩
  have t1 : Turn no w w1 := by rw [hw1]; exact (Turn.refl no w).alloc _
  have R1 : w1.heap[w.heap.size]? = some (.cells #[.slice a l.length cap, .slice ra r.length rcap, .int .u64 b, .int .u64 s] 30 (0, 0)) := by rw [hw1]; exact heap_alloc_new w _
  have d : ∀ W, Turn no w1 W → W.cell? ⟨w.heap.size, 0, none⟩ = some (.slice a l.length cap) ∧ W.cell? ⟨w.heap.size, 1, none⟩ = some (.slice ra r.length rcap) ∧ W.cell? ⟨w.heap.size, 2, none⟩ = some (.int .u64 b) ∧ W.cell? ⟨w.heap.size, 3, none⟩ = some (.int .u64 s) := fun W t =>
    ⟨t.keep (cell_of_row _ _ 0 _ 30 (0, 0) R1) (fun q => q), t.keep (cell_of_row _ _ 1 _ 30 (0, 0) R1) (fun q => q), t.keep (cell_of_row _ _ 2 _ 30 (0, 0) R1) (fun q => q), t.keep (cell_of_row _ _ 3 _ 30 (0, 0) R1) (fun q => q)⟩
  have HD := shut' d
  have cA : l.length ≤ 65536 → ∀ W (t : Turn no w1 W), Calls Tryz.prog 55 #[.slice a l.length cap] W fun e w' => e = .returned (.int .i64 (scanA 0 l)) ∧ Turn no W w' := fun _ W t => soundA27 W _ l (ha.turn_no (t1.then_no t))
  have cR : l.length ≤ 65536 → scanA 0 l = 0 → ∀ W (t : Turn no w1 W), Calls Tryz.prog 56 #[.slice a l.length cap, .slice ra r.length rcap] W fun e w' => e = .returned (.int .i64 (scanR l rl0 r)) ∧ Turn no W w' := fun h1 h2 W t => soundR28 W _ _ l r (ha.turn_no (t1.then_no t)) (hr.turn_no (t1.then_no t)) (scanA_asc l 0 h2).1 h1
  have cW : ∀ W (t : Turn no w1 W), Calls Tryz.prog 23 #[.agg #[.slice a l.length cap, .slice ra r.length rcap, .int .u64 b, .int .u64 s]] W fun e w' => e = .returned (.int .u64 (wholeN b l r : Nat)) ∧ Turn no W w' := fun W t => whole21 W _ _ l r (ha.turn_no (t1.then_no t)) (hr.turn_no (t1.then_no t)) b s
  have HA := shut' cA
  have HRR := shut' cR
  have HC := shut' cW
  obtain ⟨n, hn⟩ : ∃ n, Hid (l.length = n) := ⟨_, rfl⟩
  have hn' : l.length = n := hn.out
  obtain ⟨nr, hnr⟩ : ∃ nr, Hid (r.length = nr) := ⟨_, rfl⟩
  have hnr' : r.length = nr := hnr.out
  have hsE : ledE b l r s = if 65536 < n ∨ 65536 < nr then 86 else if scanA 0 l ≠ 0 then scanA 0 l else if scanR l rl0 r ≠ 0 then scanR l rl0 r else if 1152921504606846975 < s ∨ wholeN b l r ≠ s then 87 else 0 := by rw [← hn', ← hnr']; exact rfl
  rw [hn'] at hle HA
  rw [hnr'] at hle2
  rw [hn', hnr'] at hw1 HD HC HRR
  rw [hn', hnr']
  obtain ⟨z0, z1, z2, z3⟩ := HD.out w1 (Turn.refl no w1)
  clear d cA cW cR h ha hr hR R1 hn' hnr'
  generalize scanA 0 l = E at *
  generalize scanR l rl0 r = F at *
  generalize wholeN b l r = S at *
  generalize ledE b l r s = RR at *
  by_cases h6 : 65536 < n
  · rw [if_pos (.inl h6)] at hsE
    have h6' : (65536 : Int) < (n : Int) := by omega
    have HE := shut' hsE
    clear hsE
    go_enter Tryz.func24, Tryz.ntmps24
    go_wp2_with fail
    go_ret
    exact ⟨by rw [HE.out]; rfl, by rw [← hw1]; exact t1⟩
  have h6' : ¬ (65536 : Int) < (n : Int) := by omega
  by_cases h7 : 65536 < nr
  · rw [if_pos (.inr h7)] at hsE
    have h7' : (65536 : Int) < (nr : Int) := by omega
    have HE := shut' hsE
    clear hsE
    go_enter Tryz.func24, Tryz.ntmps24
    go_wp2_with fail
    go_ret
    exact ⟨by rw [HE.out]; rfl, by rw [← hw1]; exact t1⟩
  · rw [if_neg (by omega)] at hsE
    have h7' : ¬ (65536 : Int) < (nr : Int) := by omega
    have c1 := HA.out (by omega) w1 (Turn.refl no w1)
    have HN6 : Shut (n ≤ 65536) := by show n ≤ 65536; omega
    clear h6 h7
    go_enter Tryz.func24, Tryz.ntmps24
    go_wp2_with fail
    try rw [← hw1]
    refine c1.mono ?_
    rintro e w2 ⟨rfl, t2⟩
    obtain ⟨y0, y1, y2, y3⟩ := HD.out w2 t2
    clear z0 z1 z2 z3 c1 hw1
    by_cases hE : E = 0
    · rw [if_neg (by simpa using hE)] at hsE
      have c2 := HRR.out HN6.out hE w2 t2
      subst hE
      go_wp2_with fail
      refine c2.mono ?_
      rintro e w3 ⟨rfl, t3⟩
      have t13 := t2.then_no t3
      obtain ⟨x0, x1, x2, x3⟩ := HD.out w3 t13
      clear y0 y1 y2 y3 c2
      by_cases hF : F = 0
      · rw [if_neg (by simpa using hF)] at hsE
        subst hF
        have D0 : ∀ W, Turn no w3 W → _ := fun W t => HD.out W (t13.then_no t)
        have HD3 := shut' D0
        clear D0
        by_cases hs : 1152921504606846975 < s
        · rw [if_pos (.inl hs)] at hsE
          have HE := shut' hsE
          have hs' : (1152921504606846975 : Int) < (s : Int) := by omega
          have hd : decide ((1152921504606846975 : Int) < (s : Int)) = true := by simp; omega
          clear hsE
          go_wp2_with fail
          refine wp_region_held_drew (S := fun W => Turn no w3 W) (by kernel_rfl) (Turn.refl no w3).drew (fun hHeld => ?_)
          refine' wpAnyH_take (i := 0) (v := .pointer (some ⟨w.heap.size, 3, none⟩)) rfl (by kernel_rfl) (by kernel_rfl) (by kernel_rfl) (fun _ _ _ h => h) (Or.inl ⟨by kernel_rfl, fun W hW => ?y1⟩) hHeld ?r1
          · go_simp
          refine' wpAnyH_take (i := 1) (v := .int .u64 s) rfl (by kernel_rfl) (by kernel_rfl) (by kernel_rfl) (fun _ _ _ h => h) (Or.inl ⟨by kernel_rfl, fun W hW => ?y2⟩) hHeld ?r2
          · have z := (HD3.out W hW).2.2.2
            go_simp
          refine' wpAnyH_take (i := 2) (v := .bool true) rfl (by kernel_rfl) (by kernel_rfl) (by kernel_rfl) (fun _ _ _ h => h) (Or.inl ⟨by kernel_rfl, fun W hW => ?y3⟩) hHeld ?r3
          · go_simp
          refine' wpAnyH_take (i := 3) (v := .bool true) rfl (by kernel_rfl) (by kernel_rfl) (by kernel_rfl) (fun _ _ _ h => h) (Or.inl ⟨by kernel_rfl, fun W hW => ?y4⟩) hHeld ?r4
          · go_simp
          refine' wpAnyH_take (i := 4) (v := undef) rfl (by kernel_rfl) (by kernel_rfl) (by kernel_rfl) (fun _ _ _ h => h) (Or.inr ⟨by kernel_rfl, rfl⟩) hHeld ?r5
          refine' wpAnyH_take (i := 6) (v := undef) rfl (by kernel_rfl) (by kernel_rfl) (by kernel_rfl) (fun _ _ _ h => h) (Or.inr ⟨by kernel_rfl, rfl⟩) hHeld ?r6
          refine' wpAnyH_take (i := 7) (v := undef) rfl (by kernel_rfl) (by kernel_rfl) (by kernel_rfl) (fun _ _ _ h => h) (Or.inr ⟨by kernel_rfl, rfl⟩) hHeld ?r7
          refine wpAnyH_ready (rs := [5]) (by kernel_rfl) (by simp) ?_
          refine AllReadyH.cons rfl (fun K hK => ?_) AllReadyH.nil
          go_simp
          refine hK.out _ _ hHeld (fun hHeld => ?_)
          clear hK
          refine' wpAnyH_take (i := 8) (v := undef) rfl (by kernel_rfl) (by kernel_rfl) (by kernel_rfl) (fun _ _ _ h => h) (Or.inr ⟨by kernel_rfl, rfl⟩) hHeld ?r8
          refine' wpAnyH_take (i := 9) (v := .bool true) rfl (by kernel_rfl) (by kernel_rfl) (by kernel_rfl) (fun _ _ _ h => h) (Or.inl ⟨by kernel_rfl, fun W hW => ?y9⟩) hHeld ?r9
          · go_simp
          refine wpAnyH_done (by kernel_rfl) ?_ _
          go_wp2_with fail
          go_ret
          exact ⟨by rw [HE.out]; rfl, (t1.then_no t13).then_no (Turn.refl no w3).drew⟩
        · have hs' : ¬ (1152921504606846975 : Int) < (s : Int) := by omega
          have hd : decide ((1152921504606846975 : Int) < (s : Int)) = false := by simp; omega
          have cur0 : Turn no w3 w3.drew := (Turn.refl no w3).drew
          have cC := HC.out w3.drew (t13.then_no cur0)
          have hsE' : RR = if ((S : Int) != (s : Int)) = true then 87 else 0 := by
            rw [hsE]
            by_cases q : S = s
            · rw [if_neg (by omega), if_neg (by simp; omega)]
            · rw [if_pos (.inr q), if_pos (by simp; omega)]
          have HE := shut' hsE'
          clear hsE hsE'
          go_wp2_with fail
          refine wp_region_held_drew (S := fun W => Turn no w3 W) (by kernel_rfl) (Turn.refl no w3).drew (fun hHeld => ?_)
          refine' wpAnyH_take (i := 0) (v := .pointer (some ⟨w.heap.size, 3, none⟩)) rfl (by kernel_rfl) (by kernel_rfl) (by kernel_rfl) (fun _ _ _ h => h) (Or.inl ⟨by kernel_rfl, fun W hW => ?y10⟩) hHeld ?r10
          · go_simp
          refine' wpAnyH_take (i := 1) (v := .int .u64 s) rfl (by kernel_rfl) (by kernel_rfl) (by kernel_rfl) (fun _ _ _ h => h) (Or.inl ⟨by kernel_rfl, fun W hW => ?y11⟩) hHeld ?r11
          · have z := (HD3.out W hW).2.2.2
            go_simp
          refine' wpAnyH_take (i := 2) (v := .bool false) rfl (by kernel_rfl) (by kernel_rfl) (by kernel_rfl) (fun _ _ _ h => h) (Or.inl ⟨by kernel_rfl, fun W hW => ?y12⟩) hHeld ?r12
          · go_simp
          refine' wpAnyH_take (i := 3) (v := .bool false) rfl (by kernel_rfl) (by kernel_rfl) (by kernel_rfl) (fun _ _ _ h => h) (Or.inl ⟨by kernel_rfl, fun W hW => ?y13⟩) hHeld ?r13
          · go_simp
          refine' wpAnyH_take (i := 4) (v := .agg #[.slice a n cap, .slice ra nr rcap, .int .u64 b, .int .u64 s]) rfl (by kernel_rfl) (by kernel_rfl) (by kernel_rfl) (fun _ _ _ h => h) (Or.inl ⟨by kernel_rfl, fun W hW => ?y14⟩) hHeld ?r14
          · obtain ⟨q0, q1, q2, q3⟩ := HD3.out W hW
            go_simp
          refine' wpAnyH_take (i := 6) (v := .pointer (some ⟨w.heap.size, 3, none⟩)) rfl (by kernel_rfl) (by kernel_rfl) (by kernel_rfl) (fun _ _ _ h => h) (Or.inl ⟨by kernel_rfl, fun W hW => ?y15⟩) hHeld ?r15
          · go_simp
          refine' wpAnyH_take (i := 7) (v := .int .u64 s) rfl (by kernel_rfl) (by kernel_rfl) (by kernel_rfl) (fun _ _ _ h => h) (Or.inl ⟨by kernel_rfl, fun W hW => ?y16⟩) hHeld ?r16
          · have z := (HD3.out W hW).2.2.2
            go_simp
          refine wpAnyH_ready (rs := [5]) (by kernel_rfl) (by simp) ?_
          refine AllReadyH.cons rfl (fun K hK => ?_) AllReadyH.nil
          go_simp
          refine cC.mono ?_
          rintro e w4 ⟨rfl, t4⟩
          have t34 := cur0.then_no t4
          refine hK.out _ _ t34 (fun hHeld => ?_)
          clear hK
          refine' wpAnyH_take (i := 8) (v := .bool ((S : Int) != (s : Int))) rfl (by kernel_rfl) (by kernel_rfl) (by kernel_rfl) (fun _ _ _ h => h) (Or.inl ⟨by kernel_rfl, fun W hW => ?y17⟩) hHeld ?r17
          · go_simp
          refine' wpAnyH_take (i := 9) (v := .bool ((S : Int) != (s : Int))) rfl (by kernel_rfl) (by kernel_rfl) (by kernel_rfl) (fun _ _ _ h => h) (Or.inl ⟨by kernel_rfl, fun W hW => ?y18⟩) hHeld ?r18
          · go_simp
          refine wpAnyH_done (by kernel_rfl) ?_ _
          generalize ((S : Int) != (s : Int)) = Q at *
          cases Q
          · go_wp2_with fail
            go_ret
            exact ⟨by rw [HE.out]; rfl, (t1.then_no t13).then_no t34⟩
          · go_wp2_with fail
            go_ret
            exact ⟨by rw [HE.out]; rfl, (t1.then_no t13).then_no t34⟩
      · rw [if_pos hF] at hsE
        have HE := shut' hsE
        have hF' : (F != 0) = true := by simpa using hF
        clear hsE
        go_wp2_with fail
        go_ret
        exact ⟨by rw [HE.out]; rfl, t1.then_no t13⟩
    · rw [if_pos hE] at hsE
      have HE := shut' hsE
      have hE' : (E != 0) = true := by simpa using hE
      clear hsE
      go_wp2_with fail
      go_ret
      exact ⟨by rw [HE.out]; rfl, t1.then_no t2⟩
end Go.Proofs.YtaoigopjfelgpaaGreatDoor



/- The document's rows and Sound. -/
namespace Go.Proofs.YtaoigopjfelgpaaGreatDoor
open Go.RowKit
set_option linter.unusedVariables false

/-- The row ahead of place k. -/
def prevR (r : List Rl) (k : Nat) : Rl := if k = 0 then rl0 else match r[k - 1]? with | some m => m | none => rl0
theorem prevR_succ {r : List Rl} {k : Nat} {m : Rl} (h : r[k]? = some m) : prevR r (k + 1) = m := by simp [prevR, h]
theorem has_pos {l : List Ac} {x : Nat} (hp : ∀ m ∈ l, 0 < m.ad) (h : hasB l x = true) : 0 < x := by
  unfold hasB at h
  obtain ⟨m, hm, e⟩ := List.any_eq_true.1 h
  have := hp m hm
  have : m.ad = x := by simpa using e
  omega
set_option maxRecDepth 100000 in
set_option maxHeartbeats 8000000 in
theorem rows31 (w : World) (va vr : Value) (l : List Ac) (r : List Rl) (ha : As w va l) (hr : Rs w vr r) (hA : Asc l) (hpos : ∀ m ∈ l, 0 < m.ad) (hl : l.length ≤ 65536) (b s : Nat) : Calls Tryz.prog 71 #[.agg #[va, vr, .int .u64 b, .int .u64 s]] w fun e w' => e = .returned (.int .i64 (scanR l rl0 r)) ∧ Turn no w w' := by
  have HA0 := shut ha
  obtain ⟨a, cap, rfl, h⟩ := ha
  obtain ⟨ra, rcap, rfl, hR⟩ := hr
  have hle2 : r.length ≤ 9223372036854775807 := by have := hR.le; have := hR.cap; simp only [maxLen] at this; omega
  obtain ⟨w1, hw1⟩ : ∃ w1, w.alloc (.cells #[.slice a l.length cap, .slice ra r.length rcap, .int .u64 b, .int .u64 s] 30) = w1 := ⟨_, rfl⟩
  have t1 : Turn no w w1 := by rw [← hw1]; exact (Turn.refl no w).alloc _
  have R1 : w1.heap[w.heap.size]? = some (.cells #[.slice a l.length cap, .slice ra r.length rcap, .int .u64 b, .int .u64 s] 30 (0, 0)) := by rw [← hw1]; exact heap_alloc_new w _
  have HD : Shut (∀ W, Turn no w1 W → W.cell? ⟨w.heap.size, 0, none⟩ = some (.slice a l.length cap) ∧ W.cell? ⟨w.heap.size, 1, none⟩ = some (.slice ra r.length rcap) ∧ RsAt W ra rcap r ∧ Turn no w W) := fun W t =>
    ⟨t.keep (cell_of_row _ _ 0 _ 30 (0, 0) R1) (fun q => q), t.keep (cell_of_row _ _ 1 _ 30 (0, 0) R1) (fun q => q), hR.turn_no (t1.then_no t), t1.then_no t⟩
  have HH : Shut (∀ W (x : Nat), Turn no w1 W → Calls Tryz.prog 97 #[.slice a l.length cap, .int .u64 x] W fun e w' => e = .returned (.bool (hasB l x)) ∧ Turn no W w') := fun W x t => has41 W _ l (HA0.out.turn_no (t1.then_no t)) hA hl x
  have HP : Shut (∀ x, hasB l x = true → 0 < x) := fun x => has_pos hpos
  obtain ⟨n, hn⟩ : ∃ n, Hid (r.length = n) := ⟨_, rfl⟩
  have hn' : r.length = n := hn.out
  obtain ⟨ln, hln⟩ : ∃ ln, Hid (l.length = ln) := ⟨_, rfl⟩
  have hln' : l.length = ln := hln.out
  rw [hn'] at hle2
  rw [hn', hln'] at HD hw1 ⊢
  rw [hln'] at HH
  clear hn' hln' h hR R1 t1 hA hpos
  generalize hE : scanR l rl0 r = E
  have HE : Shut (E = scanR l rl0 (r.drop 0)) := by show _ = _; rw [← hE]; rfl
  clear hE
  go_enter Tryz.func71, Tryz.ntmps71
  go_wp2_with fail
  try rw [hw1]
  clear hw1
  go_loopw [3] (fun x wr => ∃ k : Nat, k ≤ n ∧ x = .int .i64 k ∧ Shut (E = scanR l (prevR r k) (r.drop k) ∧ Turn no w1 wr)) (fun x _ => n - (intOf x).toNat)
  case atStart => exact ⟨0, by omega, rfl, HE.out, Turn.refl _ _⟩
  case round =>
    obtain ⟨k, hk, rfl, HI⟩ := hrel
    obtain ⟨d0, d1, hR, hTW⟩ := HD.out wr HI.out.2
    by_cases hlt : k < n
    · obtain ⟨m, hm⟩ : ∃ m, r[k]? = some m := ⟨r[k]'(by rw [hn.out]; exact hlt), List.getElem?_eq_getElem _⟩
      obtain ⟨bb, off, rfl, c0, c1, c2, c3⟩ := hR.cells k m hm
      have hlt' : (k : Int) < (n : Int) := by omega
      have hk1 : Hid (k + 1 ≤ n) := hlt
      have hst := scanR_at (l := l) hm (prevR r k)
      rw [← HI.out.1] at hst
      obtain ⟨w2, hw2⟩ : ∃ w2, wr.alloc (.cells #[.int .u64 m.ht, .int .u64 m.ad, .int .u64 m.born, .int .u64 m.amt] 67) = w2 := ⟨_, rfl⟩
      have TA : Turn no wr w2 := by rw [← hw2]; exact (Turn.refl no wr).alloc _
      have R2 : w2.heap[wr.heap.size]? = some (.cells #[.int .u64 m.ht, .int .u64 m.ad, .int .u64 m.born, .int .u64 m.amt] 67 (0, 0)) := by rw [← hw2]; exact heap_alloc_new wr _
      have m1 := (row4 R2).2.1
      have e0 := TA.keep d0 (fun q => q)
      have hh := HH.out w2 m.ad (HI.out.2.then_no TA)
      have HM := shut hm
      have HR2 := shut R2
      have HTA := shut (HI.out.2.then_no TA)
      clear R2 TA hm
      go_upto_region 5 with fail
      try rw [hw2]
      clear hw2 c0 c1 c2 c3 d0 d1
      go_upto_region 6 with (go_at_call 97; refine hh.mono ?_; clear hh; rintro e w3 ⟨rfl, t3⟩)
      have HT3 := shut (HTA.out.then_no t3)
      have HR3 := shut (t3.obj HR2.out (fun q => q))
      obtain ⟨y0, y1, hR3, hTW3⟩ := HD.out w3 HT3.out
      have HTW := shut hTW3
      have HRR := shut hR3
      obtain ⟨d0, d1, d2, d3⟩ := row4 HR3.out
      have hpp := HP.out m.ad
      clear t3 HR2 HTA m1 e0 hTW3 hR3 hTW hR
      generalize hasB l m.ad = hb at *
      cases hb with
      | false =>
        rw [if_pos rfl] at hst
        have HW := shut hst
        clear hst hpp
        go_wp2_with fail
        go_ret
        exact ⟨by rw [HW.out]; rfl, HTW.out⟩
      | true =>
        rw [if_neg (by decide)] at hst
        have hma := hpp rfl
        clear hpp
        by_cases a1 : 1099511627776 < m.born
        · rw [if_pos (.inl a1)] at hst
          have HW := shut hst
          have a1' : (1099511627776 : Int) < (m.born : Int) := by omega
          clear hst a1
          go_wp2_with fail
          go_ret
          exact ⟨by rw [HW.out]; rfl, HTW.out⟩
        have a1' : ¬ (1099511627776 : Int) < (m.born : Int) := by omega
        by_cases a2 : m.ht < m.born
        · rw [if_pos (.inr (.inl a2))] at hst
          have HW := shut hst
          have a2' : (m.ht : Int) < (m.born : Int) := by omega
          clear hst a1 a2
          go_wp2_with fail
          go_ret
          exact ⟨by rw [HW.out]; rfl, HTW.out⟩
        have a2' : ¬ (m.ht : Int) < (m.born : Int) := by omega
        by_cases a3 : 1103806595072 < m.ht
        · rw [if_pos (.inr (.inr a3))] at hst
          have HW := shut hst
          have a3' : (1103806595072 : Int) < (m.ht : Int) := by omega
          clear hst a1 a2 a3
          go_wp2_with fail
          go_ret
          exact ⟨by rw [HW.out]; rfl, HTW.out⟩
        have a3' : ¬ (1103806595072 : Int) < (m.ht : Int) := by omega
        rw [if_neg (by omega)] at hst
        clear a1 a2 a3
        go_upto_region 10 with fail
        clear a1' a2' a3'
        by_cases k0 : k = 0
        · have k0' : ¬ (0 : Int) < (k : Int) := by omega
          have hpv : prevR r k = rl0 := by simp [prevR, k0]
          rw [hpv, if_neg (by simp only [rl0]; omega)] at hst
          clear hpv k0
          by_cases a5 : m.amt = 0
          · rw [if_pos (.inl a5)] at hst
            have HW := shut hst
            have a5' : ((m.amt : Int) == 0) = true := by simp; omega
            clear hst a5
            go_wp2_with fail
            go_ret
            exact ⟨by rw [HW.out]; rfl, HTW.out⟩
          have a5' : ((m.amt : Int) == 0) = false := by simp; omega
          by_cases a6 : 1152921504606846975 < m.amt
          · rw [if_pos (.inr a6)] at hst
            have HW := shut hst
            have a6' : (1152921504606846975 : Int) < (m.amt : Int) := by omega
            clear hst a5 a6
            go_wp2_with fail
            go_ret
            exact ⟨by rw [HW.out]; rfl, HTW.out⟩
          have a6' : ¬ (1152921504606846975 : Int) < (m.amt : Int) := by omega
          rw [if_neg (by omega)] at hst
          have HN : Shut (E = scanR l (prevR r (k + 1)) (r.drop (k + 1)) ∧ Turn no w1 _) := ⟨by rw [prevR_succ HM.out]; exact hst, HT3.out⟩
          clear hst a5 a6
          go_wp2_with fail
          go_roundw
          case rel => exact ⟨k + 1, hk1.out, by go_num, HN⟩
          case measure => have := hk1.out; simp [intOf]; omega
        · have k0' : (0 : Int) < (k : Int) := by omega
          obtain ⟨k', hk'⟩ : ∃ k', k = k' + 1 := ⟨k - 1, by omega⟩
          obtain ⟨y, hy⟩ : ∃ y, r[k']? = some y := ⟨r[k']'(by rw [hn.out]; omega), List.getElem?_eq_getElem _⟩
          have hpv : prevR r k = y := by rw [hk']; exact prevR_succ hy
          rw [hpv] at hst
          obtain ⟨b2, off2, e2, c0, c1, c2, c3⟩ := HRR.out.cells k' y hy
          cases e2
          have hw : IntKind.i64.wrap ((k : Int) - 1) = (k' : Int) := by rw [IntKind.wrap_i64]; omega
          have hlk : (k' : Int) < (n : Int) := by omega
          obtain ⟨w4, hw4⟩ : ∃ w4, w3.alloc (.cells #[.int .u64 y.ht, .int .u64 y.ad, .int .u64 y.born, .int .u64 y.amt] 67) = w4 := ⟨_, rfl⟩
          have TB : Turn no w3 w4 := by rw [← hw4]; exact (Turn.refl no w3).alloc _
          have R4 : w4.heap[w3.heap.size]? = some (.cells #[.int .u64 y.ht, .int .u64 y.ad, .int .u64 y.born, .int .u64 y.amt] 67 (0, 0)) := by rw [← hw4]; exact heap_alloc_new w3 _
          obtain ⟨q0, q1, q2, q3⟩ := row4 R4
          have HT4 := shut (HT3.out.then_no TB)
          have HTW4 := shut (HTW.out.then_no TB)
          have HR4 := shut (TB.obj HR3.out (fun q => q))
          clear R4 hy hpv hk' k0 TB
          go_upto_region 12 with fail
          try rw [hw4]
          clear c0 c1 c2 c3 hw hlk y0 y1 d0 d1 d2 d3 hw4 k0'
          obtain ⟨d0, d1, d2, d3⟩ := row4 HR4.out
          by_cases o1 : m.ht < y.ht
          · rw [if_pos (.inl o1)] at hst
            have HW := shut hst
            have o1' : (m.ht : Int) < (y.ht : Int) := by omega
            clear hst o1
            go_wp2_with fail
            go_ret
            exact ⟨by rw [HW.out]; rfl, HTW4.out⟩
          have o1' : ¬ (m.ht : Int) < (y.ht : Int) := by omega
          by_cases o2 : m.ht = y.ht
          · have o2' : ((m.ht : Int) == (y.ht : Int)) = true := by simp; omega
            by_cases o3 : m.ad ≤ y.ad
            · rw [if_pos (.inr ⟨o2, o3⟩)] at hst
              have HW := shut hst
              have o3' : (m.ad : Int) ≤ (y.ad : Int) := by omega
              clear hst o1 o2 o3
              go_wp2_with fail
              go_ret
              exact ⟨by rw [HW.out]; rfl, HTW4.out⟩
            · have o3' : ¬ (m.ad : Int) ≤ (y.ad : Int) := by omega
              rw [if_neg (by omega)] at hst
              clear o1 o2 o3
              go_upto_region 14 with fail
              clear q0 q1 q2 q3 o1' o2' o3'
              by_cases a5 : m.amt = 0
              · rw [if_pos (.inl a5)] at hst
                have HW := shut hst
                have a5' : ((m.amt : Int) == 0) = true := by simp; omega
                clear hst a5
                go_wp2_with fail
                go_ret
                exact ⟨by rw [HW.out]; rfl, HTW4.out⟩
              have a5' : ((m.amt : Int) == 0) = false := by simp; omega
              by_cases a6 : 1152921504606846975 < m.amt
              · rw [if_pos (.inr a6)] at hst
                have HW := shut hst
                have a6' : (1152921504606846975 : Int) < (m.amt : Int) := by omega
                clear hst a5 a6
                go_wp2_with fail
                go_ret
                exact ⟨by rw [HW.out]; rfl, HTW4.out⟩
              have a6' : ¬ (1152921504606846975 : Int) < (m.amt : Int) := by omega
              rw [if_neg (by omega)] at hst
              have HN : Shut (E = scanR l (prevR r (k + 1)) (r.drop (k + 1)) ∧ Turn no w1 _) := ⟨by rw [prevR_succ HM.out]; exact hst, HT4.out⟩
              clear hst a5 a6
              go_wp2_with fail
              go_roundw
              case rel => exact ⟨k + 1, hk1.out, by go_num, HN⟩
              case measure => have := hk1.out; simp [intOf]; omega
          · have o2' : ((m.ht : Int) == (y.ht : Int)) = false := by simp; omega
            rw [if_neg (by omega)] at hst
            clear o1 o2
            go_upto_region 14 with fail
            clear q0 q1 q2 q3 o1' o2'
            by_cases a5 : m.amt = 0
            · rw [if_pos (.inl a5)] at hst
              have HW := shut hst
              have a5' : ((m.amt : Int) == 0) = true := by simp; omega
              clear hst a5
              go_wp2_with fail
              go_ret
              exact ⟨by rw [HW.out]; rfl, HTW4.out⟩
            have a5' : ((m.amt : Int) == 0) = false := by simp; omega
            by_cases a6 : 1152921504606846975 < m.amt
            · rw [if_pos (.inr a6)] at hst
              have HW := shut hst
              have a6' : (1152921504606846975 : Int) < (m.amt : Int) := by omega
              clear hst a5 a6
              go_wp2_with fail
              go_ret
              exact ⟨by rw [HW.out]; rfl, HTW4.out⟩
            have a6' : ¬ (1152921504606846975 : Int) < (m.amt : Int) := by omega
            rw [if_neg (by omega)] at hst
            have HN : Shut (E = scanR l (prevR r (k + 1)) (r.drop (k + 1)) ∧ Turn no w1 _) := ⟨by rw [prevR_succ HM.out]; exact hst, HT4.out⟩
            clear hst a5 a6
            go_wp2_with fail
            go_roundw
            case rel => exact ⟨k + 1, hk1.out, by go_num, HN⟩
            case measure => have := hk1.out; simp [intOf]; omega
    · have hlt' : ¬ (k : Int) < (n : Int) := by omega
      have hkn : k = n := by omega
      subst hkn
      have HE2 : Shut (E = 0) := by
        have := HI.out.1
        rw [List.drop_eq_nil_of_le (by rw [hn.out]; exact Nat.le_refl _)] at this
        exact this
      have HTW := shut hTW
      clear HI HE hTW hR
      go_wp2_with fail
      go_ret
      exact ⟨by rw [HE2.out]; rfl, HTW.out⟩

set_option maxRecDepth 100000 in
set_option maxHeartbeats 8000000 in
theorem sound14 (w : World) (va vr : Value) (l : List Ac) (r : List Rl) (ha : As w va l) (hr : Rs w vr r) (b s : Nat) : Calls Tryz.prog 46 #[.agg #[va, vr, .int .u64 b, .int .u64 s]] w fun e w' => e = .returned (.int .i64 (ledE b l r s)) ∧ Turn no w w' := by
  obtain ⟨a, cap, rfl, h⟩ := id ha
  obtain ⟨ra, rcap, rfl, hR⟩ := id hr
  have hle : l.length ≤ 9223372036854775807 := by have := h.le; have := h.cap; simp only [maxLen] at this; omega
  have hle2 : r.length ≤ 9223372036854775807 := by have := hR.le; have := hR.cap; simp only [maxLen] at this; omega
  obtain ⟨w1, hw1⟩ : ∃ w1, w1 = w.alloc (.cells #[.slice a l.length cap, .slice ra r.length rcap, .int .u64 b, .int .u64 s] 30) := ⟨_, rfl⟩
  have t1 : Turn no w w1 := by rw [hw1]; exact (Turn.refl no w).alloc _
  have R1 : w1.heap[w.heap.size]? = some (.cells #[.slice a l.length cap, .slice ra r.length rcap, .int .u64 b, .int .u64 s] 30 (0, 0)) := by rw [hw1]; exact heap_alloc_new w _
  have d : ∀ W, Turn no w1 W → W.cell? ⟨w.heap.size, 0, none⟩ = some (.slice a l.length cap) ∧ W.cell? ⟨w.heap.size, 1, none⟩ = some (.slice ra r.length rcap) ∧ W.cell? ⟨w.heap.size, 2, none⟩ = some (.int .u64 b) ∧ W.cell? ⟨w.heap.size, 3, none⟩ = some (.int .u64 s) := fun W t =>
    ⟨t.keep (cell_of_row _ _ 0 _ 30 (0, 0) R1) (fun q => q), t.keep (cell_of_row _ _ 1 _ 30 (0, 0) R1) (fun q => q), t.keep (cell_of_row _ _ 2 _ 30 (0, 0) R1) (fun q => q), t.keep (cell_of_row _ _ 3 _ 30 (0, 0) R1) (fun q => q)⟩
  have HD := shut' d
  have cA : l.length ≤ 65536 → ∀ W (t : Turn no w1 W), Calls Tryz.prog 20 #[.slice a l.length cap] W fun e w' => e = .returned (.int .i64 (scanA 0 l)) ∧ Turn no W w' := fun h1 W t => by
    have := accounts22 W _ l (ha.turn_no (t1.then_no t))
    rw [show accE l = scanA 0 l by unfold accE; rw [if_neg (by omega)]] at this
    exact this
  have cR : l.length ≤ 65536 → scanA 0 l = 0 → ∀ W (t : Turn no w1 W), Calls Tryz.prog 71 #[.agg #[.slice a l.length cap, .slice ra r.length rcap, .int .u64 b, .int .u64 s]] W fun e w' => e = .returned (.int .i64 (scanR l rl0 r)) ∧ Turn no W w' := fun h1 h2 W t => rows31 W _ _ l r (ha.turn_no (t1.then_no t)) (hr.turn_no (t1.then_no t)) (scanA_asc l 0 h2).1 (fun m hm => (scanA_asc l 0 h2).2 m hm) h1 b s
  have cW : ∀ W (t : Turn no w1 W), Calls Tryz.prog 21 #[.agg #[.slice a l.length cap, .slice ra r.length rcap, .int .u64 b, .int .u64 s]] W fun e w' => e = .returned (.int .u64 (sumN b l r : Nat)) ∧ Turn no W w' := fun W t => sum23 W _ _ l r (ha.turn_no (t1.then_no t)) (hr.turn_no (t1.then_no t)) b s
  have HA := shut' cA
  have HRR := shut' cR
  have HC := shut' cW
  obtain ⟨n, hn⟩ : ∃ n, Hid (l.length = n) := ⟨_, rfl⟩
  have hn' : l.length = n := hn.out
  obtain ⟨nr, hnr⟩ : ∃ nr, Hid (r.length = nr) := ⟨_, rfl⟩
  have hnr' : r.length = nr := hnr.out
  have hsE : ledE b l r s = if 65536 < n ∨ 65536 < nr then 86 else if scanA 0 l ≠ 0 then scanA 0 l else if scanR l rl0 r ≠ 0 then scanR l rl0 r else if 1152921504606846975 < s ∨ sumN b l r ≠ s then 87 else 0 := by rw [← hn', ← hnr']; exact led_sum b l r s
  rw [hn'] at hle HA
  rw [hnr'] at hle2
  rw [hn', hnr'] at hw1 HD HC HRR
  rw [hn', hnr']
  obtain ⟨z0, z1, z2, z3⟩ := HD.out w1 (Turn.refl no w1)
  clear d cA cW cR h ha hr hR R1 hn' hnr'
  generalize scanA 0 l = E at *
  generalize scanR l rl0 r = F at *
  generalize sumN b l r = S at *
  generalize ledE b l r s = RR at *
  by_cases h6 : 65536 < n
  · rw [if_pos (.inl h6)] at hsE
    have h6' : (65536 : Int) < (n : Int) := by omega
    have HE := shut' hsE
    clear hsE
    go_enter Tryz.func46, Tryz.ntmps46
    go_wp2_with fail
    go_ret
    exact ⟨by rw [HE.out]; rfl, by rw [← hw1]; exact t1⟩
  have h6' : ¬ (65536 : Int) < (n : Int) := by omega
  by_cases h7 : 65536 < nr
  · rw [if_pos (.inr h7)] at hsE
    have h7' : (65536 : Int) < (nr : Int) := by omega
    have HE := shut' hsE
    clear hsE
    go_enter Tryz.func46, Tryz.ntmps46
    go_wp2_with fail
    go_ret
    exact ⟨by rw [HE.out]; rfl, by rw [← hw1]; exact t1⟩
  · rw [if_neg (by omega)] at hsE
    have h7' : ¬ (65536 : Int) < (nr : Int) := by omega
    have c1 := HA.out (by omega) w1 (Turn.refl no w1)
    have HN6 : Shut (n ≤ 65536) := by show n ≤ 65536; omega
    clear h6 h7
    go_enter Tryz.func46, Tryz.ntmps46
    go_wp2_with fail
    try rw [← hw1]
    refine c1.mono ?_
    rintro e w2 ⟨rfl, t2⟩
    obtain ⟨y0, y1, y2, y3⟩ := HD.out w2 t2
    clear z0 z1 z2 z3 c1 hw1
    by_cases hE : E = 0
    · rw [if_neg (by simpa using hE)] at hsE
      have c2 := HRR.out HN6.out hE w2 t2
      subst hE
      go_wp2_with fail
      refine c2.mono ?_
      rintro e w3 ⟨rfl, t3⟩
      have t13 := t2.then_no t3
      obtain ⟨x0, x1, x2, x3⟩ := HD.out w3 t13
      clear y0 y1 y2 y3 c2
      by_cases hF : F = 0
      · rw [if_neg (by simpa using hF)] at hsE
        subst hF
        have D0 : ∀ W, Turn no w3 W → _ := fun W t => HD.out W (t13.then_no t)
        have HD3 := shut' D0
        clear D0
        by_cases hs : 1152921504606846975 < s
        · rw [if_pos (.inl hs)] at hsE
          have HE := shut' hsE
          have hs' : (1152921504606846975 : Int) < (s : Int) := by omega
          have hd : decide ((1152921504606846975 : Int) < (s : Int)) = true := by simp; omega
          clear hsE
          go_wp2_with fail
          refine wp_region_held_drew (S := fun W => Turn no w3 W) (by kernel_rfl) (Turn.refl no w3).drew (fun hHeld => ?_)
          refine' wpAnyH_take (i := 0) (v := .pointer (some ⟨w.heap.size, 3, none⟩)) rfl (by kernel_rfl) (by kernel_rfl) (by kernel_rfl) (fun _ _ _ h => h) (Or.inl ⟨by kernel_rfl, fun W hW => ?y1⟩) hHeld ?r1
          · go_simp
          refine' wpAnyH_take (i := 1) (v := .int .u64 s) rfl (by kernel_rfl) (by kernel_rfl) (by kernel_rfl) (fun _ _ _ h => h) (Or.inl ⟨by kernel_rfl, fun W hW => ?y2⟩) hHeld ?r2
          · have z := (HD3.out W hW).2.2.2
            go_simp
          refine' wpAnyH_take (i := 2) (v := .bool true) rfl (by kernel_rfl) (by kernel_rfl) (by kernel_rfl) (fun _ _ _ h => h) (Or.inl ⟨by kernel_rfl, fun W hW => ?y3⟩) hHeld ?r3
          · go_simp
          refine' wpAnyH_take (i := 3) (v := .bool true) rfl (by kernel_rfl) (by kernel_rfl) (by kernel_rfl) (fun _ _ _ h => h) (Or.inl ⟨by kernel_rfl, fun W hW => ?y4⟩) hHeld ?r4
          · go_simp
          refine' wpAnyH_take (i := 4) (v := undef) rfl (by kernel_rfl) (by kernel_rfl) (by kernel_rfl) (fun _ _ _ h => h) (Or.inr ⟨by kernel_rfl, rfl⟩) hHeld ?r5
          refine' wpAnyH_take (i := 6) (v := undef) rfl (by kernel_rfl) (by kernel_rfl) (by kernel_rfl) (fun _ _ _ h => h) (Or.inr ⟨by kernel_rfl, rfl⟩) hHeld ?r6
          refine' wpAnyH_take (i := 7) (v := undef) rfl (by kernel_rfl) (by kernel_rfl) (by kernel_rfl) (fun _ _ _ h => h) (Or.inr ⟨by kernel_rfl, rfl⟩) hHeld ?r7
          refine wpAnyH_ready (rs := [5]) (by kernel_rfl) (by simp) ?_
          refine AllReadyH.cons rfl (fun K hK => ?_) AllReadyH.nil
          go_simp
          refine hK.out _ _ hHeld (fun hHeld => ?_)
          clear hK
          refine' wpAnyH_take (i := 8) (v := undef) rfl (by kernel_rfl) (by kernel_rfl) (by kernel_rfl) (fun _ _ _ h => h) (Or.inr ⟨by kernel_rfl, rfl⟩) hHeld ?r8
          refine' wpAnyH_take (i := 9) (v := .bool true) rfl (by kernel_rfl) (by kernel_rfl) (by kernel_rfl) (fun _ _ _ h => h) (Or.inl ⟨by kernel_rfl, fun W hW => ?y9⟩) hHeld ?r9
          · go_simp
          refine wpAnyH_done (by kernel_rfl) ?_ _
          go_wp2_with fail
          go_ret
          exact ⟨by rw [HE.out]; rfl, (t1.then_no t13).then_no (Turn.refl no w3).drew⟩
        · have hs' : ¬ (1152921504606846975 : Int) < (s : Int) := by omega
          have hd : decide ((1152921504606846975 : Int) < (s : Int)) = false := by simp; omega
          have cur0 : Turn no w3 w3.drew := (Turn.refl no w3).drew
          have cC := HC.out w3.drew (t13.then_no cur0)
          have hsE' : RR = if ((S : Int) != (s : Int)) = true then 87 else 0 := by
            rw [hsE]
            by_cases q : S = s
            · rw [if_neg (by omega), if_neg (by simp; omega)]
            · rw [if_pos (.inr q), if_pos (by simp; omega)]
          have HE := shut' hsE'
          clear hsE hsE'
          go_wp2_with fail
          refine wp_region_held_drew (S := fun W => Turn no w3 W) (by kernel_rfl) (Turn.refl no w3).drew (fun hHeld => ?_)
          refine' wpAnyH_take (i := 0) (v := .pointer (some ⟨w.heap.size, 3, none⟩)) rfl (by kernel_rfl) (by kernel_rfl) (by kernel_rfl) (fun _ _ _ h => h) (Or.inl ⟨by kernel_rfl, fun W hW => ?y10⟩) hHeld ?r10
          · go_simp
          refine' wpAnyH_take (i := 1) (v := .int .u64 s) rfl (by kernel_rfl) (by kernel_rfl) (by kernel_rfl) (fun _ _ _ h => h) (Or.inl ⟨by kernel_rfl, fun W hW => ?y11⟩) hHeld ?r11
          · have z := (HD3.out W hW).2.2.2
            go_simp
          refine' wpAnyH_take (i := 2) (v := .bool false) rfl (by kernel_rfl) (by kernel_rfl) (by kernel_rfl) (fun _ _ _ h => h) (Or.inl ⟨by kernel_rfl, fun W hW => ?y12⟩) hHeld ?r12
          · go_simp
          refine' wpAnyH_take (i := 3) (v := .bool false) rfl (by kernel_rfl) (by kernel_rfl) (by kernel_rfl) (fun _ _ _ h => h) (Or.inl ⟨by kernel_rfl, fun W hW => ?y13⟩) hHeld ?r13
          · go_simp
          refine' wpAnyH_take (i := 4) (v := .agg #[.slice a n cap, .slice ra nr rcap, .int .u64 b, .int .u64 s]) rfl (by kernel_rfl) (by kernel_rfl) (by kernel_rfl) (fun _ _ _ h => h) (Or.inl ⟨by kernel_rfl, fun W hW => ?y14⟩) hHeld ?r14
          · obtain ⟨q0, q1, q2, q3⟩ := HD3.out W hW
            go_simp
          refine' wpAnyH_take (i := 6) (v := .pointer (some ⟨w.heap.size, 3, none⟩)) rfl (by kernel_rfl) (by kernel_rfl) (by kernel_rfl) (fun _ _ _ h => h) (Or.inl ⟨by kernel_rfl, fun W hW => ?y15⟩) hHeld ?r15
          · go_simp
          refine' wpAnyH_take (i := 7) (v := .int .u64 s) rfl (by kernel_rfl) (by kernel_rfl) (by kernel_rfl) (fun _ _ _ h => h) (Or.inl ⟨by kernel_rfl, fun W hW => ?y16⟩) hHeld ?r16
          · have z := (HD3.out W hW).2.2.2
            go_simp
          refine wpAnyH_ready (rs := [5]) (by kernel_rfl) (by simp) ?_
          refine AllReadyH.cons rfl (fun K hK => ?_) AllReadyH.nil
          go_simp
          refine cC.mono ?_
          rintro e w4 ⟨rfl, t4⟩
          have t34 := cur0.then_no t4
          refine hK.out _ _ t34 (fun hHeld => ?_)
          clear hK
          refine' wpAnyH_take (i := 8) (v := .bool ((S : Int) != (s : Int))) rfl (by kernel_rfl) (by kernel_rfl) (by kernel_rfl) (fun _ _ _ h => h) (Or.inl ⟨by kernel_rfl, fun W hW => ?y17⟩) hHeld ?r17
          · go_simp
          refine' wpAnyH_take (i := 9) (v := .bool ((S : Int) != (s : Int))) rfl (by kernel_rfl) (by kernel_rfl) (by kernel_rfl) (fun _ _ _ h => h) (Or.inl ⟨by kernel_rfl, fun W hW => ?y18⟩) hHeld ?r18
          · go_simp
          refine wpAnyH_done (by kernel_rfl) ?_ _
          generalize ((S : Int) != (s : Int)) = Q at *
          cases Q
          · go_wp2_with fail
            go_ret
            exact ⟨by rw [HE.out]; rfl, (t1.then_no t13).then_no t34⟩
          · go_wp2_with fail
            go_ret
            exact ⟨by rw [HE.out]; rfl, (t1.then_no t13).then_no t34⟩
      · rw [if_pos hF] at hsE
        have HE := shut' hsE
        have hF' : (F != 0) = true := by simpa using hF
        clear hsE
        go_wp2_with fail
        go_ret
        exact ⟨by rw [HE.out]; rfl, t1.then_no t13⟩
    · rw [if_pos hE] at hsE
      have HE := shut' hsE
      have hE' : (E != 0) = true := by simpa using hE
      clear hsE
      go_wp2_with fail
      go_ret
      exact ⟨by rw [HE.out]; rfl, t1.then_no t2⟩
end Go.Proofs.YtaoigopjfelgpaaGreatDoor


