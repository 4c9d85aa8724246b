/- Sound, of the program and of the document. -/
import Derived.Test.YtlacfenenbblaaaGreatDoorG3
namespace Go.Proofs.YtlacfenenbblaaaGreatDoor
open Go.RowKit
set_option linter.unusedVariables false

theorem step_sumR {S S' : Nat} {m : Rl} (h : min S' 1152921504606846976 = S) (hb : m.amt ≤ 1152921504606846975) : min (addN S' m.amt) 1152921504606846976 = stepR S m := by
  unfold stepR addN
  split <;> omega
theorem fold_sumR : ∀ (l : List Rl) (S S' : Nat), min S' 1152921504606846976 = S → (∀ m ∈ l, m.amt ≤ 1152921504606846975) → min (l.foldl (fun S m => addN S m.amt) S') 1152921504606846976 = l.foldl stepR S
  | [], _, _, h, _ => h
  | x :: r, S, S', h, hm => by
    have hx := hm x (List.mem_cons_self ..)
    exact fold_sumR r (stepR S x) (addN S' x.amt) (step_sumR h hx) (fun m h => hm m (List.mem_cons_of_mem _ h))
theorem scanR_ok (l : List Ac) : ∀ (r : List Rl) (p : Rl), scanR l p r = 0 → ∀ m ∈ r, m.amt ≤ 1152921504606846975
  | [], _, _, m, h => by cases h
  | x :: r, p, h, m, hm => by
    unfold scanR at h
    split at h
    · cases h
    · split at h
      · cases h
      · split at h
        · cases h
        · split at h
          · cases h
          · rename_i z
            rcases List.mem_cons.1 hm with rfl | hm
            · omega
            · exact scanR_ok l r x h m hm
theorem whole_sumR {l : List Ac} {r : List Rl} (b : Nat) (h : scanA 0 l = 0) (h2 : scanR l rl0 r = 0) : min (sumN b l r) 1152921504606846976 = wholeN b l r := by
  refine fold_sumR r _ _ (fold_sum l _ _ ?_ (scanA_ok l 0 h)) (scanR_ok l r rl0 h2)
  unfold addN
  split <;> omega
/-- What is wrong with a ledger. -/
def ledE (b : Nat) (l : List Ac) (r : List Rl) (s : Nat) : Int := if 65536 < l.length ∨ 65536 < r.length then 86 else if scanA 0 l ≠ 0 then scanA 0 l else if scanR l rl0 r ≠ 0 then scanR l rl0 r else if 1152921504606846975 < s ∨ wholeN b l r ≠ s then 87 else 0
theorem led_sum (b : Nat) (l : List Ac) (r : List Rl) (s : Nat) : ledE b l r s = if 65536 < l.length ∨ 65536 < r.length then 86 else if scanA 0 l ≠ 0 then scanA 0 l else if scanR l rl0 r ≠ 0 then scanR l rl0 r else if 1152921504606846975 < s ∨ sumN b l r ≠ s then 87 else 0 := by
  unfold ledE
  split
  · rfl
  · split
    · rfl
    · split
      · rfl
      · rename_i h1 h2
        have := whole_sumR (l := l) (r := r) b (by omega) (by omega)
        by_cases q : 1152921504606846975 < s ∨ wholeN b l r ≠ s
        · rw [if_pos q, if_pos (by omega)]
        · rw [if_neg q, if_neg (by omega)]

set_option maxRecDepth 100000 in
set_option maxHeartbeats 8000000 in
theorem sum23 (w : World) (va vr : Value) (l : List Ac) (r : List Rl) (ha : As w va l) (hr : Rs w vr r) (b s : Nat) : Calls Tryz.prog 63 #[.agg #[va, vr, .int .u64 b, .int .u64 s]] w fun e w' => e = .returned (.int .u64 (sumN b l r)) ∧ Turn no w w' := by
  obtain ⟨a, cap, rfl, h⟩ := ha
  obtain ⟨ra, rcap, rfl, hR⟩ := hr
  have hle : l.length ≤ 9223372036854775807 := by have := h.le; have := h.cap; simp only [maxLen] at this; omega
  have hle2 : r.length ≤ 9223372036854775807 := by have := hR.le; have := hR.cap; simp only [maxLen] at this; omega
  obtain ⟨w1, hw1⟩ : ∃ w1, w1 = w.alloc (.cells #[.slice a l.length cap, .slice ra r.length rcap, .int .u64 b, .int .u64 s] 26) := ⟨_, rfl⟩
  have t1 : Turn no w w1 := by rw [hw1]; exact (Turn.refl no w).alloc _
  have R1 : w1.heap[w.heap.size]? = some (.cells #[.slice a l.length cap, .slice ra r.length rcap, .int .u64 b, .int .u64 s] 26 (0, 0)) := by rw [hw1]; exact heap_alloc_new w _
  have d0 : w1.cell? ⟨w.heap.size, 0, none⟩ = some (.slice a l.length cap) := cell_of_row _ _ 0 _ 26 (0, 0) R1
  have d1 : w1.cell? ⟨w.heap.size, 1, none⟩ = some (.slice ra r.length rcap) := cell_of_row _ _ 1 _ 26 (0, 0) R1
  have d2 : w1.cell? ⟨w.heap.size, 2, none⟩ = some (.int .u64 b) := cell_of_row _ _ 2 _ 26 (0, 0) R1
  have hcells := shut (h.turn_no t1).cells
  have hcellR := shut (hR.turn_no t1).cells
  have c0 : Calls Tryz.prog 89 #[.int .u64 0, .int .u64 b] w1 fun e w' => e = .returned (.int .u64 (addN 0 b)) ∧ w' = w1 := add33 w1 0 b
  obtain ⟨n, hn⟩ : ∃ n, Hid (l.length = n) := ⟨_, rfl⟩
  have hn' : l.length = n := hn.out
  obtain ⟨nr, hnr⟩ : ∃ nr, Hid (r.length = nr) := ⟨_, rfl⟩
  have hnr' : r.length = nr := hnr.out
  rw [hn'] at hle d0
  rw [hnr'] at hle2 d1
  rw [hn', hnr'] at hw1
  rw [hn', hnr']
  clear hn' hnr' h R1 hR
  go_enter Tryz.func63, Tryz.ntmps63
  go_wp2_with fail
  try rw [← hw1]
  refine c0.mono ?_
  rintro e w2 ⟨rfl, rfl⟩
  clear hw1 c0
  go_wp2_with fail
  go_loopw [3, 4] (fun x c wr => ∃ k : Nat, k ≤ n ∧ c = .int .i64 k ∧ x = .int .u64 ((l.take k).foldl sumA (addN 0 b) : Nat) ∧ wr = w2) (fun _ c _ => n - (intOf c).toNat)
  case atStart => exact ⟨0, by omega, rfl, rfl, rfl⟩
  case round =>
    obtain ⟨k, hk, rfl, rfl, rfl⟩ := hrel
    by_cases hlt : k < n
    · obtain ⟨m, hm⟩ : ∃ m, l[k]? = some m := ⟨l[k]'(by rw [hn.out]; exact hlt), List.getElem?_eq_getElem _⟩
      obtain ⟨bb, off, rfl, _, c1, c2, _⟩ := hcells.out k m hm
      have hlt' : (k : Int) < (n : Int) := by omega
      have hk1 : Hid (k + 1 ≤ n) := hlt
      have hst := shut' (foldl_take sumA (addN 0 b) l k m hm)
      generalize (l.take k).foldl sumA (addN 0 b) = S at *
      clear hm
      go_wp2_with fail
      refine (add33 _ S m.bal).mono ?_
      rintro e w3 ⟨rfl, rfl⟩
      go_wp2_with fail
      refine (add33 _ (addN S m.bal) m.bond).mono ?_
      rintro e w3 ⟨rfl, rfl⟩
      go_wp2_with fail
      go_roundw
      case rel => exact ⟨k + 1, hk1.out, by go_num, by rw [hst.out]; rfl, by trivial⟩
      case measure => have := hk1.out; simp [intOf]; omega
    · have hlt' : ¬ (k : Int) < (n : Int) := by omega
      have hfull : l.take k = l := List.take_of_length_le (by have := hn.out; omega)
      rw [hfull]
      have HE : Hid (r.foldl (fun S m => addN S m.amt) (l.foldl sumA (addN 0 b)) = sumN b l r) := rfl
      generalize l.foldl sumA (addN 0 b) = S at *
      clear hcells hfull
      go_wp2_with fail
      go_loopw [3, 5] (fun x c wq => ∃ j : Nat, j ≤ nr ∧ c = .int .i64 j ∧ x = .int .u64 ((r.take j).foldl (fun S m => addN S m.amt) S : Nat) ∧ wq = wr) (fun _ c _ => nr - (intOf c).toNat)
      case atStart => exact ⟨0, by omega, rfl, rfl, rfl⟩
      case round =>
        obtain ⟨j, hj, rfl, rfl, rfl⟩ := hrel
        by_cases hlt2 : j < nr
        · obtain ⟨m, hm⟩ : ∃ m, r[j]? = some m := ⟨r[j]'(by rw [hnr.out]; exact hlt2), List.getElem?_eq_getElem _⟩
          obtain ⟨bb, off, rfl, _, _, _, c3⟩ := hcellR.out j m hm
          have hlt2' : (j : Int) < (nr : Int) := by omega
          have hj1 : Hid (j + 1 ≤ nr) := hlt2
          have hst := shut' (foldl_take (fun S (m : Rl) => addN S m.amt) S r j m hm)
          generalize (r.take j).foldl (fun S m => addN S m.amt) S = S2 at *
          clear hm HE
          go_wp2_with fail
          refine (add33 _ S2 m.amt).mono ?_
          rintro e w3 ⟨rfl, rfl⟩
          go_wp2_with fail
          go_roundw
          case rel => exact ⟨j + 1, hj1.out, by go_num, by rw [hst.out], by trivial⟩
          case measure => have := hj1.out; simp [intOf]; omega
        · have hlt2' : ¬ (j : Int) < (nr : Int) := by omega
          have hfull : r.take j = r := List.take_of_length_le (by have := hnr.out; omega)
          rw [hfull]
          generalize r.foldl (fun S m => addN S m.amt) S = S2 at *
          clear hcellR hfull
          go_wp2_with fail
          go_ret
          exact ⟨by rw [← HE.out]; rfl, t1⟩

set_option maxRecDepth 100000 in
set_option maxHeartbeats 8000000 in
theorem sound11 (w : World) (va vr : Value) (l : List Ac) (r : List Rl) (ha : As w va l) (hr : Rs w vr r) (b s : Nat) : Calls Tryz.prog 23 #[.agg #[va, vr, .int .u64 b, .int .u64 s]] w fun e w' => e = .returned (.int .i64 (ledE b l r s)) ∧ Turn no w w' := by
  obtain ⟨a, cap, rfl, h⟩ := id ha
  obtain ⟨ra, rcap, rfl, hR⟩ := id hr
  have hle : l.length ≤ 9223372036854775807 := by have := h.le; have := h.cap; simp only [maxLen] at this; omega
  have hle2 : r.length ≤ 9223372036854775807 := by have := hR.le; have := hR.cap; simp only [maxLen] at this; omega
  obtain ⟨w1, hw1⟩ : ∃ w1, w1 = w.alloc (.cells #[.slice a l.length cap, .slice ra r.length rcap, .int .u64 b, .int .u64 s] 26) := ⟨_, rfl⟩
  have t1 : Turn no w w1 := by rw [hw1]; exact (Turn.refl no w).alloc _
  have R1 : w1.heap[w.heap.size]? = some (.cells #[.slice a l.length cap, .slice ra r.length rcap, .int .u64 b, .int .u64 s] 26 (0, 0)) := by rw [hw1]; exact heap_alloc_new w _
  have d : ∀ W, Turn no w1 W → W.cell? ⟨w.heap.size, 0, none⟩ = some (.slice a l.length cap) ∧ W.cell? ⟨w.heap.size, 1, none⟩ = some (.slice ra r.length rcap) ∧ W.cell? ⟨w.heap.size, 2, none⟩ = some (.int .u64 b) ∧ W.cell? ⟨w.heap.size, 3, none⟩ = some (.int .u64 s) := fun W t =>
    ⟨t.keep (cell_of_row _ _ 0 _ 26 (0, 0) R1) (fun q => q), t.keep (cell_of_row _ _ 1 _ 26 (0, 0) R1) (fun q => q), t.keep (cell_of_row _ _ 2 _ 26 (0, 0) R1) (fun q => q), t.keep (cell_of_row _ _ 3 _ 26 (0, 0) R1) (fun q => q)⟩
  have HD := shut' d
  have cA : l.length ≤ 65536 → ∀ W (t : Turn no w1 W), Calls Tryz.prog 50 #[.slice a l.length cap] W fun e w' => e = .returned (.int .i64 (scanA 0 l)) ∧ Turn no W w' := fun _ W t => soundA27 W _ l (ha.turn_no (t1.then_no t))
  have cR : l.length ≤ 65536 → scanA 0 l = 0 → ∀ W (t : Turn no w1 W), Calls Tryz.prog 51 #[.slice a l.length cap, .slice ra r.length rcap] W fun e w' => e = .returned (.int .i64 (scanR l rl0 r)) ∧ Turn no W w' := fun h1 h2 W t => soundR28 W _ _ l r (ha.turn_no (t1.then_no t)) (hr.turn_no (t1.then_no t)) (scanA_asc l 0 h2).1 h1
  have cW : ∀ W (t : Turn no w1 W), Calls Tryz.prog 44 #[.agg #[.slice a l.length cap, .slice ra r.length rcap, .int .u64 b, .int .u64 s]] W fun e w' => e = .returned (.int .u64 (wholeN b l r : Nat)) ∧ Turn no W w' := fun W t => whole21 W _ _ l r (ha.turn_no (t1.then_no t)) (hr.turn_no (t1.then_no t)) b s
  have HA := shut' cA
  have HRR := shut' cR
  have HC := shut' cW
  obtain ⟨n, hn⟩ : ∃ n, Hid (l.length = n) := ⟨_, rfl⟩
  have hn' : l.length = n := hn.out
  obtain ⟨nr, hnr⟩ : ∃ nr, Hid (r.length = nr) := ⟨_, rfl⟩
  have hnr' : r.length = nr := hnr.out
  have hsE : ledE b l r s = if 65536 < n ∨ 65536 < nr then 86 else if scanA 0 l ≠ 0 then scanA 0 l else if scanR l rl0 r ≠ 0 then scanR l rl0 r else if 1152921504606846975 < s ∨ wholeN b l r ≠ s then 87 else 0 := by rw [← hn', ← hnr']; exact rfl
  rw [hn'] at hle HA
  rw [hnr'] at hle2
  rw [hn', hnr'] at hw1 HD HC HRR
  rw [hn', hnr']
  obtain ⟨z0, z1, z2, z3⟩ := HD.out w1 (Turn.refl no w1)
  clear d cA cW cR h ha hr hR R1 hn' hnr'
  generalize scanA 0 l = E at *
  generalize scanR l rl0 r = F at *
  generalize wholeN b l r = S at *
  generalize ledE b l r s = RR at *
  by_cases h6 : 65536 < n
  · rw [if_pos (.inl h6)] at hsE
    have h6' : (65536 : Int) < (n : Int) := by omega
    have HE := shut' hsE
    clear hsE
    go_enter Tryz.func23, Tryz.ntmps23
    go_wp2_with fail
    go_ret
    exact ⟨by rw [HE.out]; rfl, by rw [← hw1]; exact t1⟩
  have h6' : ¬ (65536 : Int) < (n : Int) := by omega
  by_cases h7 : 65536 < nr
  · rw [if_pos (.inr h7)] at hsE
    have h7' : (65536 : Int) < (nr : Int) := by omega
    have HE := shut' hsE
    clear hsE
    go_enter Tryz.func23, Tryz.ntmps23
    go_wp2_with fail
    go_ret
    exact ⟨by rw [HE.out]; rfl, by rw [← hw1]; exact t1⟩
  · rw [if_neg (by omega)] at hsE
    have h7' : ¬ (65536 : Int) < (nr : Int) := by omega
    have c1 := HA.out (by omega) w1 (Turn.refl no w1)
    have HN6 : Shut (n ≤ 65536) := by show n ≤ 65536; omega
    clear h6 h7
    go_enter Tryz.func23, Tryz.ntmps23
    go_wp2_with fail
    try rw [← hw1]
    refine c1.mono ?_
    rintro e w2 ⟨rfl, t2⟩
    obtain ⟨y0, y1, y2, y3⟩ := HD.out w2 t2
    clear z0 z1 z2 z3 c1 hw1
    by_cases hE : E = 0
    · rw [if_neg (by simpa using hE)] at hsE
      have c2 := HRR.out HN6.out hE w2 t2
      subst hE
      go_wp2_with fail
      refine c2.mono ?_
      rintro e w3 ⟨rfl, t3⟩
      have t13 := t2.then_no t3
      obtain ⟨x0, x1, x2, x3⟩ := HD.out w3 t13
      clear y0 y1 y2 y3 c2
      by_cases hF : F = 0
      · rw [if_neg (by simpa using hF)] at hsE
        subst hF
        have D0 : ∀ W, Turn no w3 W → _ := fun W t => HD.out W (t13.then_no t)
        have HD3 := shut' D0
        clear D0
        by_cases hs : 1152921504606846975 < s
        · rw [if_pos (.inl hs)] at hsE
          have HE := shut' hsE
          have hs' : (1152921504606846975 : Int) < (s : Int) := by omega
          have hd : decide ((1152921504606846975 : Int) < (s : Int)) = true := by simp; omega
          clear hsE
          go_wp2_with fail
          refine wp_region_held_drew (S := fun W => Turn no w3 W) (by kernel_rfl) (Turn.refl no w3).drew (fun hHeld => ?_)
          refine' wpAnyH_take (i := 0) (v := .pointer (some ⟨w.heap.size, 3, none⟩)) rfl (by kernel_rfl) (by kernel_rfl) (by kernel_rfl) (fun _ _ _ h => h) (Or.inl ⟨by kernel_rfl, fun W hW => ?y1⟩) hHeld ?r1
          · go_simp
          refine' wpAnyH_take (i := 1) (v := .int .u64 s) rfl (by kernel_rfl) (by kernel_rfl) (by kernel_rfl) (fun _ _ _ h => h) (Or.inl ⟨by kernel_rfl, fun W hW => ?y2⟩) hHeld ?r2
          · have z := (HD3.out W hW).2.2.2
            go_simp
          refine' wpAnyH_take (i := 2) (v := .bool true) rfl (by kernel_rfl) (by kernel_rfl) (by kernel_rfl) (fun _ _ _ h => h) (Or.inl ⟨by kernel_rfl, fun W hW => ?y3⟩) hHeld ?r3
          · go_simp
          refine' wpAnyH_take (i := 3) (v := .bool true) rfl (by kernel_rfl) (by kernel_rfl) (by kernel_rfl) (fun _ _ _ h => h) (Or.inl ⟨by kernel_rfl, fun W hW => ?y4⟩) hHeld ?r4
          · go_simp
          refine' wpAnyH_take (i := 4) (v := undef) rfl (by kernel_rfl) (by kernel_rfl) (by kernel_rfl) (fun _ _ _ h => h) (Or.inr ⟨by kernel_rfl, rfl⟩) hHeld ?r5
          refine' wpAnyH_take (i := 6) (v := undef) rfl (by kernel_rfl) (by kernel_rfl) (by kernel_rfl) (fun _ _ _ h => h) (Or.inr ⟨by kernel_rfl, rfl⟩) hHeld ?r6
          refine' wpAnyH_take (i := 7) (v := undef) rfl (by kernel_rfl) (by kernel_rfl) (by kernel_rfl) (fun _ _ _ h => h) (Or.inr ⟨by kernel_rfl, rfl⟩) hHeld ?r7
          refine wpAnyH_ready (rs := [5]) (by kernel_rfl) (by simp) ?_
          refine AllReadyH.cons rfl (fun K hK => ?_) AllReadyH.nil
          go_simp
          refine hK.out _ _ hHeld (fun hHeld => ?_)
          clear hK
          refine' wpAnyH_take (i := 8) (v := undef) rfl (by kernel_rfl) (by kernel_rfl) (by kernel_rfl) (fun _ _ _ h => h) (Or.inr ⟨by kernel_rfl, rfl⟩) hHeld ?r8
          refine' wpAnyH_take (i := 9) (v := .bool true) rfl (by kernel_rfl) (by kernel_rfl) (by kernel_rfl) (fun _ _ _ h => h) (Or.inl ⟨by kernel_rfl, fun W hW => ?y9⟩) hHeld ?r9
          · go_simp
          refine wpAnyH_done (by kernel_rfl) ?_ _
          go_wp2_with fail
          go_ret
          exact ⟨by rw [HE.out]; rfl, (t1.then_no t13).then_no (Turn.refl no w3).drew⟩
        · have hs' : ¬ (1152921504606846975 : Int) < (s : Int) := by omega
          have hd : decide ((1152921504606846975 : Int) < (s : Int)) = false := by simp; omega
          have cur0 : Turn no w3 w3.drew := (Turn.refl no w3).drew
          have cC := HC.out w3.drew (t13.then_no cur0)
          have hsE' : RR = if ((S : Int) != (s : Int)) = true then 87 else 0 := by
            rw [hsE]
            by_cases q : S = s
            · rw [if_neg (by omega), if_neg (by simp; omega)]
            · rw [if_pos (.inr q), if_pos (by simp; omega)]
          have HE := shut' hsE'
          clear hsE hsE'
          go_wp2_with fail
          refine wp_region_held_drew (S := fun W => Turn no w3 W) (by kernel_rfl) (Turn.refl no w3).drew (fun hHeld => ?_)
          refine' wpAnyH_take (i := 0) (v := .pointer (some ⟨w.heap.size, 3, none⟩)) rfl (by kernel_rfl) (by kernel_rfl) (by kernel_rfl) (fun _ _ _ h => h) (Or.inl ⟨by kernel_rfl, fun W hW => ?y10⟩) hHeld ?r10
          · go_simp
          refine' wpAnyH_take (i := 1) (v := .int .u64 s) rfl (by kernel_rfl) (by kernel_rfl) (by kernel_rfl) (fun _ _ _ h => h) (Or.inl ⟨by kernel_rfl, fun W hW => ?y11⟩) hHeld ?r11
          · have z := (HD3.out W hW).2.2.2
            go_simp
          refine' wpAnyH_take (i := 2) (v := .bool false) rfl (by kernel_rfl) (by kernel_rfl) (by kernel_rfl) (fun _ _ _ h => h) (Or.inl ⟨by kernel_rfl, fun W hW => ?y12⟩) hHeld ?r12
          · go_simp
          refine' wpAnyH_take (i := 3) (v := .bool false) rfl (by kernel_rfl) (by kernel_rfl) (by kernel_rfl) (fun _ _ _ h => h) (Or.inl ⟨by kernel_rfl, fun W hW => ?y13⟩) hHeld ?r13
          · go_simp
          refine' wpAnyH_take (i := 4) (v := .agg #[.slice a n cap, .slice ra nr rcap, .int .u64 b, .int .u64 s]) rfl (by kernel_rfl) (by kernel_rfl) (by kernel_rfl) (fun _ _ _ h => h) (Or.inl ⟨by kernel_rfl, fun W hW => ?y14⟩) hHeld ?r14
          · obtain ⟨q0, q1, q2, q3⟩ := HD3.out W hW
            go_simp
          refine' wpAnyH_take (i := 6) (v := .pointer (some ⟨w.heap.size, 3, none⟩)) rfl (by kernel_rfl) (by kernel_rfl) (by kernel_rfl) (fun _ _ _ h => h) (Or.inl ⟨by kernel_rfl, fun W hW => ?y15⟩) hHeld ?r15
          · go_simp
          refine' wpAnyH_take (i := 7) (v := .int .u64 s) rfl (by kernel_rfl) (by kernel_rfl) (by kernel_rfl) (fun _ _ _ h => h) (Or.inl ⟨by kernel_rfl, fun W hW => ?y16⟩) hHeld ?r16
          · have z := (HD3.out W hW).2.2.2
            go_simp
          refine wpAnyH_ready (rs := [5]) (by kernel_rfl) (by simp) ?_
          refine AllReadyH.cons rfl (fun K hK => ?_) AllReadyH.nil
          go_simp
          refine cC.mono ?_
          rintro e w4 ⟨rfl, t4⟩
          have t34 := cur0.then_no t4
          refine hK.out _ _ t34 (fun hHeld => ?_)
          clear hK
          refine' wpAnyH_take (i := 8) (v := .bool ((S : Int) != (s : Int))) rfl (by kernel_rfl) (by kernel_rfl) (by kernel_rfl) (fun _ _ _ h => h) (Or.inl ⟨by kernel_rfl, fun W hW => ?y17⟩) hHeld ?r17
          · go_simp
          refine' wpAnyH_take (i := 9) (v := .bool ((S : Int) != (s : Int))) rfl (by kernel_rfl) (by kernel_rfl) (by kernel_rfl) (fun _ _ _ h => h) (Or.inl ⟨by kernel_rfl, fun W hW => ?y18⟩) hHeld ?r18
          · go_simp
          refine wpAnyH_done (by kernel_rfl) ?_ _
          generalize ((S : Int) != (s : Int)) = Q at *
          cases Q
          · go_wp2_with fail
            go_ret
            exact ⟨by rw [HE.out]; rfl, (t1.then_no t13).then_no t34⟩
          · go_wp2_with fail
            go_ret
            exact ⟨by rw [HE.out]; rfl, (t1.then_no t13).then_no t34⟩
      · rw [if_pos hF] at hsE
        have HE := shut' hsE
        have hF' : (F != 0) = true := by simpa using hF
        clear hsE
        go_wp2_with fail
        go_ret
        exact ⟨by rw [HE.out]; rfl, t1.then_no t13⟩
    · rw [if_pos hE] at hsE
      have HE := shut' hsE
      have hE' : (E != 0) = true := by simpa using hE
      clear hsE
      go_wp2_with fail
      go_ret
      exact ⟨by rw [HE.out]; rfl, t1.then_no t2⟩
end Go.Proofs.YtlacfenenbblaaaGreatDoor


