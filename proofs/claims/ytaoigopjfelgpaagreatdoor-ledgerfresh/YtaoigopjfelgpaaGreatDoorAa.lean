/- Texts in one. -/
import Derived.Test.YtaoigopjfelgpaaGreatDoorLa
/- The document's accounts. -/
namespace Go.Proofs.YtaoigopjfelgpaaGreatDoor
open Go.RowKit
set_option linter.unusedVariables false

def prevA (l : List Ac) (k : Nat) : Nat := if k = 0 then 0 else match l[k - 1]? with | some m => m.ad | none => 0
def accE (l : List Ac) : Int := if 65536 < l.length then 86 else scanA 0 l
theorem prevA_succ {l : List Ac} {k : Nat} {m : Ac} (h : l[k]? = some m) : prevA l (k + 1) = m.ad := by simp [prevA, h]
set_option maxRecDepth 100000 in
set_option maxHeartbeats 4000000 in
theorem accounts22 (w : World) (v : Value) (l : List Ac) (h : As w v l) : Calls Tryz.prog 20 #[v] w fun e w' => e = .returned (.int .i64 (accE l)) ∧ Turn no w w' := by
  obtain ⟨a, cap, rfl, h⟩ := h
  have hcells := h.cells
  have hle : l.length ≤ 9223372036854775807 := by have := h.le; have := h.cap; simp only [maxLen] at this; omega
  clear h
  obtain ⟨n, hn⟩ : ∃ n, Hid (l.length = n) := ⟨_, rfl⟩
  have hn' : l.length = n := hn.out
  have hacc : accE l = if 65536 < n then 86 else scanA 0 l := by rw [← hn']; rfl
  rw [hn'] at hle ⊢
  clear hn'
  by_cases h6 : 65536 < n
  · rw [if_pos h6] at hacc
    have HE := shut' hacc
    have h6' : (65536 : Int) < (n : Int) := by omega
    clear hacc hcells
    go_enter Tryz.func20, Tryz.ntmps20
    go_wp2_with fail
    go_ret
    exact ⟨by rw [HE.out]; rfl, Turn.refl _ _⟩
  rw [if_neg h6] at hacc
  have HE := shut' hacc
  have h6' : ¬ (65536 : Int) < (n : Int) := by omega
  clear hacc
  go_enter Tryz.func20, Tryz.ntmps20
  go_wp2_with fail
  go_loopw [3] (fun c wr => ∃ k : Nat, k ≤ n ∧ c = .int .i64 k ∧ scanA 0 l = scanA (prevA l k) (l.drop k) ∧ Turn no w wr) (fun c _ => n - (intOf c).toNat)
  case atStart => exact ⟨0, by omega, rfl, rfl, Turn.refl _ _⟩
  case round =>
    obtain ⟨k, hk, rfl, hsc, T⟩ := hrel
    by_cases hlt : k < n
    · obtain ⟨m, hm⟩ : ∃ m, l[k]? = some m := ⟨l[k]'(by rw [hn.out]; exact hlt), List.getElem?_eq_getElem _⟩
      obtain ⟨b, off, rfl, c0, c1, c2, c3, c4⟩ := hcells k m hm
      have c0 := T.keep c0 (fun q => q)
      have c1 := T.keep c1 (fun q => q)
      have c2 := T.keep c2 (fun q => q)
      have hlt' : (k : Int) < (n : Int) := by omega
      have hk1 : Hid (k + 1 ≤ n) := hlt
      have hst := scanA_at hm (prevA l k)
      rw [← hsc] at hst
      have hps := shut' (prevA_succ hm)
      by_cases a1 : m.ad = 0
      · rw [if_pos a1] at hst
        have HW := shut' hst
        have a1' : ((m.ad : Int) == 0) = true := by simp; omega
        clear hst hcells hsc hm
        go_wp2_with fail
        go_ret
        exact ⟨by rw [HE.out, HW.out]; rfl, T⟩
      rw [if_neg a1] at hst
      have a1' : ((m.ad : Int) == 0) = false := by simp; omega
      go_upto_region 8 with fail
      go_cut [34] from 7 to 48 (fun c wx => c = .bool (decide (m.ad ≤ prevA l k)) ∧ Turn no wr wx)
      case first =>
        by_cases hk0 : k = 0
        · subst hk0
          have e : decide (m.ad ≤ prevA l 0) = false := by simp [prevA]; omega
          have HX := shut' e
          clear e hcells hm hst hsc
          go_quiet (fail)
          go_wp2_with fail
          go_meet
          case rel => exact ⟨by rw [HX.out], (Turn.refl no wr).drewN _⟩
        · obtain ⟨k', rfl⟩ : ∃ k', k = k' + 1 := ⟨k - 1, by omega⟩
          obtain ⟨m', hm'⟩ : ∃ m', l[k']? = some m' := ⟨l[k']'(by rw [hn.out]; omega), List.getElem?_eq_getElem _⟩
          obtain ⟨b', off', e', g0, _⟩ := hcells k' m' hm'
          cases e'
          have g0 := T.keep g0 (fun q => q)
          have hp := prevA_succ hm'
          have hq : decide ((0 : Int) < ((k' + 1 : Nat) : Int)) = true := by simp
          have hlk : (k' : Int) < (n : Int) := by omega
          have hw : IntKind.i64.wrap (((k' + 1 : Nat) : Int) - 1) = (k' : Int) := by rw [IntKind.wrap_i64]; omega
          have HX : Hid (decide (m.ad ≤ prevA l (k' + 1)) = decide (m.ad ≤ m'.ad)) := by show _ = _; rw [hp]
          clear hcells hm hst hsc hm' hp
          go_quiet (fail)
          go_wp2_with fail
          go_meet
          case rel => exact ⟨by rw [HX.out], (Turn.refl no wr).drewN _⟩
      case rest =>
        obtain ⟨rfl, tc⟩ := hcut
        have c1 := tc.keep c1 (fun q => q)
        have c2 := tc.keep c2 (fun q => q)
        have TC := T.then_no tc
        clear hcells hm hsc
        by_cases a2 : m.ad ≤ prevA l k
        · rw [if_pos a2] at hst
          have HW := shut' hst
          have a2' : decide (m.ad ≤ prevA l k) = true := by simp; omega
          rw [a2']
          clear hst
          go_wp2_with fail
          go_ret
          exact ⟨by rw [HE.out, HW.out]; rfl, TC⟩
        rw [if_neg a2] at hst
        have a2' : decide (m.ad ≤ prevA l k) = false := by simp; omega
        rw [a2']
        by_cases a3 : 1152921504606846975 < m.bal
        · rw [if_pos (.inl a3)] at hst
          have HW := shut' hst
          have a3' : (1152921504606846975 : Int) < (m.bal : Int) := by omega
          clear hst
          go_wp2_with fail
          go_ret
          exact ⟨by rw [HE.out, HW.out]; rfl, TC⟩
        have a3' : ¬ (1152921504606846975 : Int) < (m.bal : Int) := by omega
        by_cases a4 : 1152921504606846975 < m.bond
        · rw [if_pos (.inr a4)] at hst
          have HW := shut' hst
          have a4' : (1152921504606846975 : Int) < (m.bond : Int) := by omega
          clear hst
          go_wp2_with fail
          go_ret
          exact ⟨by rw [HE.out, HW.out]; rfl, TC⟩
        rw [if_neg (by omega)] at hst
        have a4' : ¬ (1152921504606846975 : Int) < (m.bond : Int) := by omega
        have HW := shut' hst
        clear hst
        go_wp2_with fail
        go_roundw
        case rel => exact ⟨k + 1, hk1.out, by go_num, by rw [hps.out]; exact HW.out, TC⟩
        case measure => have := hk1.out; simp [intOf]; omega
    · have hlt' : ¬ (k : Int) < (n : Int) := by omega
      have he : scanA 0 l = 0 := by
        rw [hsc, List.drop_of_length_le (by have := hn.out; omega)]
        rfl
      have HW := shut' he
      clear he hsc hcells
      go_wp2_with fail
      go_ret
      exact ⟨by rw [HE.out, HW.out]; rfl, T⟩
end Go.Proofs.YtaoigopjfelgpaaGreatDoor



/- The document's sum. -/
namespace Go.Proofs.YtaoigopjfelgpaaGreatDoor
open Go.RowKit
set_option linter.unusedVariables false

def addN (x y : Nat) : Nat := if 1152921504606846975 < x ∨ 1152921504606846975 < y then 1152921504606846976 else x + y
set_option maxRecDepth 100000 in
set_option maxHeartbeats 1000000 in
theorem add33 (w : World) (x y : Nat) : Calls Tryz.prog 54 #[.int .u64 x, .int .u64 y] w fun e w' => e = .returned (.int .u64 (addN x y)) ∧ w' = w := by
  by_cases hx : 1152921504606846975 < x
  · have hx' : (1152921504606846975 : Int) < (x : Int) := by omega
    have he : addN x y = 1152921504606846976 := if_pos (.inl hx)
    have HE := shut' he
    clear he
    go_enter Tryz.func54, Tryz.ntmps54
    go_wp2_with fail
    go_ret
    exact ⟨by rw [HE.out]; rfl, rfl⟩
  have hx' : ¬ (1152921504606846975 : Int) < (x : Int) := by omega
  by_cases hy : 1152921504606846975 < y
  · have hy' : (1152921504606846975 : Int) < (y : Int) := by omega
    have he : addN x y = 1152921504606846976 := if_pos (.inr hy)
    have HE := shut' he
    clear he
    go_enter Tryz.func54, Tryz.ntmps54
    go_wp2_with fail
    go_ret
    exact ⟨by rw [HE.out]; rfl, rfl⟩
  have hy' : ¬ (1152921504606846975 : Int) < (y : Int) := by omega
  have he : addN x y = x + y := if_neg (by omega)
  have HE := shut' he
  have hw : IntKind.u64.wrap ((x : Int) + (y : Int)) = ((x + y : Nat) : Int) := by rw [IntKind.wrap_u64]; omega
  clear he
  go_enter Tryz.func54, Tryz.ntmps54
  go_wp2_with fail
  go_ret
  exact ⟨by rw [HE.out]; rfl, rfl⟩
/-- What the document's sum reckons. -/
def sumA (S : Nat) (m : Ac) : Nat := addN (addN S m.bal) m.bond
def sumN (b : Nat) (l : List Ac) (r : List Rl) : Nat := r.foldl (fun S m => addN S m.amt) (l.foldl sumA (addN 0 b))
set_option maxRecDepth 100000 in
set_option maxHeartbeats 4000000 in
theorem sum23_nil (w : World) (va : Value) (l : List Ac) (ha : As w va l) (b s : Nat) : Calls Tryz.prog 21 #[.agg #[va, .slice none 0 0, .int .u64 b, .int .u64 s]] w fun e w' => e = .returned (.int .u64 (sumN b l [])) ∧ Turn no w w' := by
  obtain ⟨a, cap, rfl, h⟩ := ha
  have hle : l.length ≤ 9223372036854775807 := by have := h.le; have := h.cap; simp only [maxLen] at this; omega
  obtain ⟨w1, hw1⟩ : ∃ w1, w1 = w.alloc (.cells #[.slice a l.length cap, .slice none 0 0, .int .u64 b, .int .u64 s] 30) := ⟨_, rfl⟩
  have t1 : Turn no w w1 := by rw [hw1]; exact (Turn.refl no w).alloc _
  have R1 : w1.heap[w.heap.size]? = some (.cells #[.slice a l.length cap, .slice none 0 0, .int .u64 b, .int .u64 s] 30 (0, 0)) := by rw [hw1]; exact heap_alloc_new w _
  have d0 : w1.cell? ⟨w.heap.size, 0, none⟩ = some (.slice a l.length cap) := cell_of_row _ _ 0 _ 30 (0, 0) R1
  have d1 : w1.cell? ⟨w.heap.size, 1, none⟩ = some (.slice none 0 0) := cell_of_row _ _ 1 _ 30 (0, 0) R1
  have d2 : w1.cell? ⟨w.heap.size, 2, none⟩ = some (.int .u64 b) := cell_of_row _ _ 2 _ 30 (0, 0) R1
  have hcells := (h.turn_no t1).cells
  have c0 : Calls Tryz.prog 54 #[.int .u64 0, .int .u64 b] w1 fun e w' => e = .returned (.int .u64 (addN 0 b)) ∧ w' = w1 := add33 w1 0 b
  obtain ⟨n, hn⟩ : ∃ n, Hid (l.length = n) := ⟨_, rfl⟩
  have hn' : l.length = n := hn.out
  rw [hn'] at hle d0 hw1
  rw [hn']
  clear hn' h R1
  go_enter Tryz.func21, Tryz.ntmps21
  go_wp2_with fail
  try rw [← hw1]
  refine c0.mono ?_
  rintro e w2 ⟨rfl, rfl⟩
  clear hw1 c0
  go_wp2_with fail
  go_loopw [3, 4] (fun x c wr => ∃ k : Nat, k ≤ n ∧ c = .int .i64 k ∧ x = .int .u64 ((l.take k).foldl sumA (addN 0 b) : Nat) ∧ wr = w2) (fun _ c _ => n - (intOf c).toNat)
  case atStart => exact ⟨0, by omega, rfl, rfl, rfl⟩
  case round =>
    obtain ⟨k, hk, rfl, rfl, rfl⟩ := hrel
    by_cases hlt : k < n
    · obtain ⟨m, hm⟩ : ∃ m, l[k]? = some m := ⟨l[k]'(by rw [hn.out]; exact hlt), List.getElem?_eq_getElem _⟩
      obtain ⟨bb, off, rfl, _, c1, c2, _⟩ := hcells k m hm
      have hlt' : (k : Int) < (n : Int) := by omega
      have hk1 : Hid (k + 1 ≤ n) := hlt
      have hst := shut' (foldl_take sumA (addN 0 b) l k m hm)
      generalize (l.take k).foldl sumA (addN 0 b) = S at *
      clear hcells hm
      go_wp2_with fail
      refine (add33 _ S m.bal).mono ?_
      rintro e w3 ⟨rfl, rfl⟩
      go_wp2_with fail
      refine (add33 _ (addN S m.bal) m.bond).mono ?_
      rintro e w3 ⟨rfl, rfl⟩
      go_wp2_with fail
      go_roundw
      case rel => exact ⟨k + 1, hk1.out, by go_num, by rw [hst.out]; rfl, by trivial⟩
      case measure => have := hk1.out; simp [intOf]; omega
    · have hlt' : ¬ (k : Int) < (n : Int) := by omega
      have hfull : l.take k = l := List.take_of_length_le (by have := hn.out; omega)
      rw [hfull]
      have HE : Hid (l.foldl sumA (addN 0 b) = sumN b l []) := rfl
      generalize l.foldl sumA (addN 0 b) = S at *
      clear hcells hfull
      go_wp2_with fail
      go_loopw [3, 5] (fun x c wq => x = .int .u64 (S : Nat) ∧ c = .int .i64 0 ∧ wq = wr) (fun _ _ _ => 0)
      case atStart => exact ⟨rfl, rfl, rfl⟩
      case round =>
        obtain ⟨rfl, rfl, rfl⟩ := hrel
        go_wp2_with fail
        go_ret
        exact ⟨by rw [← HE.out]; rfl, t1⟩
end Go.Proofs.YtaoigopjfelgpaaGreatDoor



/- New of the program and of the document refuse the same, plain. -/
namespace Go.Proofs.YtaoigopjfelgpaaGreatDoor
set_option linter.unusedVariables false

theorem scanA_ok : ∀ (l : List Ac) (p : Nat), scanA p l = 0 → ∀ m ∈ l, m.bal ≤ 1152921504606846975 ∧ m.bond ≤ 1152921504606846975
  | [], _, _, m, h => by cases h
  | x :: r, p, h, m, hm => by
    unfold scanA at h
    split at h
    · cases h
    · split at h
      · cases h
      · split at h
        · cases h
        · rcases List.mem_cons.1 hm with rfl | hm
          · omega
          · exact scanA_ok r _ h m hm
theorem step_sum {S S' : Nat} {m : Ac} (h : min S' 1152921504606846976 = S) (hb : m.bal ≤ 1152921504606846975) (hd : m.bond ≤ 1152921504606846975) : min (sumA S' m) 1152921504606846976 = stepA S m := by
  unfold sumA stepA addN
  split
  · split <;> omega
  · split <;> omega
theorem fold_sum : ∀ (l : List Ac) (S S' : Nat), min S' 1152921504606846976 = S → (∀ m ∈ l, m.bal ≤ 1152921504606846975 ∧ m.bond ≤ 1152921504606846975) → min (l.foldl sumA S') 1152921504606846976 = l.foldl stepA S
  | [], _, _, h, _ => h
  | x :: r, S, S', h, hm => by
    have hx := hm x (List.mem_cons_self ..)
    exact fold_sum r (stepA S x) (sumA S' x) (step_sum h hx.1 hx.2) (fun m h => hm m (List.mem_cons_of_mem _ h))
theorem whole_sum {l : List Ac} (h : scanA 0 l = 0) : min (sumN 0 l []) 1152921504606846976 = wholeN 0 l [] :=
  fold_sum l _ _ (by decide) (scanA_ok l 0 h)
/-- What the document's New refuses. -/
def newE (l : List Ac) : Int := if accE l ≠ 0 then accE l else if 1152921504606846975 < sumN 0 l [] then 87 else 0
theorem new_same (l : List Ac) : soundE 0 l (wholeN 0 l []) = newE l := by
  unfold soundE newE accE
  by_cases h6 : 65536 < l.length
  · simp [h6]
  · simp only [h6, if_false]
    by_cases hs : scanA 0 l = 0
    · have := whole_sum hs
      simp only [hs, ne_eq, not_true_eq_false, if_false, or_false]
      by_cases q : 1152921504606846975 < sumN 0 l []
      · rw [if_pos q, if_pos (by omega)]
      · rw [if_neg q, if_neg (by omega)]
    · simp [hs]
/-- Where it is taken, the supply is the sum. -/
theorem new_sum {l : List Ac} (h : newE l = 0) : sumN 0 l [] = wholeN 0 l [] ∧ sumN 0 l [] ≤ 1152921504606846975 := by
  unfold newE at h
  split at h
  · rename_i q; exact (q h).elim
  · rename_i q
    split at h
    · cases h
    · have hs : scanA 0 l = 0 := by
        have q' : accE l = 0 := Classical.byContradiction q
        unfold accE at q'
        split at q'
        · cases q'
        · exact q'
      have := whole_sum hs
      omega
end Go.Proofs.YtaoigopjfelgpaaGreatDoor


