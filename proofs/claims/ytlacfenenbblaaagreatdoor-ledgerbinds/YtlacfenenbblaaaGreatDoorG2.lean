/- accountAt. -/
import Derived.Test.YtlacfenenbblaaaGreatDoorLb
import Derived.Test.YtlacfenenbblaaaGreatDoorG1
import Derived.Shelf.SlSorted.Search
import Derived.Shelf.Lay
import Derived.Ground.SlsoProg
namespace Go.Proofs.YtlacfenenbblaaaGreatDoor
open Go.RowKit Go.Shelf Go.Lib Go.Sort
set_option linter.unusedVariables false


theorem count_split (p : Nat → Bool) : ∀ n : Nat, (∀ a b, a ≤ b → b < n → p a = true → p b = true) →
    (List.range n).countP (fun i => !p i) ≤ n ∧ (∀ i, i < (List.range n).countP (fun i => !p i) → p i = false) ∧ (∀ i, (List.range n).countP (fun i => !p i) ≤ i → i < n → p i = true)
  | 0, _ => by simp
  | n + 1, h => by
    obtain ⟨h1, h2, h3⟩ := count_split p n (fun a b q r => h a b q (by omega))
    rw [List.range_succ, List.countP_append]
    generalize (List.range n).countP (fun i => !p i) = c at *
    cases hp : p n with
    | true =>
      simp only [List.countP_cons, List.countP_nil, hp, Bool.not_true, Bool.false_eq_true, if_false, Nat.add_zero]
      refine ⟨by omega, h2, fun i q r => ?_⟩
      rcases Nat.lt_or_ge i n with s | s
      · exact h3 i q s
      · have : i = n := by omega
        rw [this]; exact hp
    | false =>
      have hc : c = n := by
        rcases Nat.lt_or_ge c n with q | q
        · have := h c n (by omega) (by omega) (h3 c (Nat.le_refl _) q)
          rw [hp] at this
          cases this
        · omega
      subst hc
      simp only [List.countP_cons, List.countP_nil, hp, Bool.not_false, if_true, Nat.zero_add]
      refine ⟨Nat.le_refl _, fun i q => ?_, fun i q r => by omega⟩
      rcases Nat.lt_or_ge i c with s | s
      · exact h2 i s
      · have : i = c := by omega
        rw [this]; exact hp

set_option maxHeartbeats 1000000 in
theorem close55 (W : World) (ba bx blk off n cap i : Nat) (a x : Nat) (hi : i < n) (ha : W.cell? ⟨ba, 0, none⟩ = some (.slice (some ⟨blk, off, none⟩) n cap)) (hx : W.cell? ⟨bx, 0, none⟩ = some (.int .u64 a)) (hc : W.cell? ⟨blk, off + i * 5, none⟩ = some (.int .u64 x)) :
    Calls Tryz.prog 104 (#[.int .i64 i] ++ #[.pointer (some ⟨ba, 0, none⟩), .pointer (some ⟨bx, 0, none⟩)]) W fun e w' => e = .returned (.bool (decide (a ≤ x))) ∧ ∃ q, w' = W.drewN q := by
  have hiz : (i : Int) < (n : Int) := by omega
  have hd : decide ((a : Int) ≤ (x : Int)) = decide (a ≤ x) := by
    by_cases q : a ≤ x
    · simp [q]
    · simp [q]
  go_enter Tryz.func104, Tryz.ntmps104
  go_wp2
  go_quiet (fail)
  go_wp2_with fail
  go_ret
  exact ⟨rfl, nq, rfl⟩

set_option maxRecDepth 100000 in
set_option maxHeartbeats 4000000 in
theorem at39 (w : World) (v : Value) (l : List Ac) (hv : As w v l) (hA : Asc l) (hl : l.length ≤ 65536) (a : Nat) : Calls Tryz.prog 77 #[v, .int .u64 a] w fun e w' => ∃ k : Int, e = .returned (.tuple #[.int .i64 k, .bool (hasB l a)]) ∧ Turn no w w' := by
  obtain ⟨ad, cap, rfl, h⟩ := hv
  have HC := shut h.cells
  obtain ⟨n, hn⟩ : ∃ n, Hid (l.length = n) := ⟨_, rfl⟩
  have hn' : l.length = n := hn.out
  rw [hn'] at hl ⊢
  clear hn'
  obtain ⟨W0, hW0⟩ : ∃ W0, (w.alloc (.cells #[.slice ad n cap] 22)).alloc (.cells #[.int .u64 a] 27) = W0 := ⟨_, rfl⟩
  have T0 : Turn no w W0 := by rw [← hW0]; exact ((Turn.refl no w).alloc _).alloc _
  have ca : W0.cell? ⟨w.heap.size, 0, none⟩ = some (.slice ad n cap) := by
    rw [← hW0]
    exact ((Turn.refl no _).alloc _).keep (cell_of_row _ _ 0 _ 22 (0, 0) (heap_alloc_new w _)) (fun q => q)
  have hs1 : (w.alloc (.cells #[.slice ad n cap] 22)).heap.size = w.heap.size + 1 := by simp
  have cx : W0.cell? ⟨w.heap.size + 1, 0, none⟩ = some (.int .u64 a) := by
    rw [← hW0, ← hs1]
    exact cell_of_row _ _ 0 _ 27 (0, 0) (heap_alloc_new _ _)
  have hsz : W0.heap.size = w.heap.size + 2 := by rw [← hW0]; simp
  have hmono : ∀ x y, x ≤ y → y < n → decide (a ≤ (l.getD x acZ).ad) = true → decide (a ≤ (l.getD y acZ).ad) = true := fun x y h1 h2 h3 => by
    simp only [decide_eq_true_eq] at h3 ⊢
    rcases Nat.lt_or_ge x y with q | q
    · have := hA.at q (List.getElem?_eq_getElem (show x < l.length by have := hn.out; omega)) (List.getElem?_eq_getElem (show y < l.length by have := hn.out; omega))
      simp only [List.getD_eq_getElem?_getD, List.getElem?_eq_getElem (show x < l.length by have := hn.out; omega), List.getElem?_eq_getElem (show y < l.length by have := hn.out; omega), Option.getD_some] at h3 ⊢
      omega
    · have : x = y := by omega
      rw [← this]; exact h3
  have eg : ∀ args w, (callFunc 104 args).run Tryz.prog w = .ok (.enter 104 args) w := enters_of Tryz.func104 (by kernel_rfl) rfl
  have hS := Any.sort_Search searchT 104 #[.pointer (some ⟨w.heap.size, 0, none⟩), .pointer (some ⟨w.heap.size + 1, 0, none⟩)] n (fun i => decide (a ≤ (l.getD i acZ).ad)) W0 eg (by omega)
    (fun m os i hi => by
      obtain ⟨x, hx⟩ : ∃ x, l[i]? = some x := ⟨l[i]'(by rw [hn.out]; exact hi), List.getElem?_eq_getElem _⟩
      obtain ⟨b, off, e, c0, _⟩ := HC.out i x hx
      subst e
      have hxd : (l.getD i acZ) = x := by simp [List.getD_eq_getElem?_getD, hx]
      rw [hxd]
      have hb : b < w.heap.size := by
        rcases Nat.lt_or_ge b w.heap.size with q | q
        · exact q
        · rw [show w.cell? ⟨b, off + i * 5, none⟩ = none by simp [World.cell?, Array.getElem?_eq_none q]] at c0
          cases c0
      have c1 := T0.keep c0 (fun q => q)
      refine (close55 _ w.heap.size (w.heap.size + 1) b off n cap i a x.ad hi (cell_grown (by show w.heap.size < W0.heap.size; omega) ca m os) (cell_grown (by show w.heap.size + 1 < W0.heap.size; omega) cx m os) (cell_grown (by show b < W0.heap.size; omega) c1 m os)).mono ?_
      rintro e w' ⟨he, q, hq⟩
      exact ⟨he, q, #[], by rw [hq, grow_empty]⟩) hmono
  change Calls Tryz.prog 103 _ _ _ at hS
  have hsp := count_split (fun i => decide (a ≤ (l.getD i acZ).ad)) n hmono
  generalize (List.range n).countP (fun i => !decide (a ≤ (l.getD i acZ).ad)) = c at *
  obtain ⟨hcn, hp1, hp2⟩ := hsp
  have HE : Shut (hasB l a = (match l[c]? with | some m => decide (m.ad = a) | none => false)) := has_lo hA ⟨fun i m hm q => by
    have := hp1 i q
    simp only [List.getD_eq_getElem?_getD, hm, Option.getD_some, decide_eq_false_iff_not] at this
    omega, fun i m hm q => by
    have := hp2 i q (by have := (List.getElem?_eq_some_iff.1 hm).1; have := hn.out; omega)
    simp only [List.getD_eq_getElem?_getD, hm, Option.getD_some, decide_eq_true_eq] at this
    exact this⟩
  have HT0 := shut T0
  have HCA := shut ca
  have HCX := shut cx
  clear hp1 hp2 hmono eg hsz hs1 h hA T0 cx
  generalize hasB l a = R at *
  go_enter Tryz.func77, Tryz.ntmps77
  go_upto_region 1 with fail
  try rw [hW0]
  clear hW0
  go_upto_region 2 with (go_at_call 103; refine hS.mono ?_; clear hS; rintro e w1 ⟨rfl, q, os, rfl⟩)
  obtain ⟨w1, hw1⟩ : ∃ w1, grow (W0.drewN q) os = w1 := ⟨_, rfl⟩
  have T1 : Turn no W0 w1 := Gw.turn ⟨q, os, hw1.symm⟩
  rw [hw1]
  clear hw1 ca
  have ca := T1.keep HCA.out (fun q => q)
  have cx := T1.keep HCX.out (fun q => q)
  have HTT := shut (HT0.out.then_no T1)
  by_cases hq : c < n
  · obtain ⟨m, hm⟩ : ∃ m, l[c]? = some m := ⟨l[c]'(by rw [hn.out]; exact hq), List.getElem?_eq_getElem _⟩
    obtain ⟨b, off, rfl, c0, _⟩ := HC.out c m hm
    have c0 := HTT.out.keep c0 (fun q => q)
    have hq' : (c : Int) < (n : Int) := by omega
    have HE2 : Shut (R = decide (m.ad = a)) := by have := HE.out; rw [hm] at this; exact this
    clear hm HE HC
    by_cases hc : m.ad = a
    · have hc' : ((m.ad : Int) == (a : Int)) = true := by simp; omega
      have HE3 : Shut (R = true) := by show _ = _; rw [HE2.out]; simp [hc]
      clear hc
      go_quiet (fail)
      go_wp2_with fail
      go_ret2
      exact ⟨_, by rw [HE3.out]; rfl, HTT.out.drewN _⟩
    · have hc' : ((m.ad : Int) == (a : Int)) = false := by simp; omega
      have HE3 : Shut (R = false) := by show _ = _; rw [HE2.out]; simp [hc]
      clear hc
      go_quiet (fail)
      go_wp2_with fail
      go_ret2
      exact ⟨_, by rw [HE3.out]; rfl, HTT.out.drewN _⟩
  · have hq' : ¬ (c : Int) < (n : Int) := by omega
    have HE3 : Shut (R = false) := by
      have := HE.out
      rw [List.getElem?_eq_none (by rw [hn.out]; omega)] at this
      exact this
    clear HE HC hq
    go_quiet (fail)
    go_wp2_with fail
    go_ret2
    exact ⟨⟨_, by rw [HE3.out]; rfl⟩, HTT.out.drewN _⟩
end Go.Proofs.YtlacfenenbblaaaGreatDoor


