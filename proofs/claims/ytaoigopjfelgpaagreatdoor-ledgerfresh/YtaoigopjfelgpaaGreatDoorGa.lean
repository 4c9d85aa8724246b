/- Texts in one. -/
import Derived.Test.YtaoigopjfelgpaaGreatDoorLb
import Derived.Test.YtaoigopjfelgpaaGreatDoorAa
import Derived.Shelf.SlSorted.Search
import Derived.Shelf.Lay
import Derived.Ground.SlsoProg
import Derived.BigQuiet
import Derived.Deep.RegionHeld3
/- An address looked for by halving. -/
namespace Go.Proofs.YtaoigopjfelgpaaGreatDoor
open Go.RowKit
set_option linter.unusedVariables false

/-- Is there an account of that address? -/
def hasB (l : List Ac) (x : Nat) : Bool := l.any (fun m => decide (m.ad = x))
/-- What stands ahead of a place is below, what stands from it on is not. -/
def Parts (l : List Ac) (a lo hi : Nat) : Prop := (∀ i m, l[i]? = some m → i < lo → m.ad < a) ∧ (∀ i m, l[i]? = some m → hi ≤ i → a ≤ m.ad)
theorem has_lo {l : List Ac} (h : Asc l) {a lo : Nat} (hp : Parts l a lo lo) : hasB l a = (match l[lo]? with | some m => decide (m.ad = a) | none => false) := by
  obtain ⟨h1, h2⟩ := hp
  cases hq : l[lo]? with
  | none =>
    have hl := List.getElem?_eq_none_iff.1 hq
    simp only [hasB]
    rw [List.any_eq_false]
    intro m hm
    obtain ⟨i, hi, rfl⟩ := List.getElem_of_mem hm
    have := h1 i _ (List.getElem?_eq_getElem hi) (by omega)
    simp only [decide_eq_true_eq]
    omega
  | some m =>
    simp only
    by_cases e : m.ad = a
    · simp only [e, decide_true]
      exact List.any_eq_true.2 ⟨m, List.mem_of_getElem? hq, by simp [e]⟩
    · simp only [e, decide_false]
      simp only [hasB]
      rw [List.any_eq_false]
      intro x hx
      obtain ⟨i, hi, rfl⟩ := List.getElem_of_mem hx
      have hxi := List.getElem?_eq_getElem hi
      have hm := h2 lo m hq (Nat.le_refl _)
      simp only [decide_eq_true_eq]
      rcases Nat.lt_trichotomy i lo with q | q | q
      · have := h1 i _ hxi q; omega
      · subst q; rw [hq] at hxi; cases hxi; exact e
      · have := h.at q hq hxi; omega
theorem Parts.up {l : List Ac} (h : Asc l) {a lo hi k : Nat} {m : Ac} (hp : Parts l a lo hi) (hk : l[k]? = some m) (hm : m.ad < a) : Parts l a (k + 1) hi := by
  refine ⟨fun i x hx hi => ?_, hp.2⟩
  rcases Nat.lt_or_ge i k with q | q
  · have := h.at q hx hk; omega
  · have : i = k := by omega
    subst this
    rw [hk] at hx
    cases hx
    exact hm
theorem Parts.down {l : List Ac} (h : Asc l) {a lo hi k : Nat} {m : Ac} (hp : Parts l a lo hi) (hk : l[k]? = some m) (hm : ¬ m.ad < a) : Parts l a lo k := by
  refine ⟨hp.1, fun i x hx hi => ?_⟩
  rcases Nat.lt_or_ge k i with q | q
  · have := h.at q hk hx; omega
  · have : i = k := by omega
    subst this
    rw [hk] at hx
    cases hx
    omega

set_option maxRecDepth 100000 in
set_option maxHeartbeats 4000000 in
theorem has41 (w : World) (v : Value) (l : List Ac) (hv : As w v l) (hA : Asc l) (hl : l.length ≤ 65536) (a : Nat) : Calls Tryz.prog 97 #[v, .int .u64 a] w fun e w' => e = .returned (.bool (hasB l a)) ∧ Turn no w w' := by
  obtain ⟨ad, cap, rfl, h⟩ := hv
  have HC := shut h.cells
  have HA := shut hA
  have HP0 : Shut (Parts l a 0 l.length) := ⟨fun i m _ q => absurd q (Nat.not_lt_zero _), fun i m hm q => absurd (List.getElem?_eq_some_iff.1 hm).1 (by omega)⟩
  have HB : Shut (∀ lo, Parts l a lo lo → hasB l a = (match l[lo]? with | some m => decide (m.ad = a) | none => false)) := fun lo hp => has_lo hA hp
  clear h hA
  generalize hasB l a = R at *
  obtain ⟨n, hn⟩ : ∃ n, Hid (l.length = n) := ⟨_, rfl⟩
  have hn' : l.length = n := hn.out
  rw [hn'] at hl HP0 ⊢
  clear hn'
  go_enter Tryz.func97, Tryz.ntmps97
  go_wp2_with fail
  go_loopw [5, 6] (fun x y wr => ∃ lo hi : Nat, lo ≤ hi ∧ hi ≤ n ∧ x = .int .i64 lo ∧ y = .int .i64 hi ∧ Shut (Parts l a lo hi ∧ Turn no w wr)) (fun x y _ => (intOf y).toNat - (intOf x).toNat)
  case atStart => exact ⟨0, n, by omega, by omega, rfl, rfl, HP0.out, Turn.refl _ _⟩
  case round =>
    obtain ⟨lo, hi, h1, h2, rfl, rfl, HI⟩ := hrel
    by_cases hlt : lo < hi
    · obtain ⟨k, hk⟩ : ∃ k, (lo + hi) / 2 = k := ⟨_, rfl⟩
      obtain ⟨m, hm⟩ : ∃ m, l[k]? = some m := ⟨l[k]'(by rw [hn.out]; omega), List.getElem?_eq_getElem _⟩
      obtain ⟨b, off, rfl, c0, _⟩ := HC.out k m hm
      have c0 := HI.out.2.keep c0 (fun q => q)
      have hlt' : (lo : Int) < (hi : Int) := by omega
      have hkn : (k : Int) < (n : Int) := by omega
      have hw1 : IntKind.i64.wrap ((lo : Int) + (hi : Int)) = (lo : Int) + (hi : Int) := by rw [IntKind.wrap_i64]; omega
      have hdiv : ((lo : Int) + (hi : Int)).tdiv 2 = (k : Int) := by
        rw [Int.tdiv_eq_ediv_of_nonneg (by omega)]
        omega
      have hw2 : IntKind.i64.wrap (k : Int) = (k : Int) := by rw [IntKind.wrap_i64]; omega
      have HKL : Shut (lo ≤ k ∧ k < hi) := by refine ⟨?_, ?_⟩ <;> omega
      have HM := shut hm
      clear hk hm
      by_cases hc : m.ad < a
      · have hc' : (m.ad : Int) < (a : Int) := by omega
        have hw3 : IntKind.i64.wrap ((k : Int) + 1) = (k : Int) + 1 := by rw [IntKind.wrap_i64]; omega
        have HN : Shut (Parts l a (k + 1) hi ∧ Turn no w wr) := ⟨HI.out.1.up HA.out HM.out hc, HI.out.2⟩
        clear hc
        go_wp2_with fail
        go_roundw
        case rel => exact ⟨k + 1, hi, by have := HKL.out; omega, h2, by go_num, rfl, HN⟩
        case measure => have := HKL.out; simp [intOf]; omega
      · have hc' : ¬ (m.ad : Int) < (a : Int) := by omega
        have HN : Shut (Parts l a lo k ∧ Turn no w wr) := ⟨HI.out.1.down HA.out HM.out hc, HI.out.2⟩
        clear hc
        go_wp2_with fail
        go_roundw
        case rel => exact ⟨lo, k, by have := HKL.out; omega, by have := HKL.out; omega, rfl, rfl, HN⟩
        case measure => have := HKL.out; simp [intOf]; omega
    · obtain rfl : lo = hi := by omega
      have hlt' : ¬ (lo : Int) < (lo : Int) := by omega
      have HE := shut (HB.out lo HI.out.1)
      have HT := shut HI.out.2
      by_cases hq : lo < n
      · obtain ⟨m, hm⟩ : ∃ m, l[lo]? = some m := ⟨l[lo]'(by rw [hn.out]; exact hq), List.getElem?_eq_getElem _⟩
        obtain ⟨b, off, rfl, c0, _⟩ := HC.out lo m hm
        have c0 := HI.out.2.keep c0 (fun q => q)
        have hq' : (lo : Int) < (n : Int) := by omega
        have HE2 : Shut (R = decide (m.ad = a)) := by have := HE.out; rw [hm] at this; exact this
        clear hm HB HI HE HC
        by_cases hc : m.ad = a
        · have hc' : ((m.ad : Int) == (a : Int)) = true := by simp; omega
          have HE3 : Shut (R = true) := by show _ = _; rw [HE2.out]; simp [hc]
          clear hc
          go_wp2_with fail
          go_ret
          exact ⟨by rw [HE3.out]; rfl, HT.out⟩
        · have hc' : ((m.ad : Int) == (a : Int)) = false := by simp; omega
          have HE3 : Shut (R = false) := by show _ = _; rw [HE2.out]; simp [hc]
          clear hc
          go_wp2_with fail
          go_ret
          exact ⟨by rw [HE3.out]; rfl, HT.out⟩
      · have hq' : ¬ (lo : Int) < (n : Int) := by omega
        have HE3 : Shut (R = false) := by
          have := HE.out
          rw [List.getElem?_eq_none (by rw [hn.out]; omega)] at this
          exact this
        clear HB HI HE HC hq
        go_wp2_with fail
        go_ret
        exact ⟨by rw [HE3.out]; rfl, HT.out⟩
end Go.Proofs.YtaoigopjfelgpaaGreatDoor



/- accountAt. -/
namespace Go.Proofs.YtaoigopjfelgpaaGreatDoor
open Go.RowKit Go.Shelf Go.Lib Go.Sort
set_option linter.unusedVariables false


theorem count_split (p : Nat → Bool) : ∀ n : Nat, (∀ a b, a ≤ b → b < n → p a = true → p b = true) →
    (List.range n).countP (fun i => !p i) ≤ n ∧ (∀ i, i < (List.range n).countP (fun i => !p i) → p i = false) ∧ (∀ i, (List.range n).countP (fun i => !p i) ≤ i → i < n → p i = true)
  | 0, _ => by simp
  | n + 1, h => by
    obtain ⟨h1, h2, h3⟩ := count_split p n (fun a b q r => h a b q (by omega))
    rw [List.range_succ, List.countP_append]
    generalize (List.range n).countP (fun i => !p i) = c at *
    cases hp : p n with
    | true =>
      simp only [List.countP_cons, List.countP_nil, hp, Bool.not_true, Bool.false_eq_true, if_false, Nat.add_zero]
      refine ⟨by omega, h2, fun i q r => ?_⟩
      rcases Nat.lt_or_ge i n with s | s
      · exact h3 i q s
      · have : i = n := by omega
        rw [this]; exact hp
    | false =>
      have hc : c = n := by
        rcases Nat.lt_or_ge c n with q | q
        · have := h c n (by omega) (by omega) (h3 c (Nat.le_refl _) q)
          rw [hp] at this
          cases this
        · omega
      subst hc
      simp only [List.countP_cons, List.countP_nil, hp, Bool.not_false, if_true, Nat.zero_add]
      refine ⟨Nat.le_refl _, fun i q => ?_, fun i q r => by omega⟩
      rcases Nat.lt_or_ge i c with s | s
      · exact h2 i s
      · have : i = c := by omega
        rw [this]; exact hp

set_option maxHeartbeats 1000000 in
theorem close55 (W : World) (ba bx blk off n cap i : Nat) (a x : Nat) (hi : i < n) (ha : W.cell? ⟨ba, 0, none⟩ = some (.slice (some ⟨blk, off, none⟩) n cap)) (hx : W.cell? ⟨bx, 0, none⟩ = some (.int .u64 a)) (hc : W.cell? ⟨blk, off + i * 5, none⟩ = some (.int .u64 x)) :
    Calls Tryz.prog 57 (#[.int .i64 i] ++ #[.pointer (some ⟨ba, 0, none⟩), .pointer (some ⟨bx, 0, none⟩)]) W fun e w' => e = .returned (.bool (decide (a ≤ x))) ∧ ∃ q, w' = W.drewN q := by
  have hiz : (i : Int) < (n : Int) := by omega
  have hd : decide ((a : Int) ≤ (x : Int)) = decide (a ≤ x) := by
    by_cases q : a ≤ x
    · simp [q]
    · simp [q]
  go_enter Tryz.func57, Tryz.ntmps57
  go_wp2
  go_quiet (fail)
  go_wp2_with fail
  go_ret
  exact ⟨rfl, nq, rfl⟩

set_option maxRecDepth 100000 in
set_option maxHeartbeats 4000000 in
theorem at39 (w : World) (v : Value) (l : List Ac) (hv : As w v l) (hA : Asc l) (hl : l.length ≤ 65536) (a : Nat) : Calls Tryz.prog 28 #[v, .int .u64 a] w fun e w' => ∃ k : Int, e = .returned (.tuple #[.int .i64 k, .bool (hasB l a)]) ∧ Turn no w w' := by
  obtain ⟨ad, cap, rfl, h⟩ := hv
  have HC := shut h.cells
  obtain ⟨n, hn⟩ : ∃ n, Hid (l.length = n) := ⟨_, rfl⟩
  have hn' : l.length = n := hn.out
  rw [hn'] at hl ⊢
  clear hn'
  obtain ⟨W0, hW0⟩ : ∃ W0, (w.alloc (.cells #[.slice ad n cap] 22)).alloc (.cells #[.int .u64 a] 26) = W0 := ⟨_, rfl⟩
  have T0 : Turn no w W0 := by rw [← hW0]; exact ((Turn.refl no w).alloc _).alloc _
  have ca : W0.cell? ⟨w.heap.size, 0, none⟩ = some (.slice ad n cap) := by
    rw [← hW0]
    exact ((Turn.refl no _).alloc _).keep (cell_of_row _ _ 0 _ 22 (0, 0) (heap_alloc_new w _)) (fun q => q)
  have hs1 : (w.alloc (.cells #[.slice ad n cap] 22)).heap.size = w.heap.size + 1 := by simp
  have cx : W0.cell? ⟨w.heap.size + 1, 0, none⟩ = some (.int .u64 a) := by
    rw [← hW0, ← hs1]
    exact cell_of_row _ _ 0 _ 26 (0, 0) (heap_alloc_new _ _)
  have hsz : W0.heap.size = w.heap.size + 2 := by rw [← hW0]; simp
  have hmono : ∀ x y, x ≤ y → y < n → decide (a ≤ (l.getD x acZ).ad) = true → decide (a ≤ (l.getD y acZ).ad) = true := fun x y h1 h2 h3 => by
    simp only [decide_eq_true_eq] at h3 ⊢
    rcases Nat.lt_or_ge x y with q | q
    · have := hA.at q (List.getElem?_eq_getElem (show x < l.length by have := hn.out; omega)) (List.getElem?_eq_getElem (show y < l.length by have := hn.out; omega))
      simp only [List.getD_eq_getElem?_getD, List.getElem?_eq_getElem (show x < l.length by have := hn.out; omega), List.getElem?_eq_getElem (show y < l.length by have := hn.out; omega), Option.getD_some] at h3 ⊢
      omega
    · have : x = y := by omega
      rw [← this]; exact h3
  have eg : ∀ args w, (callFunc 57 args).run Tryz.prog w = .ok (.enter 57 args) w := enters_of Tryz.func57 (by kernel_rfl) rfl
  have hS := Any.sort_Search searchT 57 #[.pointer (some ⟨w.heap.size, 0, none⟩), .pointer (some ⟨w.heap.size + 1, 0, none⟩)] n (fun i => decide (a ≤ (l.getD i acZ).ad)) W0 eg (by omega)
    (fun m os i hi => by
      obtain ⟨x, hx⟩ : ∃ x, l[i]? = some x := ⟨l[i]'(by rw [hn.out]; exact hi), List.getElem?_eq_getElem _⟩
      obtain ⟨b, off, e, c0, _⟩ := HC.out i x hx
      subst e
      have hxd : (l.getD i acZ) = x := by simp [List.getD_eq_getElem?_getD, hx]
      rw [hxd]
      have hb : b < w.heap.size := by
        rcases Nat.lt_or_ge b w.heap.size with q | q
        · exact q
        · rw [show w.cell? ⟨b, off + i * 5, none⟩ = none by simp [World.cell?, Array.getElem?_eq_none q]] at c0
          cases c0
      have c1 := T0.keep c0 (fun q => q)
      refine (close55 _ w.heap.size (w.heap.size + 1) b off n cap i a x.ad hi (cell_grown (by show w.heap.size < W0.heap.size; omega) ca m os) (cell_grown (by show w.heap.size + 1 < W0.heap.size; omega) cx m os) (cell_grown (by show b < W0.heap.size; omega) c1 m os)).mono ?_
      rintro e w' ⟨he, q, hq⟩
      exact ⟨he, q, #[], by rw [hq, grow_empty]⟩) hmono
  change Calls Tryz.prog 26 _ _ _ at hS
  have hsp := count_split (fun i => decide (a ≤ (l.getD i acZ).ad)) n hmono
  generalize (List.range n).countP (fun i => !decide (a ≤ (l.getD i acZ).ad)) = c at *
  obtain ⟨hcn, hp1, hp2⟩ := hsp
  have HE : Shut (hasB l a = (match l[c]? with | some m => decide (m.ad = a) | none => false)) := has_lo hA ⟨fun i m hm q => by
    have := hp1 i q
    simp only [List.getD_eq_getElem?_getD, hm, Option.getD_some, decide_eq_false_iff_not] at this
    omega, fun i m hm q => by
    have := hp2 i q (by have := (List.getElem?_eq_some_iff.1 hm).1; have := hn.out; omega)
    simp only [List.getD_eq_getElem?_getD, hm, Option.getD_some, decide_eq_true_eq] at this
    exact this⟩
  have HT0 := shut T0
  have HCA := shut ca
  have HCX := shut cx
  clear hp1 hp2 hmono eg hsz hs1 h hA T0 cx
  generalize hasB l a = R at *
  go_enter Tryz.func28, Tryz.ntmps28
  go_upto_region 1 with fail
  try rw [hW0]
  clear hW0
  go_upto_region 2 with (go_at_call 26; refine hS.mono ?_; clear hS; rintro e w1 ⟨rfl, q, os, rfl⟩)
  obtain ⟨w1, hw1⟩ : ∃ w1, grow (W0.drewN q) os = w1 := ⟨_, rfl⟩
  have T1 : Turn no W0 w1 := Gw.turn ⟨q, os, hw1.symm⟩
  rw [hw1]
  clear hw1 ca
  have ca := T1.keep HCA.out (fun q => q)
  have cx := T1.keep HCX.out (fun q => q)
  have HTT := shut (HT0.out.then_no T1)
  by_cases hq : c < n
  · obtain ⟨m, hm⟩ : ∃ m, l[c]? = some m := ⟨l[c]'(by rw [hn.out]; exact hq), List.getElem?_eq_getElem _⟩
    obtain ⟨b, off, rfl, c0, _⟩ := HC.out c m hm
    have c0 := HTT.out.keep c0 (fun q => q)
    have hq' : (c : Int) < (n : Int) := by omega
    have HE2 : Shut (R = decide (m.ad = a)) := by have := HE.out; rw [hm] at this; exact this
    clear hm HE HC
    by_cases hc : m.ad = a
    · have hc' : ((m.ad : Int) == (a : Int)) = true := by simp; omega
      have HE3 : Shut (R = true) := by show _ = _; rw [HE2.out]; simp [hc]
      clear hc
      go_quiet (fail)
      go_wp2_with fail
      go_ret2
      exact ⟨_, by rw [HE3.out]; rfl, HTT.out.drewN _⟩
    · have hc' : ((m.ad : Int) == (a : Int)) = false := by simp; omega
      have HE3 : Shut (R = false) := by show _ = _; rw [HE2.out]; simp [hc]
      clear hc
      go_quiet (fail)
      go_wp2_with fail
      go_ret2
      exact ⟨_, by rw [HE3.out]; rfl, HTT.out.drewN _⟩
  · have hq' : ¬ (c : Int) < (n : Int) := by omega
    have HE3 : Shut (R = false) := by
      have := HE.out
      rw [List.getElem?_eq_none (by rw [hn.out]; omega)] at this
      exact this
    clear HE HC hq
    go_quiet (fail)
    go_wp2_with fail
    go_ret2
    exact ⟨⟨_, by rw [HE3.out]; rfl⟩, HTT.out.drewN _⟩
end Go.Proofs.YtaoigopjfelgpaaGreatDoor



/- byDue; soundReleases. -/
namespace Go.Proofs.YtaoigopjfelgpaaGreatDoor
open Go.RowKit
set_option linter.unusedVariables false

def dueC (x y : Rl) : Int := orN (cN x.ht y.ht) (cN x.ad y.ad)
theorem due_le (x y : Rl) : dueC x y ≤ 0 ↔ (x.ht < y.ht ∨ (x.ht = y.ht ∧ x.ad ≤ y.ad)) := by
  unfold dueC orN cN
  rcases Nat.lt_trichotomy x.ht y.ht with h | h | h
  · simp [h]
  · have h1 : ¬ x.ht < y.ht := by omega
    have h2 : ¬ y.ht < x.ht := by omega
    rw [if_neg h1, if_neg h2, if_pos rfl]
    rcases Nat.lt_trichotomy x.ad y.ad with k | k | k
    · rw [if_pos k]; omega
    · have k1 : ¬ x.ad < y.ad := by omega
      have k2 : ¬ y.ad < x.ad := by omega
      rw [if_neg k1, if_neg k2]; omega
    · have k1 : ¬ x.ad < y.ad := by omega
      rw [if_neg k1, if_pos k]; omega
  · have h1 : ¬ x.ht < y.ht := by omega
    rw [if_neg h1, if_pos h, if_neg (by decide)]
    omega
set_option maxRecDepth 100000 in
set_option maxHeartbeats 4000000 in
theorem due40 (w : World) (x y : Rl) : Calls Tryz.prog 77 #[.agg #[.int .u64 x.ht, .int .u64 x.ad, .int .u64 x.born, .int .u64 x.amt], .agg #[.int .u64 y.ht, .int .u64 y.ad, .int .u64 y.born, .int .u64 y.amt]] w fun e w' => e = .returned (.int .i64 (dueC x y)) ∧ Gw w w' := by
  obtain ⟨w1, hw1⟩ : ∃ w1, w.alloc (.cells #[.int .u64 x.ht, .int .u64 x.ad, .int .u64 x.born, .int .u64 x.amt] 67) = w1 := ⟨_, rfl⟩
  have s1 : w1.heap.size = w.heap.size + 1 := by rw [← hw1]; simp
  obtain ⟨w2, hw2⟩ : ∃ w2, w1.alloc (.cells #[.int .u64 y.ht, .int .u64 y.ad, .int .u64 y.born, .int .u64 y.amt] 67) = w2 := ⟨_, rfl⟩
  have G2 : Gw w w2 := by rw [← hw2, ← hw1]; exact ((Gw.refl w).alloc _).alloc _
  have R1 : w2.heap[w.heap.size]? = some (.cells #[.int .u64 x.ht, .int .u64 x.ad, .int .u64 x.born, .int .u64 x.amt] 67 (0, 0)) := by
    have t : Turn no w1 w2 := by rw [← hw2]; exact (Turn.refl no w1).alloc _
    exact t.obj (by rw [← hw1]; exact heap_alloc_new w _) (fun q => q)
  have R2 : w2.heap[w.heap.size + 1]? = some (.cells #[.int .u64 y.ht, .int .u64 y.ad, .int .u64 y.born, .int .u64 y.amt] 67 (0, 0)) := by
    rw [← s1, ← hw2]
    exact heap_alloc_new w1 _
  have D : ∀ W, Gw w2 W → W.cell? ⟨w.heap.size, 0, none⟩ = some (.int .u64 x.ht) ∧ W.cell? ⟨w.heap.size, 1, none⟩ = some (.int .u64 x.ad) ∧ W.cell? ⟨w.heap.size + 1, 0, none⟩ = some (.int .u64 y.ht) ∧ W.cell? ⟨w.heap.size + 1, 1, none⟩ = some (.int .u64 y.ad) := fun W g =>
    ⟨g.turn.keep (cell_of_row _ _ 0 _ 67 (0, 0) R1) (fun q => q), g.turn.keep (cell_of_row _ _ 1 _ 67 (0, 0) R1) (fun q => q), g.turn.keep (cell_of_row _ _ 0 _ 67 (0, 0) R2) (fun q => q), g.turn.keep (cell_of_row _ _ 1 _ 67 (0, 0) R2) (fun q => q)⟩
  have HD := shut' D
  have HG := shut' G2
  have HB : Shut (dueC x y = orN (cN x.ht y.ht) (cN x.ad y.ad)) := rfl
  have c1 := cmp37 w2.drew x.ht y.ht
  have c2 := cmp38 w2.drew x.ad y.ad
  clear D R1 R2 G2
  generalize cN x.ht y.ht = A at *
  generalize cN x.ad y.ad = B at *
  have g0 : Gw w2 w2.drew := (Gw.refl w2).drew
  have R3 : (w2.drew.alloc (.cells #[.int .i64 A, .int .i64 B] 3)).heap[w2.heap.size]? = some (.cells #[.int .i64 A, .int .i64 B] 3 (0, 0)) := heap_alloc_new w2.drew _
  have c3 := or36 (w2.drew.alloc (.cells #[.int .i64 A, .int .i64 B] 3)) w2.heap.size A B (cell_of_row _ _ 0 _ 3 (0, 0) R3) (cell_of_row _ _ 1 _ 3 (0, 0) R3)
  generalize orN A B = C at *
  clear R3
  go_enter Tryz.func77, Tryz.ntmps77
  go_upto_region 1 with fail
  refine wp_region_held_drew (S := fun W => Gw w2 W) (by kernel_rfl) g0 (fun hHeld => ?_)
  refine' wpAnyH_take (i := 0) (v := .pointer (some ⟨w.heap.size, 0, none⟩)) rfl (by kernel_rfl) (by kernel_rfl) (by kernel_rfl) (fun _ _ _ h => h) (Or.inl ⟨by kernel_rfl, fun W hW => ?y1⟩) hHeld ?r1
  · go_simp
  refine' wpAnyH_take (i := 1) (v := .int .u64 x.ht) rfl (by kernel_rfl) (by kernel_rfl) (by kernel_rfl) (fun _ _ _ h => h) (Or.inl ⟨by kernel_rfl, fun W hW => ?y2⟩) hHeld ?r2
  · obtain ⟨z0, z1, z2, z3⟩ := HD.out W hW
    go_simp
  refine' wpAnyH_take (i := 2) (v := .pointer (some ⟨w.heap.size + 1, 0, none⟩)) rfl (by kernel_rfl) (by kernel_rfl) (by kernel_rfl) (fun _ _ _ h => h) (Or.inl ⟨by kernel_rfl, fun W hW => ?y3⟩) hHeld ?r3
  · go_simp
  refine' wpAnyH_take (i := 3) (v := .int .u64 y.ht) rfl (by kernel_rfl) (by kernel_rfl) (by kernel_rfl) (fun _ _ _ h => h) (Or.inl ⟨by kernel_rfl, fun W hW => ?y4⟩) hHeld ?r4
  · obtain ⟨z0, z1, z2, z3⟩ := HD.out W hW
    go_simp
  refine' wpAnyH_take (i := 5) (v := .pointer (some ⟨w.heap.size, 1, none⟩)) rfl (by kernel_rfl) (by kernel_rfl) (by kernel_rfl) (fun _ _ _ h => h) (Or.inl ⟨by kernel_rfl, fun W hW => ?y5⟩) hHeld ?r5
  · go_simp
  refine' wpAnyH_take (i := 6) (v := .int .u64 x.ad) rfl (by kernel_rfl) (by kernel_rfl) (by kernel_rfl) (fun _ _ _ h => h) (Or.inl ⟨by kernel_rfl, fun W hW => ?y6⟩) hHeld ?r6
  · obtain ⟨z0, z1, z2, z3⟩ := HD.out W hW
    go_simp
  refine' wpAnyH_take (i := 7) (v := .pointer (some ⟨w.heap.size + 1, 1, none⟩)) rfl (by kernel_rfl) (by kernel_rfl) (by kernel_rfl) (fun _ _ _ h => h) (Or.inl ⟨by kernel_rfl, fun W hW => ?y7⟩) hHeld ?r7
  · go_simp
  refine' wpAnyH_take (i := 8) (v := .int .u64 y.ad) rfl (by kernel_rfl) (by kernel_rfl) (by kernel_rfl) (fun _ _ _ h => h) (Or.inl ⟨by kernel_rfl, fun W hW => ?y8⟩) hHeld ?r8
  · obtain ⟨z0, z1, z2, z3⟩ := HD.out W hW
    go_simp
  refine wpAnyH_ready (rs := [4]) (by kernel_rfl) (by simp) ?_
  refine AllReadyH.cons rfl (fun K hK => ?_) AllReadyH.nil
  go_simp
  refine c1.mono ?_
  rintro e w' ⟨rfl, rfl⟩
  refine hK.out _ _ g0 (fun hHeld => ?_)
  clear hK
  refine wpAnyH_ready (rs := [9]) (by kernel_rfl) (by simp) ?_
  refine AllReadyH.cons rfl (fun K hK => ?_) AllReadyH.nil
  go_simp
  refine c2.mono ?_
  rintro e w' ⟨rfl, rfl⟩
  refine hK.out _ _ g0 (fun hHeld => ?_)
  clear hK
  refine wpAnyH_ready (rs := [10]) (by kernel_rfl) (by simp) ?_
  refine AllReadyH.cons rfl (fun K hK => ?_) AllReadyH.nil
  go_simp
  refine hK.out _ _ (g0.alloc _) (fun hHeld => ?_)
  clear hK
  refine wpAnyH_ready (rs := [11]) (by kernel_rfl) (by simp) ?_
  refine AllReadyH.cons rfl (fun K hK => ?_) AllReadyH.nil
  go_simp
  refine c3.mono ?_
  rintro e w' ⟨rfl, rfl⟩
  refine hK.out _ _ (g0.alloc _) (fun hHeld => ?_)
  clear hK
  refine' wpAnyH_take (i := 12) (v := .int .i64 C) rfl (by kernel_rfl) (by kernel_rfl) (by kernel_rfl) (fun _ _ _ h => h) (Or.inl ⟨by kernel_rfl, fun W hW => ?y9⟩) hHeld ?r9
  · go_simp
  refine wpAnyH_done (by kernel_rfl) ?_ _
  go_wp2_with fail
  go_ret
  refine ⟨by rw [HB.out]; rfl, ?_⟩
  obtain ⟨q, os, e⟩ := HG.out
  obtain ⟨q2, os2, e2⟩ := g0.alloc (.cells #[.int .i64 A, .int .i64 B] 3)
  exact ⟨q + q2, os ++ os2, by rw [e2, e]; simp [Go.Sort.grow, World.drewN, Nat.add_assoc]⟩

/-- What is wrong with rows behind a row. -/
def scanR (l : List Ac) : Rl → List Rl → Int
  | _, [] => 0
  | p, m :: r => if hasB l m.ad = false then 85 else if 1099511627776 < m.born ∨ m.ht < m.born ∨ 1103806595072 < m.ht then 2 else if m.ht < p.ht ∨ (m.ht = p.ht ∧ m.ad ≤ p.ad) then 42 else if m.amt = 0 ∨ 1152921504606846975 < m.amt then 87 else scanR l m r
theorem scanR_at {l : List Ac} {r : List Rl} {k : Nat} {m : Rl} (h : r[k]? = some m) (p : Rl) : scanR l p (r.drop k) = if hasB l m.ad = false then 85 else if 1099511627776 < m.born ∨ m.ht < m.born ∨ 1103806595072 < m.ht then 2 else if m.ht < p.ht ∨ (m.ht = p.ht ∧ m.ad ≤ p.ad) then 42 else if m.amt = 0 ∨ 1152921504606846975 < m.amt then 87 else scanR l m (r.drop (k + 1)) := by
  obtain ⟨hk, rfl⟩ := List.getElem?_eq_some_iff.1 h
  rw [List.drop_eq_getElem_cons hk]
  rfl
def rl0 : Rl := ⟨0, 0, 0, 0⟩
theorem RsAt.turn_ge {S : Nat → Prop} {w w' : World} {a : Option Addr} {cap : Nat} {l : List Rl} (h : RsAt w a cap l) (t : Turn S w w') (hS : ∀ k, S k → w.heap.size ≤ k) : RsAt w' a cap l :=
  ⟨h.le, h.cap, h.ok, fun j m hj => by
    obtain ⟨b, off, e, c0, c1, c2, c3⟩ := h.cells j m hj
    have hb : ¬ S b := fun q => by
      have := hS b q
      rw [show w.cell? ⟨b, off + j * 4, none⟩ = none by simp [World.cell?, Array.getElem?_eq_none this]] at c0
      cases c0
    exact ⟨b, off, e, t.keep c0 hb, t.keep c1 hb, t.keep c2 hb, t.keep c3 hb⟩⟩
theorem row4 {w : World} {g : Nat} {m : Rl} (R : w.heap[g]? = some (.cells #[.int .u64 m.ht, .int .u64 m.ad, .int .u64 m.born, .int .u64 m.amt] 67 (0, 0))) : w.cell? ⟨g, 0, none⟩ = some (.int .u64 m.ht) ∧ w.cell? ⟨g, 1, none⟩ = some (.int .u64 m.ad) ∧ w.cell? ⟨g, 2, none⟩ = some (.int .u64 m.born) ∧ w.cell? ⟨g, 3, none⟩ = some (.int .u64 m.amt) :=
  ⟨cell_of_row _ _ 0 _ 67 (0, 0) R, cell_of_row _ _ 1 _ 67 (0, 0) R, cell_of_row _ _ 2 _ 67 (0, 0) R, cell_of_row _ _ 3 _ 67 (0, 0) R⟩
set_option maxRecDepth 100000 in
set_option maxHeartbeats 8000000 in
theorem soundR28 (w : World) (va vr : Value) (l : List Ac) (r : List Rl) (ha : As w va l) (hr : Rs w vr r) (hA : Asc l) (hl : l.length ≤ 65536) : Calls Tryz.prog 56 #[va, vr] w fun e w' => e = .returned (.int .i64 (scanR l rl0 r)) ∧ Turn no w w' := by
  have HA0 := shut ha
  obtain ⟨a, cap, rfl, _⟩ := ha
  obtain ⟨ra, rcap, rfl, hR⟩ := hr
  have HR := shut hR
  have HAS := shut hA
  have hle : r.length ≤ 9223372036854775807 := by have := hR.le; have := hR.cap; simp only [maxLen] at this; omega
  clear hR hA
  obtain ⟨ln, hln⟩ : ∃ ln, Hid (l.length = ln) := ⟨_, rfl⟩
  have hln' : l.length = ln := hln.out
  rw [hln']
  clear hln'
  obtain ⟨n, hn⟩ : ∃ n, Hid (r.length = n) := ⟨_, rfl⟩
  have hn' : r.length = n := hn.out
  rw [hn'] at hle ⊢
  clear hn'
  obtain ⟨w0, hw0⟩ : ∃ w0, w.alloc (.cells #[.int .u64 0, .int .u64 0, .int .u64 0, .int .u64 0] 67) = w0 := ⟨_, rfl⟩
  have HT0 : Shut (Turn no w w0) := by show Turn no w w0; rw [← hw0]; exact (Turn.refl no w).alloc _
  have HB0 : Shut (w0.heap[w.heap.size]? = some (.cells #[.int .u64 rl0.ht, .int .u64 rl0.ad, .int .u64 rl0.born, .int .u64 rl0.amt] 67 (0, 0))) := by show _ = _; rw [← hw0]; exact heap_alloc_new w _
  generalize hE : scanR l rl0 r = E
  have HE : Shut (E = scanR l rl0 (r.drop 0)) := by show _ = _; rw [← hE]; rfl
  clear hE
  go_enter Tryz.func56, Tryz.ntmps56
  go_wp2_with fail
  try rw [hw0]
  clear hw0
  go_loopw [12] (fun x wr => ∃ (k : Nat) (p : Rl), k ≤ n ∧ x = .int .i64 k ∧ Shut (E = scanR l p (r.drop k) ∧ Turn (fun q => q = w.heap.size) w0 wr ∧ wr.heap[w.heap.size]? = some (.cells #[.int .u64 p.ht, .int .u64 p.ad, .int .u64 p.born, .int .u64 p.amt] 67 (0, 0)))) (fun x _ => n - (intOf x).toNat)
  case atStart => exact ⟨0, rl0, by omega, rfl, HE.out, Turn.refl _ _, HB0.out⟩
  case round =>
    obtain ⟨k, p, hk, rfl, HI⟩ := hrel
    have HTW : Shut (Turn no w wr) := HT0.out.trans HI.out.2.1 (fun i hi e => by omega)
    by_cases hlt : k < n
    · obtain ⟨m, hm⟩ : ∃ m, r[k]? = some m := ⟨r[k]'(by rw [hn.out]; exact hlt), List.getElem?_eq_getElem _⟩
      obtain ⟨b, off, rfl, c0, c1, c2, c3⟩ := (HR.out.turn_no HTW.out).cells k m hm
      have hlt' : (k : Int) < (n : Int) := by omega
      have hk1 : Hid (k + 1 ≤ n) := hlt
      have hst := scanR_at (l := l) hm p
      rw [← HI.out.1] at hst
      obtain ⟨w1, hw1⟩ : ∃ w1, wr.alloc (.cells #[.int .u64 m.ht, .int .u64 m.ad, .int .u64 m.born, .int .u64 m.amt] 67) = w1 := ⟨_, rfl⟩
      have TA : Turn no wr w1 := by rw [← hw1]; exact (Turn.refl no wr).alloc _
      have R1 : w1.heap[wr.heap.size]? = some (.cells #[.int .u64 m.ht, .int .u64 m.ad, .int .u64 m.born, .int .u64 m.amt] 67 (0, 0)) := by rw [← hw1]; exact heap_alloc_new wr _
      have m1 := (row4 R1).2.1
      have ha9 := at39 w1 _ l (HA0.out.turn_no (HTW.out.then_no TA)) HAS.out hl m.ad
      rw [hln.out] at ha9
      have HR1 := shut R1
      have HTA := shut TA
      clear R1 TA hm
      go_upto_region 5 with fail
      try rw [hw1]
      clear hw1 c0 c1 c2 c3
      go_upto_region 6 with (go_at_call 28; refine ha9.mono ?_; clear ha9; rintro e w2 ⟨kk, rfl, t2⟩)
      have HT2 := shut (HTA.out.then_no t2)
      have HR2 := shut (t2.obj HR1.out (fun q => q))
      have HP2 := shut (HT2.out.obj HI.out.2.2 (fun q => q))
      have HTW2 := shut (HTW.out.then_no HT2.out)
      obtain ⟨d0, d1, d2, d3⟩ := row4 HR2.out
      clear t2 HR1 HTA m1
      generalize hasB l m.ad = hb at *
      cases hb with
      | false =>
        rw [if_pos rfl] at hst
        have HW := shut hst
        clear hst
        go_wp2_with fail
        go_ret
        exact ⟨by rw [HW.out]; rfl, HTW2.out⟩
      | true =>
        rw [if_neg (by decide)] at hst
        by_cases a1 : 1099511627776 < m.born
        · rw [if_pos (.inl a1)] at hst
          have HW := shut hst
          have a1' : (1099511627776 : Int) < (m.born : Int) := by omega
          clear hst a1
          go_wp2_with fail
          go_ret
          exact ⟨by rw [HW.out]; rfl, HTW2.out⟩
        have a1' : ¬ (1099511627776 : Int) < (m.born : Int) := by omega
        by_cases a2 : m.ht < m.born
        · rw [if_pos (.inr (.inl a2))] at hst
          have HW := shut hst
          have a2' : (m.ht : Int) < (m.born : Int) := by omega
          clear hst a1 a2
          go_wp2_with fail
          go_ret
          exact ⟨by rw [HW.out]; rfl, HTW2.out⟩
        have a2' : ¬ (m.ht : Int) < (m.born : Int) := by omega
        by_cases a3 : 1103806595072 < m.ht
        · rw [if_pos (.inr (.inr a3))] at hst
          have HW := shut hst
          have a3' : (1103806595072 : Int) < (m.ht : Int) := by omega
          clear hst a1 a2 a3
          go_wp2_with fail
          go_ret
          exact ⟨by rw [HW.out]; rfl, HTW2.out⟩
        have a3' : ¬ (1103806595072 : Int) < (m.ht : Int) := by omega
        rw [if_neg (by omega)] at hst
        clear a1 a2 a3
        obtain ⟨p0, p1, p2, p3⟩ := row4 HP2.out
        have hd := due40 w2 m p
        have hdl := due_le m p
        generalize dueC m p = dc at *
        by_cases a4 : m.ht < p.ht ∨ (m.ht = p.ht ∧ m.ad ≤ p.ad)
        · rw [if_pos a4] at hst
          have HW := shut hst
          have a4' : dc ≤ 0 := hdl.2 a4
          clear hst a4 hdl
          go_wp2_with (go_at_call 77; refine hd.mono ?_; clear hd; rintro e w3 ⟨rfl, g3⟩)
          go_ret
          exact ⟨by rw [HW.out]; rfl, HTW2.out.then_no g3.turn⟩
        rw [if_neg a4] at hst
        have a4' : ¬ dc ≤ 0 := fun q => a4 (hdl.1 q)
        clear a4 hdl
        go_upto_region 12 with (go_at_call 77; refine hd.mono ?_; clear hd; rintro e w3 ⟨rfl, g3⟩)
        have HT3 := shut (HT2.out.then_no g3.turn)
        have HR3 := shut (g3.turn.obj HR2.out (fun q => q))
        have HP3 := shut (g3.turn.obj HP2.out (fun q => q))
        have HTW3 := shut (HTW2.out.then_no g3.turn)
        clear g3 HT2 HR2 HP2 HTW2 d0 d1 d2 d3 p0 p1 p2 p3 a1' a2' a3' a4'
        obtain ⟨d0, d1, d2, d3⟩ := row4 HR3.out
        by_cases a5 : m.amt = 0
        · rw [if_pos (.inl a5)] at hst
          have HW := shut hst
          have a5' : ((m.amt : Int) == 0) = true := by simp; omega
          clear hst a5
          go_wp2_with fail
          go_ret
          exact ⟨by rw [HW.out]; rfl, HTW3.out⟩
        have a5' : ((m.amt : Int) == 0) = false := by simp; omega
        by_cases a6 : 1152921504606846975 < m.amt
        · rw [if_pos (.inr a6)] at hst
          have HW := shut hst
          have a6' : (1152921504606846975 : Int) < (m.amt : Int) := by omega
          clear hst a5 a6
          go_wp2_with fail
          go_ret
          exact ⟨by rw [HW.out]; rfl, HTW3.out⟩
        have a6' : ¬ (1152921504606846975 : Int) < (m.amt : Int) := by omega
        rw [if_neg (by omega)] at hst
        obtain ⟨⟨p0, p1⟩, ⟨p2, p3⟩, ⟨p4, p5⟩, ⟨p6, p7⟩, RF, TS⟩ := store4 HP3.out (.int .u64 m.ht) (.int .u64 m.ad) (.int .u64 m.born) (.int .u64 m.amt)
        have HN : Shut (E = scanR l m (r.drop (k + 1)) ∧ Turn (fun q => q = w.heap.size) w0 _ ∧ _) := ⟨hst, (HI.out.2.1.then_no HT3.out).trans TS (fun _ _ e => e), RF⟩
        clear hst a5 a6 RF TS
        go_wp2_with fail
        go_roundw
        case rel => exact ⟨k + 1, m, hk1.out, by go_num, HN⟩
        case measure => have := hk1.out; simp [intOf]; omega
    · have hlt' : ¬ (k : Int) < (n : Int) := by omega
      have hkn : k = n := by omega
      subst hkn
      have HE2 : Shut (E = 0) := by
        have := HI.out.1
        rw [List.drop_eq_nil_of_le (by rw [hn.out]; exact Nat.le_refl _)] at this
        exact this
      clear HI HE
      go_wp2_with fail
      go_ret
      exact ⟨by rw [HE2.out]; rfl, HTW.out⟩
end Go.Proofs.YtaoigopjfelgpaaGreatDoor


