/- An address looked for by halving. -/
import Derived.Test.YtlacfenenbblaaaGreatDoorLb
import Derived.Test.YtlacfenenbblaaaGreatDoorA8
namespace Go.Proofs.YtlacfenenbblaaaGreatDoor
open Go.RowKit
set_option linter.unusedVariables false

/-- Is there an account of that address? -/
def hasB (l : List Ac) (x : Nat) : Bool := l.any (fun m => decide (m.ad = x))
/-- What stands ahead of a place is below, what stands from it on is not. -/
def Parts (l : List Ac) (a lo hi : Nat) : Prop := (∀ i m, l[i]? = some m → i < lo → m.ad < a) ∧ (∀ i m, l[i]? = some m → hi ≤ i → a ≤ m.ad)
theorem has_lo {l : List Ac} (h : Asc l) {a lo : Nat} (hp : Parts l a lo lo) : hasB l a = (match l[lo]? with | some m => decide (m.ad = a) | none => false) := by
  obtain ⟨h1, h2⟩ := hp
  cases hq : l[lo]? with
  | none =>
    have hl := List.getElem?_eq_none_iff.1 hq
    simp only [hasB]
    rw [List.any_eq_false]
    intro m hm
    obtain ⟨i, hi, rfl⟩ := List.getElem_of_mem hm
    have := h1 i _ (List.getElem?_eq_getElem hi) (by omega)
    simp only [decide_eq_true_eq]
    omega
  | some m =>
    simp only
    by_cases e : m.ad = a
    · simp only [e, decide_true]
      exact List.any_eq_true.2 ⟨m, List.mem_of_getElem? hq, by simp [e]⟩
    · simp only [e, decide_false]
      simp only [hasB]
      rw [List.any_eq_false]
      intro x hx
      obtain ⟨i, hi, rfl⟩ := List.getElem_of_mem hx
      have hxi := List.getElem?_eq_getElem hi
      have hm := h2 lo m hq (Nat.le_refl _)
      simp only [decide_eq_true_eq]
      rcases Nat.lt_trichotomy i lo with q | q | q
      · have := h1 i _ hxi q; omega
      · subst q; rw [hq] at hxi; cases hxi; exact e
      · have := h.at q hq hxi; omega
theorem Parts.up {l : List Ac} (h : Asc l) {a lo hi k : Nat} {m : Ac} (hp : Parts l a lo hi) (hk : l[k]? = some m) (hm : m.ad < a) : Parts l a (k + 1) hi := by
  refine ⟨fun i x hx hi => ?_, hp.2⟩
  rcases Nat.lt_or_ge i k with q | q
  · have := h.at q hx hk; omega
  · have : i = k := by omega
    subst this
    rw [hk] at hx
    cases hx
    exact hm
theorem Parts.down {l : List Ac} (h : Asc l) {a lo hi k : Nat} {m : Ac} (hp : Parts l a lo hi) (hk : l[k]? = some m) (hm : ¬ m.ad < a) : Parts l a lo k := by
  refine ⟨hp.1, fun i x hx hi => ?_⟩
  rcases Nat.lt_or_ge k i with q | q
  · have := h.at q hk hx; omega
  · have : i = k := by omega
    subst this
    rw [hk] at hx
    cases hx
    omega

set_option maxRecDepth 100000 in
set_option maxHeartbeats 4000000 in
theorem has41 (w : World) (v : Value) (l : List Ac) (hv : As w v l) (hA : Asc l) (hl : l.length ≤ 65536) (a : Nat) : Calls Tryz.prog 88 #[v, .int .u64 a] w fun e w' => e = .returned (.bool (hasB l a)) ∧ Turn no w w' := by
  obtain ⟨ad, cap, rfl, h⟩ := hv
  have HC := shut h.cells
  have HA := shut hA
  have HP0 : Shut (Parts l a 0 l.length) := ⟨fun i m _ q => absurd q (Nat.not_lt_zero _), fun i m hm q => absurd (List.getElem?_eq_some_iff.1 hm).1 (by omega)⟩
  have HB : Shut (∀ lo, Parts l a lo lo → hasB l a = (match l[lo]? with | some m => decide (m.ad = a) | none => false)) := fun lo hp => has_lo hA hp
  clear h hA
  generalize hasB l a = R at *
  obtain ⟨n, hn⟩ : ∃ n, Hid (l.length = n) := ⟨_, rfl⟩
  have hn' : l.length = n := hn.out
  rw [hn'] at hl HP0 ⊢
  clear hn'
  go_enter Tryz.func88, Tryz.ntmps88
  go_wp2_with fail
  go_loopw [5, 6] (fun x y wr => ∃ lo hi : Nat, lo ≤ hi ∧ hi ≤ n ∧ x = .int .i64 lo ∧ y = .int .i64 hi ∧ Shut (Parts l a lo hi ∧ Turn no w wr)) (fun x y _ => (intOf y).toNat - (intOf x).toNat)
  case atStart => exact ⟨0, n, by omega, by omega, rfl, rfl, HP0.out, Turn.refl _ _⟩
  case round =>
    obtain ⟨lo, hi, h1, h2, rfl, rfl, HI⟩ := hrel
    by_cases hlt : lo < hi
    · obtain ⟨k, hk⟩ : ∃ k, (lo + hi) / 2 = k := ⟨_, rfl⟩
      obtain ⟨m, hm⟩ : ∃ m, l[k]? = some m := ⟨l[k]'(by rw [hn.out]; omega), List.getElem?_eq_getElem _⟩
      obtain ⟨b, off, rfl, c0, _⟩ := HC.out k m hm
      have c0 := HI.out.2.keep c0 (fun q => q)
      have hlt' : (lo : Int) < (hi : Int) := by omega
      have hkn : (k : Int) < (n : Int) := by omega
      have hw1 : IntKind.i64.wrap ((lo : Int) + (hi : Int)) = (lo : Int) + (hi : Int) := by rw [IntKind.wrap_i64]; omega
      have hdiv : ((lo : Int) + (hi : Int)).tdiv 2 = (k : Int) := by
        rw [Int.tdiv_eq_ediv_of_nonneg (by omega)]
        omega
      have hw2 : IntKind.i64.wrap (k : Int) = (k : Int) := by rw [IntKind.wrap_i64]; omega
      have HKL : Shut (lo ≤ k ∧ k < hi) := by refine ⟨?_, ?_⟩ <;> omega
      have HM := shut hm
      clear hk hm
      by_cases hc : m.ad < a
      · have hc' : (m.ad : Int) < (a : Int) := by omega
        have hw3 : IntKind.i64.wrap ((k : Int) + 1) = (k : Int) + 1 := by rw [IntKind.wrap_i64]; omega
        have HN : Shut (Parts l a (k + 1) hi ∧ Turn no w wr) := ⟨HI.out.1.up HA.out HM.out hc, HI.out.2⟩
        clear hc
        go_wp2_with fail
        go_roundw
        case rel => exact ⟨k + 1, hi, by have := HKL.out; omega, h2, by go_num, rfl, HN⟩
        case measure => have := HKL.out; simp [intOf]; omega
      · have hc' : ¬ (m.ad : Int) < (a : Int) := by omega
        have HN : Shut (Parts l a lo k ∧ Turn no w wr) := ⟨HI.out.1.down HA.out HM.out hc, HI.out.2⟩
        clear hc
        go_wp2_with fail
        go_roundw
        case rel => exact ⟨lo, k, by have := HKL.out; omega, by have := HKL.out; omega, rfl, rfl, HN⟩
        case measure => have := HKL.out; simp [intOf]; omega
    · obtain rfl : lo = hi := by omega
      have hlt' : ¬ (lo : Int) < (lo : Int) := by omega
      have HE := shut (HB.out lo HI.out.1)
      have HT := shut HI.out.2
      by_cases hq : lo < n
      · obtain ⟨m, hm⟩ : ∃ m, l[lo]? = some m := ⟨l[lo]'(by rw [hn.out]; exact hq), List.getElem?_eq_getElem _⟩
        obtain ⟨b, off, rfl, c0, _⟩ := HC.out lo m hm
        have c0 := HI.out.2.keep c0 (fun q => q)
        have hq' : (lo : Int) < (n : Int) := by omega
        have HE2 : Shut (R = decide (m.ad = a)) := by have := HE.out; rw [hm] at this; exact this
        clear hm HB HI HE HC
        by_cases hc : m.ad = a
        · have hc' : ((m.ad : Int) == (a : Int)) = true := by simp; omega
          have HE3 : Shut (R = true) := by show _ = _; rw [HE2.out]; simp [hc]
          clear hc
          go_wp2_with fail
          go_ret
          exact ⟨by rw [HE3.out]; rfl, HT.out⟩
        · have hc' : ((m.ad : Int) == (a : Int)) = false := by simp; omega
          have HE3 : Shut (R = false) := by show _ = _; rw [HE2.out]; simp [hc]
          clear hc
          go_wp2_with fail
          go_ret
          exact ⟨by rw [HE3.out]; rfl, HT.out⟩
      · have hq' : ¬ (lo : Int) < (n : Int) := by omega
        have HE3 : Shut (R = false) := by
          have := HE.out
          rw [List.getElem?_eq_none (by rw [hn.out]; omega)] at this
          exact this
        clear HB HI HE HC hq
        go_wp2_with fail
        go_ret
        exact ⟨by rw [HE3.out]; rfl, HT.out⟩
end Go.Proofs.YtlacfenenbblaaaGreatDoor


