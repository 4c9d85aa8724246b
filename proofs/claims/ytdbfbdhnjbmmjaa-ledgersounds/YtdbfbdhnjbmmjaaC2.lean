/- The law's find. -/
import Derived.Test.YtdbfbdhnjbmmjaaC1
import Derived.Laws.Rows
namespace Go.Proofs.Ytdbfbdhnjbmmjaa
open Go.RowKit
set_option linter.unusedVariables false

theorem store5 {w : World} {g : Nat} {a b c d e : Value} {t : TypeId} (R : w.heap[g]? = some (.cells #[a, b, c, d, e] t (0, 0))) (x0 x1 x2 x3 x4 : Value) :
    (w.cell? ⟨g, 0, none⟩ = some a ∧ w.frozen? ⟨g, 0, none⟩ = false) ∧ ((w.setCell ⟨g, 0, none⟩ x0).cell? ⟨g, 1, none⟩ = some b ∧ (w.setCell ⟨g, 0, none⟩ x0).frozen? ⟨g, 1, none⟩ = false) ∧
    (((w.setCell ⟨g, 0, none⟩ x0).setCell ⟨g, 1, none⟩ x1).cell? ⟨g, 2, none⟩ = some c ∧ ((w.setCell ⟨g, 0, none⟩ x0).setCell ⟨g, 1, none⟩ x1).frozen? ⟨g, 2, none⟩ = false) ∧
    ((((w.setCell ⟨g, 0, none⟩ x0).setCell ⟨g, 1, none⟩ x1).setCell ⟨g, 2, none⟩ x2).cell? ⟨g, 3, none⟩ = some d ∧ (((w.setCell ⟨g, 0, none⟩ x0).setCell ⟨g, 1, none⟩ x1).setCell ⟨g, 2, none⟩ x2).frozen? ⟨g, 3, none⟩ = false) ∧
    (((((w.setCell ⟨g, 0, none⟩ x0).setCell ⟨g, 1, none⟩ x1).setCell ⟨g, 2, none⟩ x2).setCell ⟨g, 3, none⟩ x3).cell? ⟨g, 4, none⟩ = some e ∧ ((((w.setCell ⟨g, 0, none⟩ x0).setCell ⟨g, 1, none⟩ x1).setCell ⟨g, 2, none⟩ x2).setCell ⟨g, 3, none⟩ x3).frozen? ⟨g, 4, none⟩ = false) ∧
    (((((w.setCell ⟨g, 0, none⟩ x0).setCell ⟨g, 1, none⟩ x1).setCell ⟨g, 2, none⟩ x2).setCell ⟨g, 3, none⟩ x3).setCell ⟨g, 4, none⟩ x4).heap[g]? = some (.cells #[x0, x1, x2, x3, x4] t (0, 0)) ∧
    Turn (fun k => k = g) w (((((w.setCell ⟨g, 0, none⟩ x0).setCell ⟨g, 1, none⟩ x1).setCell ⟨g, 2, none⟩ x2).setCell ⟨g, 3, none⟩ x3).setCell ⟨g, 4, none⟩ x4) := by
  have R1 := heap_setCell_same w g 0 _ t x0 R
  have R2 := heap_setCell_same _ g 1 _ t x1 R1
  have R3 := heap_setCell_same _ g 2 _ t x2 R2
  have R4 := heap_setCell_same _ g 3 _ t x3 R3
  have R5 := heap_setCell_same _ g 4 _ t x4 R4
  exact ⟨⟨cell_of_row _ _ 0 _ t (0, 0) R, frozen_of_row _ _ 0 _ t R⟩, ⟨cell_of_row _ _ 1 _ t (0, 0) R1, frozen_of_row _ _ 1 _ t R1⟩, ⟨cell_of_row _ _ 2 _ t (0, 0) R2, frozen_of_row _ _ 2 _ t R2⟩, ⟨cell_of_row _ _ 3 _ t (0, 0) R3, frozen_of_row _ _ 3 _ t R3⟩, ⟨cell_of_row _ _ 4 _ t (0, 0) R4, frozen_of_row _ _ 4 _ t R4⟩, R5,
    (((((Turn.refl (fun k => k = g) w).setCell (p := ⟨g, 0, none⟩) (fun _ => rfl) _).setCell (p := ⟨g, 1, none⟩) (fun _ => rfl) _).setCell (p := ⟨g, 2, none⟩) (fun _ => rfl) _).setCell (p := ⟨g, 3, none⟩) (fun _ => rfl) _).setCell (p := ⟨g, 4, none⟩) (fun _ => rfl) _⟩
set_option maxRecDepth 100000 in
set_option maxHeartbeats 4000000 in
/-- The law's find: the first of that address. -/
theorem find9 (w : World) (va : Value) (l : List Ac) (ha : As w va l) (b s : Int) (x : Nat) (j : Nat) (m : Ac) (hj : l[j]? = some m) (hm : m.ad = x) (hf : ∀ i n, i < j → l[i]? = some n → n.ad ≠ x) :
    Calls Try.prog 9 #[.agg #[va, .slice none 0 0, .int .u64 b, .int .u64 s], .int .u64 x] w fun e w' => e = .returned (.agg #[.int .u64 m.ad, .int .u64 m.bal, .int .u64 m.bond, .int .u64 m.nonce, .bool m.jail]) ∧ Turn no w w' := by
  obtain ⟨a, cap, rfl, h⟩ := ha
  have hle : l.length ≤ 9223372036854775807 := by have := h.le; have := h.cap; simp only [maxLen] at this; omega
  obtain ⟨w1, hw1⟩ : ∃ w1, w.alloc (.cells #[.slice a l.length cap, .slice none 0 0, .int .u64 b, .int .u64 s] 29) = w1 := ⟨_, rfl⟩
  have s1 : w1.heap.size = w.heap.size + 1 := by rw [← hw1]; simp
  obtain ⟨w2, hw2⟩ : ∃ w2, w1.alloc (.cells #[.int .u64 0, .int .u64 0, .int .u64 0, .int .u64 0, .bool false] 39) = w2 := ⟨_, rfl⟩
  have t1 : Turn no w w1 := by rw [← hw1]; exact (Turn.refl no w).alloc _
  have t2 : Turn no w1 w2 := by rw [← hw2]; exact (Turn.refl no w1).alloc _
  have R1 : w2.heap[w.heap.size]? = some (.cells #[.slice a l.length cap, .slice none 0 0, .int .u64 b, .int .u64 s] 29 (0, 0)) := t2.obj (by rw [← hw1]; exact heap_alloc_new w _) (fun q => q)
  have R2 : w2.heap[w.heap.size + 1]? = some (.cells #[.int .u64 0, .int .u64 0, .int .u64 0, .int .u64 0, .bool false] 39 (0, 0)) := by
    rw [← s1, ← hw2]
    exact heap_alloc_new w1 _
  have d0 : w2.cell? ⟨w.heap.size, 0, none⟩ = some (.slice a l.length cap) := cell_of_row _ _ 0 _ 29 (0, 0) R1
  have HC := shut (h.turn_no (t1.then_no t2)).cells
  have HT := shut (t1.then_no t2)
  have HJ := shut hj
  have HF := shut hf
  have hjl : j < l.length := (List.getElem?_eq_some_iff.1 hj).1
  obtain ⟨n, hn⟩ : ∃ n, Hid (l.length = n) := ⟨_, rfl⟩
  have hn' : l.length = n := hn.out
  rw [hn'] at hle d0 hjl hw1
  rw [hn']
  have hj1 : Hid (j < n) := hjl
  have HR2 := shut R2
  clear hn' h R1 t1 t2 hj hf hjl R2
  subst hm
  go_enter Try.func9, Try.ntmps9
  go_wp2_with fail
  try rw [s1]
  clear hw1 hw2 s1
  go_loopw [5] (fun c wr => ∃ k : Nat, k ≤ j ∧ c = .int .i64 k ∧ wr = w2) (fun c _ => n - (intOf c).toNat)
  case atStart => exact ⟨0, by omega, rfl, rfl⟩
  case round =>
    obtain ⟨k, hk, rfl, rfl⟩ := hrel
    have hkn : k < n := by have := hj1.out; omega
    obtain ⟨y, hy⟩ : ∃ y, l[k]? = some y := ⟨l[k]'(by rw [hn.out]; exact hkn), List.getElem?_eq_getElem _⟩
    obtain ⟨bb, off, rfl, c0, c1, c2, c3, c4⟩ := HC.out k y hy
    have hlt' : (k : Int) < (n : Int) := by omega
    have hk1 : Hid (k + 1 ≤ n) := hkn
    by_cases hkj : k < j
    · have hne : y.ad ≠ m.ad := HF.out k y hkj hy
      have hne' : ((y.ad : Int) == (m.ad : Int)) = false := by simp; omega
      have hkj1 : Hid (k + 1 ≤ j) := hkj
      clear hne hy HC hkj
      go_wp2_with fail
      refine ⟨⟨k + 1, hkj1.out, by go_num, (by trivial)⟩, ?_⟩
      have := hk1.out
      simp [intOf]
      omega
    · have : k = j := by omega
      subst this
      have : y = m := by
        have := HJ.out
        rw [hy] at this
        exact Option.some.inj this
      subst this
      have he' : ((y.ad : Int) == (y.ad : Int)) = true := by simp
      obtain ⟨⟨p0, p1⟩, ⟨p2, p3⟩, ⟨p4, p5⟩, ⟨p6, p7⟩, ⟨p8, p9⟩, RF, TS⟩ := store5 HR2.out (.int .u64 y.ad) (.int .u64 y.bal) (.int .u64 y.bond) (.int .u64 y.nonce) (.bool y.jail)
      have HRF := shut RF
      have HTF := shut (HT.out.trans TS (fun k hk q => by omega))
      clear RF TS hy HC HR2 HJ HF hkj hk
      go_wp2_with fail
      exact ⟨rfl, _, results_cell_row (g := w.heap.size + 1) (cs := #[.int .u64 y.ad, .int .u64 y.bal, .int .u64 y.bond, .int .u64 y.nonce, .bool y.jail]) (t := 39) rfl _ _ _ _ rfl HRF.out Try.underlying39 rfl (by kernel_rfl), rfl, HTF.out⟩
end Go.Proofs.Ytdbfbdhnjbmmjaa
