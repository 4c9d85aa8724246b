/- Walks of the law: alive. -/
import Derived.Test.YtbkbecjgphjpkaaDoorP2
namespace Go.Proofs.YtbkbecjgphjpkaaDoor
open Go.RowKit
set_option linter.unusedVariables false

theorem own_lit (w : World) : Own (w.alloc (.cells #[.int .u8 97] 5)) 5 (.slice (some ⟨w.heap.size, 0, none⟩) 1 1) (([97] : List UInt8).map bv) :=
  Own.of (xs := ([97] : List UInt8).map bv) (heap_alloc_new w _) (by simp) (by simp [maxLen]) rfl rfl
theorem bs_lit (w : World) : Bs (w.alloc (.cells #[.int .u8 97] 5)) (.slice (some ⟨w.heap.size, 0, none⟩) 1 1) [97] := (own_lit w).bs
theorem scan_97 : scan (frameB [97]) = ([[97]], 14) := by
  have := scan_frame [97] [] (by simp)
  rw [List.append_nil, scan_nil] at this
  exact this
/-- A list of one. -/
theorem Ls.one {B : Nat} {w : World} {v : Value} {r : List UInt8} {l : List (List UInt8)} (h : Ls B w v (r :: l)) : ∃ g cap u, v = .slice (some ⟨g, 0, none⟩) (l.length + 1) cap ∧ l.length + 1 ≤ cap ∧ w.cell? ⟨g, 0, none⟩ = some u ∧ Bs w u r := by
  obtain ⟨vs, h1, h2, _, _, h5⟩ := h
  cases vs with
  | nil => simp at h1
  | cons u vs =>
    have hb := (h5 0 r u rfl rfl).1.bs
    rcases h2.shape with ⟨_, q⟩ | ⟨g, cap, cur, rfl, _, hc, _⟩
    · cases q
    · have hc' := h2.cell 0 u rfl
      simp only [List.length_cons] at h1 hc
      refine ⟨g, cap, u, by simp only [List.length_cons]; rw [h1], by omega, hc', hb⟩

set_option maxRecDepth 100000 in
set_option maxHeartbeats 2000000 in
theorem alive20 (w : World) (hL : LaidT w) : Calls Tryd.prog 20 #[] w fun e w' => e = .returned (.bool true) ∧ Turn no w w' := by
  have TA := (Turn.refl no w).alloc (.cells #[.int .u8 97] 5)
  have c1 := frame_good _ _ [97] (bs_lit w) (hL.turn_no TA) (by simp)
  go_enter Tryd.func20, Tryd.ntmps20
  go_wp2_with fail
  refine c1.mono ?_
  rintro e w1 ⟨f, rfl, F, ff, t1⟩
  have T1 := TA.then_no t1
  have c2 := scan_any w1 f _ F.bs (hL.turn_no T1) (by rw [frameB_len]; simp)
  rw [scan_97] at c2
  obtain ⟨fa, fn, fc, rfl, hfn⟩ := F.fn
  rw [List.length_map, frameB_len] at hfn
  obtain rfl : fn = 14 := hfn.out
  clear hfn c1 TA t1
  go_wp2_with fail
  refine c2.mono ?_
  rintro e w2 ⟨v, rfl, L, t2⟩
  have T2 := T1.then_no t2
  obtain ⟨g, cap, u, rfl, hc, hu, hb⟩ := L.one
  have TB := (Turn.refl no w2).alloc (.cells #[.int .u8 97] 5)
  have c3 := same_any _ _ _ _ _ (hb.turn_no TB) (bs_lit w2)
  rw [show (([97] : List UInt8) == [97]) = true from rfl] at c3
  have T3 := T2.then_no TB
  obtain ⟨ua, uc, rfl⟩ := hb.slice
  clear c2 T1 t2 TB hb L
  go_wp2_with fail
  refine (num12 _ _).mono ?_
  rintro e w3 ⟨rfl, rfl⟩
  go_wp2_with fail
  refine c3.mono ?_
  rintro e w4 ⟨rfl, m, rfl⟩
  go_wp2_with fail
  go_ret
  exact ⟨rfl, T3.drewN m⟩
end Go.Proofs.YtbkbecjgphjpkaaDoor
