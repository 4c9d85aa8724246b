/- isFit. -/
import Derived.Test.YtbhimedajfkioaaS1
namespace Go.Proofs.Ytbhimedajfkioaa
open Go.RowKit
set_option linter.unusedVariables false

set_option maxRecDepth 100000 in
set_option maxHeartbeats 20000000 in
theorem isFit27 (w : World) (p : Pm) : Calls Try.prog 27 #[.agg #[.int .u64 p.mb, .int .i64 p.se, .int .u64 p.sl, .int .u64 p.pe, .int .u64 p.ag, .int .i64 p.mt, .int .u64 p.pr, .int .u64 p.vo, .int .u64 p.pa, .int .u64 p.re, .int .u64 p.tr, .int .u64 p.dr]] w fun e w' => e = .returned (.bool (fitB p)) ∧ Turn no w w' := by
  obtain ⟨w1, hw1⟩ : ∃ w1, w.alloc (.cells #[.int .u64 p.mb, .int .i64 p.se, .int .u64 p.sl, .int .u64 p.pe, .int .u64 p.ag, .int .i64 p.mt, .int .u64 p.pr, .int .u64 p.vo, .int .u64 p.pa, .int .u64 p.re, .int .u64 p.tr, .int .u64 p.dr] 54) = w1 := ⟨_, rfl⟩
  have HT1 : Shut (Turn no w w1) := by show Turn no w w1; rw [← hw1]; exact (Turn.refl no w).alloc _
  have R1 : Row w1 w.heap.size #[.int .u64 p.mb, .int .i64 p.se, .int .u64 p.sl, .int .u64 p.pe, .int .u64 p.ag, .int .i64 p.mt, .int .u64 p.pr, .int .u64 p.vo, .int .u64 p.pa, .int .u64 p.re, .int .u64 p.tr, .int .u64 p.dr] 54 := by rw [← hw1]; exact Row.new w _ 54
  have y0 := R1.cell 0 _ rfl
  have y1 := R1.cell 1 _ rfl
  have y2 := R1.cell 2 _ rfl
  have y3 := R1.cell 3 _ rfl
  have y4 := R1.cell 4 _ rfl
  have y5 := R1.cell 5 _ rfl
  have y6 := R1.cell 6 _ rfl
  have y7 := R1.cell 7 _ rfl
  have y8 := R1.cell 8 _ rfl
  have y9 := R1.cell 9 _ rfl
  have y10 := R1.cell 10 _ rfl
  have y11 := R1.cell 11 _ rfl
  clear R1
  by_cases k0 : ¬ (1 ≤ p.mb ∧ p.mb ≤ 1152921504606846975)
  · have HE : Shut (fitB p = false) := fitB_false (fun q : Fits p => k0 q.1)
    generalize fitB p = R at *
    have hc0 : decide (1 ≤ (p.mb : Int) ∧ (p.mb : Int) ≤ 1152921504606846975) = false := by simp only [decide_eq_false_iff_not]; omega
    clear k0
    go_enter Try.func27, Try.ntmps27
    go_upto_region 1 with fail
    try rw [hw1]
    go_wp2_with (first | (go_at_call 55; refine (within55 _ _ _ _).mono ?_; rintro e w9 ⟨rfl, rfl⟩; first | rw [hc0]) | (go_at_call 56; refine (within56 _ _ _ _).mono ?_; rintro e w9 ⟨rfl, rfl⟩; first | rw [hc0]))
    go_ret
    exact ⟨by rw [HE.out]; rfl, HT1.out⟩
  have k0 : 1 ≤ p.mb ∧ p.mb ≤ 1152921504606846975 := Classical.byContradiction k0
  by_cases k1 : ¬ (1 ≤ p.se ∧ p.se ≤ 64)
  · have HE : Shut (fitB p = false) := fitB_false (fun q : Fits p => k1 q.2.1)
    generalize fitB p = R at *
    have hc0 : decide (1 ≤ (p.mb : Int) ∧ (p.mb : Int) ≤ 1152921504606846975) = true := by simp only [decide_eq_true_eq]; omega
    have hc1 : decide (1 ≤ (p.se : Int) ∧ (p.se : Int) ≤ 64) = false := by simp only [decide_eq_false_iff_not]; omega
    clear k0 k1
    go_enter Try.func27, Try.ntmps27
    go_upto_region 1 with fail
    try rw [hw1]
    go_wp2_with (first | (go_at_call 55; refine (within55 _ _ _ _).mono ?_; rintro e w9 ⟨rfl, rfl⟩; first | rw [hc0] | rw [hc1]) | (go_at_call 56; refine (within56 _ _ _ _).mono ?_; rintro e w9 ⟨rfl, rfl⟩; first | rw [hc0] | rw [hc1]))
    go_ret
    exact ⟨by rw [HE.out]; rfl, HT1.out⟩
  have k1 : 1 ≤ p.se ∧ p.se ≤ 64 := Classical.byContradiction k1
  by_cases k2 : ¬ (p.sl ≤ 1000)
  · have HE : Shut (fitB p = false) := fitB_false (fun q : Fits p => k2 q.2.2.1)
    generalize fitB p = R at *
    have hc0 : decide (1 ≤ (p.mb : Int) ∧ (p.mb : Int) ≤ 1152921504606846975) = true := by simp only [decide_eq_true_eq]; omega
    have hc1 : decide (1 ≤ (p.se : Int) ∧ (p.se : Int) ≤ 64) = true := by simp only [decide_eq_true_eq]; omega
    have hc2 : ¬ (p.sl : Int) ≤ 1000 := by omega
    clear k0 k1 k2
    go_enter Try.func27, Try.ntmps27
    go_upto_region 1 with fail
    try rw [hw1]
    go_wp2_with (first | (go_at_call 55; refine (within55 _ _ _ _).mono ?_; rintro e w9 ⟨rfl, rfl⟩; first | rw [hc0] | rw [hc1]) | (go_at_call 56; refine (within56 _ _ _ _).mono ?_; rintro e w9 ⟨rfl, rfl⟩; first | rw [hc0] | rw [hc1]))
    go_ret
    exact ⟨by rw [HE.out]; rfl, HT1.out⟩
  have k2 : p.sl ≤ 1000 := Classical.byContradiction k2
  by_cases k3 : ¬ (1 ≤ p.ag ∧ p.ag ≤ 256)
  · have HE : Shut (fitB p = false) := fitB_false (fun q : Fits p => k3 q.2.2.2.1)
    generalize fitB p = R at *
    have hc0 : decide (1 ≤ (p.mb : Int) ∧ (p.mb : Int) ≤ 1152921504606846975) = true := by simp only [decide_eq_true_eq]; omega
    have hc1 : decide (1 ≤ (p.se : Int) ∧ (p.se : Int) ≤ 64) = true := by simp only [decide_eq_true_eq]; omega
    have hc2 : (p.sl : Int) ≤ 1000 := by omega
    have hc3 : decide (1 ≤ (p.ag : Int) ∧ (p.ag : Int) ≤ 256) = false := by simp only [decide_eq_false_iff_not]; omega
    clear k0 k1 k2 k3
    go_enter Try.func27, Try.ntmps27
    go_upto_region 1 with fail
    try rw [hw1]
    go_wp2_with (first | (go_at_call 55; refine (within55 _ _ _ _).mono ?_; rintro e w9 ⟨rfl, rfl⟩; first | rw [hc0] | rw [hc1] | rw [hc3]) | (go_at_call 56; refine (within56 _ _ _ _).mono ?_; rintro e w9 ⟨rfl, rfl⟩; first | rw [hc0] | rw [hc1] | rw [hc3]))
    go_ret
    exact ⟨by rw [HE.out]; rfl, HT1.out⟩
  have k3 : 1 ≤ p.ag ∧ p.ag ≤ 256 := Classical.byContradiction k3
  by_cases k4 : ¬ (p.ag + 3 ≤ p.pe ∧ p.pe ≤ 4294967296)
  · have HE : Shut (fitB p = false) := fitB_false (fun q : Fits p => k4 q.2.2.2.2.1)
    generalize fitB p = R at *
    have hc0 : decide (1 ≤ (p.mb : Int) ∧ (p.mb : Int) ≤ 1152921504606846975) = true := by simp only [decide_eq_true_eq]; omega
    have hc1 : decide (1 ≤ (p.se : Int) ∧ (p.se : Int) ≤ 64) = true := by simp only [decide_eq_true_eq]; omega
    have hc2 : (p.sl : Int) ≤ 1000 := by omega
    have hc3 : decide (1 ≤ (p.ag : Int) ∧ (p.ag : Int) ≤ 256) = true := by simp only [decide_eq_true_eq]; omega
    have hc4 : decide ((p.ag : Int) + 3 ≤ (p.pe : Int) ∧ (p.pe : Int) ≤ 4294967296) = false := by simp only [decide_eq_false_iff_not]; omega
    have hw : IntKind.u64.wrap ((p.ag : Int) + 3) = (p.ag : Int) + 3 := by rw [IntKind.wrap_u64]; omega
    clear k0 k1 k2 k3 k4
    go_enter Try.func27, Try.ntmps27
    go_upto_region 1 with fail
    try rw [hw1]
    go_wp2_with (first | (go_at_call 55; refine (within55 _ _ _ _).mono ?_; rintro e w9 ⟨rfl, rfl⟩; first | rw [hc0] | rw [hc1] | rw [hc3] | rw [hc4]) | (go_at_call 56; refine (within56 _ _ _ _).mono ?_; rintro e w9 ⟨rfl, rfl⟩; first | rw [hc0] | rw [hc1] | rw [hc3] | rw [hc4]))
    go_ret
    exact ⟨by rw [HE.out]; rfl, HT1.out⟩
  have k4 : p.ag + 3 ≤ p.pe ∧ p.pe ≤ 4294967296 := Classical.byContradiction k4
  by_cases k5 : ¬ (0 ≤ p.mt ∧ p.mt ≤ 1000)
  · have HE : Shut (fitB p = false) := fitB_false (fun q : Fits p => k5 q.2.2.2.2.2.1)
    generalize fitB p = R at *
    have hc0 : decide (1 ≤ (p.mb : Int) ∧ (p.mb : Int) ≤ 1152921504606846975) = true := by simp only [decide_eq_true_eq]; omega
    have hc1 : decide (1 ≤ (p.se : Int) ∧ (p.se : Int) ≤ 64) = true := by simp only [decide_eq_true_eq]; omega
    have hc2 : (p.sl : Int) ≤ 1000 := by omega
    have hc3 : decide (1 ≤ (p.ag : Int) ∧ (p.ag : Int) ≤ 256) = true := by simp only [decide_eq_true_eq]; omega
    have hc4 : decide ((p.ag : Int) + 3 ≤ (p.pe : Int) ∧ (p.pe : Int) ≤ 4294967296) = true := by simp only [decide_eq_true_eq]; omega
    have hc5 : decide (0 ≤ (p.mt : Int) ∧ (p.mt : Int) ≤ 1000) = false := by simp only [decide_eq_false_iff_not]; omega
    have hw : IntKind.u64.wrap ((p.ag : Int) + 3) = (p.ag : Int) + 3 := by rw [IntKind.wrap_u64]; omega
    clear k0 k1 k2 k3 k4 k5
    go_enter Try.func27, Try.ntmps27
    go_upto_region 1 with fail
    try rw [hw1]
    go_wp2_with (first | (go_at_call 55; refine (within55 _ _ _ _).mono ?_; rintro e w9 ⟨rfl, rfl⟩; first | rw [hc0] | rw [hc1] | rw [hc3] | rw [hc4] | rw [hc5]) | (go_at_call 56; refine (within56 _ _ _ _).mono ?_; rintro e w9 ⟨rfl, rfl⟩; first | rw [hc0] | rw [hc1] | rw [hc3] | rw [hc4] | rw [hc5]))
    go_ret
    exact ⟨by rw [HE.out]; rfl, HT1.out⟩
  have k5 : 0 ≤ p.mt ∧ p.mt ≤ 1000 := Classical.byContradiction k5
  by_cases k6 : ¬ (1 ≤ p.pr ∧ p.pr ≤ 4294967296)
  · have HE : Shut (fitB p = false) := fitB_false (fun q : Fits p => k6 q.2.2.2.2.2.2.1)
    generalize fitB p = R at *
    have hc0 : decide (1 ≤ (p.mb : Int) ∧ (p.mb : Int) ≤ 1152921504606846975) = true := by simp only [decide_eq_true_eq]; omega
    have hc1 : decide (1 ≤ (p.se : Int) ∧ (p.se : Int) ≤ 64) = true := by simp only [decide_eq_true_eq]; omega
    have hc2 : (p.sl : Int) ≤ 1000 := by omega
    have hc3 : decide (1 ≤ (p.ag : Int) ∧ (p.ag : Int) ≤ 256) = true := by simp only [decide_eq_true_eq]; omega
    have hc4 : decide ((p.ag : Int) + 3 ≤ (p.pe : Int) ∧ (p.pe : Int) ≤ 4294967296) = true := by simp only [decide_eq_true_eq]; omega
    have hc5 : decide (0 ≤ (p.mt : Int) ∧ (p.mt : Int) ≤ 1000) = true := by simp only [decide_eq_true_eq]; omega
    have hc6 : decide (1 ≤ (p.pr : Int) ∧ (p.pr : Int) ≤ 4294967296) = false := by simp only [decide_eq_false_iff_not]; omega
    have hw : IntKind.u64.wrap ((p.ag : Int) + 3) = (p.ag : Int) + 3 := by rw [IntKind.wrap_u64]; omega
    clear k0 k1 k2 k3 k4 k5 k6
    go_enter Try.func27, Try.ntmps27
    go_upto_region 1 with fail
    try rw [hw1]
    go_wp2_with (first | (go_at_call 55; refine (within55 _ _ _ _).mono ?_; rintro e w9 ⟨rfl, rfl⟩; first | rw [hc0] | rw [hc1] | rw [hc3] | rw [hc4] | rw [hc5] | rw [hc6]) | (go_at_call 56; refine (within56 _ _ _ _).mono ?_; rintro e w9 ⟨rfl, rfl⟩; first | rw [hc0] | rw [hc1] | rw [hc3] | rw [hc4] | rw [hc5] | rw [hc6]))
    go_ret
    exact ⟨by rw [HE.out]; rfl, HT1.out⟩
  have k6 : 1 ≤ p.pr ∧ p.pr ≤ 4294967296 := Classical.byContradiction k6
  by_cases k7 : ¬ (1 ≤ p.vo ∧ p.vo ≤ 4294967296)
  · have HE : Shut (fitB p = false) := fitB_false (fun q : Fits p => k7 q.2.2.2.2.2.2.2.1)
    generalize fitB p = R at *
    have hc0 : decide (1 ≤ (p.mb : Int) ∧ (p.mb : Int) ≤ 1152921504606846975) = true := by simp only [decide_eq_true_eq]; omega
    have hc1 : decide (1 ≤ (p.se : Int) ∧ (p.se : Int) ≤ 64) = true := by simp only [decide_eq_true_eq]; omega
    have hc2 : (p.sl : Int) ≤ 1000 := by omega
    have hc3 : decide (1 ≤ (p.ag : Int) ∧ (p.ag : Int) ≤ 256) = true := by simp only [decide_eq_true_eq]; omega
    have hc4 : decide ((p.ag : Int) + 3 ≤ (p.pe : Int) ∧ (p.pe : Int) ≤ 4294967296) = true := by simp only [decide_eq_true_eq]; omega
    have hc5 : decide (0 ≤ (p.mt : Int) ∧ (p.mt : Int) ≤ 1000) = true := by simp only [decide_eq_true_eq]; omega
    have hc6 : decide (1 ≤ (p.pr : Int) ∧ (p.pr : Int) ≤ 4294967296) = true := by simp only [decide_eq_true_eq]; omega
    have hc7 : decide (1 ≤ (p.vo : Int) ∧ (p.vo : Int) ≤ 4294967296) = false := by simp only [decide_eq_false_iff_not]; omega
    have hw : IntKind.u64.wrap ((p.ag : Int) + 3) = (p.ag : Int) + 3 := by rw [IntKind.wrap_u64]; omega
    clear k0 k1 k2 k3 k4 k5 k6 k7
    go_enter Try.func27, Try.ntmps27
    go_upto_region 1 with fail
    try rw [hw1]
    go_wp2_with (first | (go_at_call 55; refine (within55 _ _ _ _).mono ?_; rintro e w9 ⟨rfl, rfl⟩; first | rw [hc0] | rw [hc1] | rw [hc3] | rw [hc4] | rw [hc5] | rw [hc6] | rw [hc7]) | (go_at_call 56; refine (within56 _ _ _ _).mono ?_; rintro e w9 ⟨rfl, rfl⟩; first | rw [hc0] | rw [hc1] | rw [hc3] | rw [hc4] | rw [hc5] | rw [hc6] | rw [hc7]))
    go_ret
    exact ⟨by rw [HE.out]; rfl, HT1.out⟩
  have k7 : 1 ≤ p.vo ∧ p.vo ≤ 4294967296 := Classical.byContradiction k7
  by_cases k8 : ¬ (1 ≤ p.re ∧ p.re ≤ 4294967296)
  · have HE : Shut (fitB p = false) := fitB_false (fun q : Fits p => k8 q.2.2.2.2.2.2.2.2.1)
    generalize fitB p = R at *
    have hc0 : decide (1 ≤ (p.mb : Int) ∧ (p.mb : Int) ≤ 1152921504606846975) = true := by simp only [decide_eq_true_eq]; omega
    have hc1 : decide (1 ≤ (p.se : Int) ∧ (p.se : Int) ≤ 64) = true := by simp only [decide_eq_true_eq]; omega
    have hc2 : (p.sl : Int) ≤ 1000 := by omega
    have hc3 : decide (1 ≤ (p.ag : Int) ∧ (p.ag : Int) ≤ 256) = true := by simp only [decide_eq_true_eq]; omega
    have hc4 : decide ((p.ag : Int) + 3 ≤ (p.pe : Int) ∧ (p.pe : Int) ≤ 4294967296) = true := by simp only [decide_eq_true_eq]; omega
    have hc5 : decide (0 ≤ (p.mt : Int) ∧ (p.mt : Int) ≤ 1000) = true := by simp only [decide_eq_true_eq]; omega
    have hc6 : decide (1 ≤ (p.pr : Int) ∧ (p.pr : Int) ≤ 4294967296) = true := by simp only [decide_eq_true_eq]; omega
    have hc7 : decide (1 ≤ (p.vo : Int) ∧ (p.vo : Int) ≤ 4294967296) = true := by simp only [decide_eq_true_eq]; omega
    have hc8 : decide (1 ≤ (p.re : Int) ∧ (p.re : Int) ≤ 4294967296) = false := by simp only [decide_eq_false_iff_not]; omega
    have hw : IntKind.u64.wrap ((p.ag : Int) + 3) = (p.ag : Int) + 3 := by rw [IntKind.wrap_u64]; omega
    clear k0 k1 k2 k3 k4 k5 k6 k7 k8
    go_enter Try.func27, Try.ntmps27
    go_upto_region 1 with fail
    try rw [hw1]
    go_wp2_with (first | (go_at_call 55; refine (within55 _ _ _ _).mono ?_; rintro e w9 ⟨rfl, rfl⟩; first | rw [hc0] | rw [hc1] | rw [hc3] | rw [hc4] | rw [hc5] | rw [hc6] | rw [hc7] | rw [hc8]) | (go_at_call 56; refine (within56 _ _ _ _).mono ?_; rintro e w9 ⟨rfl, rfl⟩; first | rw [hc0] | rw [hc1] | rw [hc3] | rw [hc4] | rw [hc5] | rw [hc6] | rw [hc7] | rw [hc8]))
    go_ret
    exact ⟨by rw [HE.out]; rfl, HT1.out⟩
  have k8 : 1 ≤ p.re ∧ p.re ≤ 4294967296 := Classical.byContradiction k8
  by_cases k9 : ¬ (1 ≤ p.tr ∧ p.tr ≤ 4294967296)
  · have HE : Shut (fitB p = false) := fitB_false (fun q : Fits p => k9 q.2.2.2.2.2.2.2.2.2.1)
    generalize fitB p = R at *
    have hc0 : decide (1 ≤ (p.mb : Int) ∧ (p.mb : Int) ≤ 1152921504606846975) = true := by simp only [decide_eq_true_eq]; omega
    have hc1 : decide (1 ≤ (p.se : Int) ∧ (p.se : Int) ≤ 64) = true := by simp only [decide_eq_true_eq]; omega
    have hc2 : (p.sl : Int) ≤ 1000 := by omega
    have hc3 : decide (1 ≤ (p.ag : Int) ∧ (p.ag : Int) ≤ 256) = true := by simp only [decide_eq_true_eq]; omega
    have hc4 : decide ((p.ag : Int) + 3 ≤ (p.pe : Int) ∧ (p.pe : Int) ≤ 4294967296) = true := by simp only [decide_eq_true_eq]; omega
    have hc5 : decide (0 ≤ (p.mt : Int) ∧ (p.mt : Int) ≤ 1000) = true := by simp only [decide_eq_true_eq]; omega
    have hc6 : decide (1 ≤ (p.pr : Int) ∧ (p.pr : Int) ≤ 4294967296) = true := by simp only [decide_eq_true_eq]; omega
    have hc7 : decide (1 ≤ (p.vo : Int) ∧ (p.vo : Int) ≤ 4294967296) = true := by simp only [decide_eq_true_eq]; omega
    have hc8 : decide (1 ≤ (p.re : Int) ∧ (p.re : Int) ≤ 4294967296) = true := by simp only [decide_eq_true_eq]; omega
    have hc9 : decide (1 ≤ (p.tr : Int) ∧ (p.tr : Int) ≤ 4294967296) = false := by simp only [decide_eq_false_iff_not]; omega
    have hw : IntKind.u64.wrap ((p.ag : Int) + 3) = (p.ag : Int) + 3 := by rw [IntKind.wrap_u64]; omega
    clear k0 k1 k2 k3 k4 k5 k6 k7 k8 k9
    go_enter Try.func27, Try.ntmps27
    go_upto_region 1 with fail
    try rw [hw1]
    go_wp2_with (first | (go_at_call 55; refine (within55 _ _ _ _).mono ?_; rintro e w9 ⟨rfl, rfl⟩; first | rw [hc0] | rw [hc1] | rw [hc3] | rw [hc4] | rw [hc5] | rw [hc6] | rw [hc7] | rw [hc8] | rw [hc9]) | (go_at_call 56; refine (within56 _ _ _ _).mono ?_; rintro e w9 ⟨rfl, rfl⟩; first | rw [hc0] | rw [hc1] | rw [hc3] | rw [hc4] | rw [hc5] | rw [hc6] | rw [hc7] | rw [hc8] | rw [hc9]))
    go_ret
    exact ⟨by rw [HE.out]; rfl, HT1.out⟩
  have k9 : 1 ≤ p.tr ∧ p.tr ≤ 4294967296 := Classical.byContradiction k9
  by_cases k10 : ¬ (p.pa ≤ 4294967296)
  · have HE : Shut (fitB p = false) := fitB_false (fun q : Fits p => k10 q.2.2.2.2.2.2.2.2.2.2.1)
    generalize fitB p = R at *
    have hc0 : decide (1 ≤ (p.mb : Int) ∧ (p.mb : Int) ≤ 1152921504606846975) = true := by simp only [decide_eq_true_eq]; omega
    have hc1 : decide (1 ≤ (p.se : Int) ∧ (p.se : Int) ≤ 64) = true := by simp only [decide_eq_true_eq]; omega
    have hc2 : (p.sl : Int) ≤ 1000 := by omega
    have hc3 : decide (1 ≤ (p.ag : Int) ∧ (p.ag : Int) ≤ 256) = true := by simp only [decide_eq_true_eq]; omega
    have hc4 : decide ((p.ag : Int) + 3 ≤ (p.pe : Int) ∧ (p.pe : Int) ≤ 4294967296) = true := by simp only [decide_eq_true_eq]; omega
    have hc5 : decide (0 ≤ (p.mt : Int) ∧ (p.mt : Int) ≤ 1000) = true := by simp only [decide_eq_true_eq]; omega
    have hc6 : decide (1 ≤ (p.pr : Int) ∧ (p.pr : Int) ≤ 4294967296) = true := by simp only [decide_eq_true_eq]; omega
    have hc7 : decide (1 ≤ (p.vo : Int) ∧ (p.vo : Int) ≤ 4294967296) = true := by simp only [decide_eq_true_eq]; omega
    have hc8 : decide (1 ≤ (p.re : Int) ∧ (p.re : Int) ≤ 4294967296) = true := by simp only [decide_eq_true_eq]; omega
    have hc9 : decide (1 ≤ (p.tr : Int) ∧ (p.tr : Int) ≤ 4294967296) = true := by simp only [decide_eq_true_eq]; omega
    have hc10 : ¬ (p.pa : Int) ≤ 4294967296 := by omega
    have hw : IntKind.u64.wrap ((p.ag : Int) + 3) = (p.ag : Int) + 3 := by rw [IntKind.wrap_u64]; omega
    clear k0 k1 k2 k3 k4 k5 k6 k7 k8 k9 k10
    go_enter Try.func27, Try.ntmps27
    go_upto_region 1 with fail
    try rw [hw1]
    go_wp2_with (first | (go_at_call 55; refine (within55 _ _ _ _).mono ?_; rintro e w9 ⟨rfl, rfl⟩; first | rw [hc0] | rw [hc1] | rw [hc3] | rw [hc4] | rw [hc5] | rw [hc6] | rw [hc7] | rw [hc8] | rw [hc9]) | (go_at_call 56; refine (within56 _ _ _ _).mono ?_; rintro e w9 ⟨rfl, rfl⟩; first | rw [hc0] | rw [hc1] | rw [hc3] | rw [hc4] | rw [hc5] | rw [hc6] | rw [hc7] | rw [hc8] | rw [hc9]))
    go_ret
    exact ⟨by rw [HE.out]; rfl, HT1.out⟩
  have k10 : p.pa ≤ 4294967296 := Classical.byContradiction k10
  by_cases k11 : ¬ (p.dr ≤ 4294967296)
  · have HE : Shut (fitB p = false) := fitB_false (fun q : Fits p => k11 q.2.2.2.2.2.2.2.2.2.2.2)
    generalize fitB p = R at *
    have hc0 : decide (1 ≤ (p.mb : Int) ∧ (p.mb : Int) ≤ 1152921504606846975) = true := by simp only [decide_eq_true_eq]; omega
    have hc1 : decide (1 ≤ (p.se : Int) ∧ (p.se : Int) ≤ 64) = true := by simp only [decide_eq_true_eq]; omega
    have hc2 : (p.sl : Int) ≤ 1000 := by omega
    have hc3 : decide (1 ≤ (p.ag : Int) ∧ (p.ag : Int) ≤ 256) = true := by simp only [decide_eq_true_eq]; omega
    have hc4 : decide ((p.ag : Int) + 3 ≤ (p.pe : Int) ∧ (p.pe : Int) ≤ 4294967296) = true := by simp only [decide_eq_true_eq]; omega
    have hc5 : decide (0 ≤ (p.mt : Int) ∧ (p.mt : Int) ≤ 1000) = true := by simp only [decide_eq_true_eq]; omega
    have hc6 : decide (1 ≤ (p.pr : Int) ∧ (p.pr : Int) ≤ 4294967296) = true := by simp only [decide_eq_true_eq]; omega
    have hc7 : decide (1 ≤ (p.vo : Int) ∧ (p.vo : Int) ≤ 4294967296) = true := by simp only [decide_eq_true_eq]; omega
    have hc8 : decide (1 ≤ (p.re : Int) ∧ (p.re : Int) ≤ 4294967296) = true := by simp only [decide_eq_true_eq]; omega
    have hc9 : decide (1 ≤ (p.tr : Int) ∧ (p.tr : Int) ≤ 4294967296) = true := by simp only [decide_eq_true_eq]; omega
    have hc10 : (p.pa : Int) ≤ 4294967296 := by omega
    have hc11 : ¬ (p.dr : Int) ≤ 4294967296 := by omega
    have hw : IntKind.u64.wrap ((p.ag : Int) + 3) = (p.ag : Int) + 3 := by rw [IntKind.wrap_u64]; omega
    have hdd : decide ((p.dr : Int) ≤ 4294967296) = false := by simp only [decide_eq_false_iff_not]; omega
    have HDD := shut hdd
    clear hdd
    clear k0 k1 k2 k3 k4 k5 k6 k7 k8 k9 k10 k11
    go_enter Try.func27, Try.ntmps27
    go_upto_region 1 with fail
    try rw [hw1]
    go_wp2_with (first | (go_at_call 55; refine (within55 _ _ _ _).mono ?_; rintro e w9 ⟨rfl, rfl⟩; first | rw [hc0] | rw [hc1] | rw [hc3] | rw [hc4] | rw [hc5] | rw [hc6] | rw [hc7] | rw [hc8] | rw [hc9]) | (go_at_call 56; refine (within56 _ _ _ _).mono ?_; rintro e w9 ⟨rfl, rfl⟩; first | rw [hc0] | rw [hc1] | rw [hc3] | rw [hc4] | rw [hc5] | rw [hc6] | rw [hc7] | rw [hc8] | rw [hc9]))
    go_ret
    exact ⟨by rw [HE.out]; first | rfl | (show Ending.returned (Value.bool (decide ((p.dr : Int) ≤ 4294967296))) = _; rw [HDD.out]), HT1.out⟩
  have k11 : p.dr ≤ 4294967296 := Classical.byContradiction k11
  have HE : Shut (fitB p = true) := fitB_true (show Fits p from ⟨k0, k1, k2, k3, k4, k5, k6, k7, k8, k9, k10, k11⟩)
  generalize fitB p = R at *
  have hc0 : decide (1 ≤ (p.mb : Int) ∧ (p.mb : Int) ≤ 1152921504606846975) = true := by simp only [decide_eq_true_eq]; omega
  have hc1 : decide (1 ≤ (p.se : Int) ∧ (p.se : Int) ≤ 64) = true := by simp only [decide_eq_true_eq]; omega
  have hc2 : (p.sl : Int) ≤ 1000 := by omega
  have hc3 : decide (1 ≤ (p.ag : Int) ∧ (p.ag : Int) ≤ 256) = true := by simp only [decide_eq_true_eq]; omega
  have hc4 : decide ((p.ag : Int) + 3 ≤ (p.pe : Int) ∧ (p.pe : Int) ≤ 4294967296) = true := by simp only [decide_eq_true_eq]; omega
  have hc5 : decide (0 ≤ (p.mt : Int) ∧ (p.mt : Int) ≤ 1000) = true := by simp only [decide_eq_true_eq]; omega
  have hc6 : decide (1 ≤ (p.pr : Int) ∧ (p.pr : Int) ≤ 4294967296) = true := by simp only [decide_eq_true_eq]; omega
  have hc7 : decide (1 ≤ (p.vo : Int) ∧ (p.vo : Int) ≤ 4294967296) = true := by simp only [decide_eq_true_eq]; omega
  have hc8 : decide (1 ≤ (p.re : Int) ∧ (p.re : Int) ≤ 4294967296) = true := by simp only [decide_eq_true_eq]; omega
  have hc9 : decide (1 ≤ (p.tr : Int) ∧ (p.tr : Int) ≤ 4294967296) = true := by simp only [decide_eq_true_eq]; omega
  have hc10 : (p.pa : Int) ≤ 4294967296 := by omega
  have hc11 : (p.dr : Int) ≤ 4294967296 := by omega
  have hw : IntKind.u64.wrap ((p.ag : Int) + 3) = (p.ag : Int) + 3 := by rw [IntKind.wrap_u64]; omega
  have hdd : decide ((p.dr : Int) ≤ 4294967296) = true := by simp only [decide_eq_true_eq]; omega
  have HDD := shut hdd
  clear hdd
  clear k0 k1 k2 k3 k4 k5 k6 k7 k8 k9 k10 k11
  go_enter Try.func27, Try.ntmps27
  go_upto_region 1 with fail
  try rw [hw1]
  go_wp2_with (first | (go_at_call 55; refine (within55 _ _ _ _).mono ?_; rintro e w9 ⟨rfl, rfl⟩; first | rw [hc0] | rw [hc1] | rw [hc3] | rw [hc4] | rw [hc5] | rw [hc6] | rw [hc7] | rw [hc8] | rw [hc9]) | (go_at_call 56; refine (within56 _ _ _ _).mono ?_; rintro e w9 ⟨rfl, rfl⟩; first | rw [hc0] | rw [hc1] | rw [hc3] | rw [hc4] | rw [hc5] | rw [hc6] | rw [hc7] | rw [hc8] | rw [hc9]))
  go_ret
  exact ⟨by rw [HE.out]; first | rfl | (show Ending.returned (Value.bool (decide ((p.dr : Int) ≤ 4294967296))) = _; rw [HDD.out]), HT1.out⟩
end Go.Proofs.Ytbhimedajfkioaa
