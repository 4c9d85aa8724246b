/- Fit, of the document. -/
import Derived.Test.YtbhimedajfkioaaS1
namespace Go.Proofs.Ytbhimedajfkioaa
open Go.RowKit
set_option linter.unusedVariables false

set_option maxRecDepth 100000 in
set_option maxHeartbeats 20000000 in
theorem fit33 (w : World) (p : Pm) : Calls Try.prog 33 #[.agg #[.int .u64 p.mb, .int .i64 p.se, .int .u64 p.sl, .int .u64 p.pe, .int .u64 p.ag, .int .i64 p.mt, .int .u64 p.pr, .int .u64 p.vo, .int .u64 p.pa, .int .u64 p.re, .int .u64 p.tr, .int .u64 p.dr]] w fun e w' => e = .returned (.bool (fitB p)) ∧ Turn no w w' := by
  obtain ⟨w1, hw1⟩ : ∃ w1, w.alloc (.cells #[.int .u64 p.mb, .int .i64 p.se, .int .u64 p.sl, .int .u64 p.pe, .int .u64 p.ag, .int .i64 p.mt, .int .u64 p.pr, .int .u64 p.vo, .int .u64 p.pa, .int .u64 p.re, .int .u64 p.tr, .int .u64 p.dr] 54) = w1 := ⟨_, rfl⟩
  have HT1 : Shut (Turn no w w1) := by show Turn no w w1; rw [← hw1]; exact (Turn.refl no w).alloc _
  have R1 : Row w1 w.heap.size #[.int .u64 p.mb, .int .i64 p.se, .int .u64 p.sl, .int .u64 p.pe, .int .u64 p.ag, .int .i64 p.mt, .int .u64 p.pr, .int .u64 p.vo, .int .u64 p.pa, .int .u64 p.re, .int .u64 p.tr, .int .u64 p.dr] 54 := by rw [← hw1]; exact Row.new w _ 54
  have y0 := R1.cell 0 _ rfl
  have y1 := R1.cell 1 _ rfl
  have y2 := R1.cell 2 _ rfl
  have y3 := R1.cell 3 _ rfl
  have y4 := R1.cell 4 _ rfl
  have y5 := R1.cell 5 _ rfl
  have y6 := R1.cell 6 _ rfl
  have y7 := R1.cell 7 _ rfl
  have y8 := R1.cell 8 _ rfl
  have y9 := R1.cell 9 _ rfl
  have y10 := R1.cell 10 _ rfl
  have y11 := R1.cell 11 _ rfl
  clear R1
  by_cases k0 : p.mb < 1
  · have HE : Shut (fitB p = false) := fitB_false (fun q : Fits p => by unfold Fits at q; omega)
    generalize fitB p = R at *
    have hc0 : (p.mb : Int) < 1 := by omega
    clear k0
    go_enter Try.func33, Try.ntmps33
    go_upto_region 1 with fail
    try rw [hw1]
    go_wp2_with fail
    go_ret
    exact ⟨by rw [HE.out]; rfl, HT1.out⟩
  by_cases k1 : 1152921504606846975 < p.mb
  · have HE : Shut (fitB p = false) := fitB_false (fun q : Fits p => by unfold Fits at q; omega)
    generalize fitB p = R at *
    have hc0 : ¬ (p.mb : Int) < 1 := by omega
    have hc1 : (1152921504606846975 : Int) < (p.mb : Int) := by omega
    clear k0 k1
    go_enter Try.func33, Try.ntmps33
    go_upto_region 1 with fail
    try rw [hw1]
    go_wp2_with fail
    go_ret
    exact ⟨by rw [HE.out]; rfl, HT1.out⟩
  by_cases k2 : p.se < 1
  · have HE : Shut (fitB p = false) := fitB_false (fun q : Fits p => by unfold Fits at q; omega)
    generalize fitB p = R at *
    have hc0 : ¬ (p.mb : Int) < 1 := by omega
    have hc1 : ¬ (1152921504606846975 : Int) < (p.mb : Int) := by omega
    have hc2 : p.se < 1 := by omega
    clear k0 k1 k2
    go_enter Try.func33, Try.ntmps33
    go_upto_region 1 with fail
    try rw [hw1]
    go_wp2_with fail
    go_ret
    exact ⟨by rw [HE.out]; rfl, HT1.out⟩
  by_cases k3 : 64 < p.se
  · have HE : Shut (fitB p = false) := fitB_false (fun q : Fits p => by unfold Fits at q; omega)
    generalize fitB p = R at *
    have hc0 : ¬ (p.mb : Int) < 1 := by omega
    have hc1 : ¬ (1152921504606846975 : Int) < (p.mb : Int) := by omega
    have hc2 : ¬ p.se < 1 := by omega
    have hc3 : 64 < p.se := by omega
    clear k0 k1 k2 k3
    go_enter Try.func33, Try.ntmps33
    go_upto_region 1 with fail
    try rw [hw1]
    go_wp2_with fail
    go_ret
    exact ⟨by rw [HE.out]; rfl, HT1.out⟩
  by_cases k4 : 1000 < p.sl
  · have HE : Shut (fitB p = false) := fitB_false (fun q : Fits p => by unfold Fits at q; omega)
    generalize fitB p = R at *
    have hc0 : ¬ (p.mb : Int) < 1 := by omega
    have hc1 : ¬ (1152921504606846975 : Int) < (p.mb : Int) := by omega
    have hc2 : ¬ p.se < 1 := by omega
    have hc3 : ¬ 64 < p.se := by omega
    have hc4 : (1000 : Int) < (p.sl : Int) := by omega
    clear k0 k1 k2 k3 k4
    go_enter Try.func33, Try.ntmps33
    go_upto_region 1 with fail
    try rw [hw1]
    go_wp2_with fail
    go_ret
    exact ⟨by rw [HE.out]; rfl, HT1.out⟩
  by_cases k5 : p.ag < 1
  · have HE : Shut (fitB p = false) := fitB_false (fun q : Fits p => by unfold Fits at q; omega)
    generalize fitB p = R at *
    have hc0 : ¬ (p.mb : Int) < 1 := by omega
    have hc1 : ¬ (1152921504606846975 : Int) < (p.mb : Int) := by omega
    have hc2 : ¬ p.se < 1 := by omega
    have hc3 : ¬ 64 < p.se := by omega
    have hc4 : ¬ (1000 : Int) < (p.sl : Int) := by omega
    have hc5 : (p.ag : Int) < 1 := by omega
    clear k0 k1 k2 k3 k4 k5
    go_enter Try.func33, Try.ntmps33
    go_upto_region 1 with fail
    try rw [hw1]
    go_wp2_with fail
    go_ret
    exact ⟨by rw [HE.out]; rfl, HT1.out⟩
  by_cases k6 : 256 < p.ag
  · have HE : Shut (fitB p = false) := fitB_false (fun q : Fits p => by unfold Fits at q; omega)
    generalize fitB p = R at *
    have hc0 : ¬ (p.mb : Int) < 1 := by omega
    have hc1 : ¬ (1152921504606846975 : Int) < (p.mb : Int) := by omega
    have hc2 : ¬ p.se < 1 := by omega
    have hc3 : ¬ 64 < p.se := by omega
    have hc4 : ¬ (1000 : Int) < (p.sl : Int) := by omega
    have hc5 : ¬ (p.ag : Int) < 1 := by omega
    have hc6 : (256 : Int) < (p.ag : Int) := by omega
    clear k0 k1 k2 k3 k4 k5 k6
    go_enter Try.func33, Try.ntmps33
    go_upto_region 1 with fail
    try rw [hw1]
    go_wp2_with fail
    go_ret
    exact ⟨by rw [HE.out]; rfl, HT1.out⟩
  by_cases k7 : p.pe ≤ p.ag + 2
  · have HE : Shut (fitB p = false) := fitB_false (fun q : Fits p => by unfold Fits at q; omega)
    generalize fitB p = R at *
    have hc0 : ¬ (p.mb : Int) < 1 := by omega
    have hc1 : ¬ (1152921504606846975 : Int) < (p.mb : Int) := by omega
    have hc2 : ¬ p.se < 1 := by omega
    have hc3 : ¬ 64 < p.se := by omega
    have hc4 : ¬ (1000 : Int) < (p.sl : Int) := by omega
    have hc5 : ¬ (p.ag : Int) < 1 := by omega
    have hc6 : ¬ (256 : Int) < (p.ag : Int) := by omega
    have hc7 : (p.pe : Int) ≤ (p.ag : Int) + 2 := by omega
    have hw : IntKind.u64.wrap ((p.ag : Int) + 2) = (p.ag : Int) + 2 := by rw [IntKind.wrap_u64]; omega
    clear k0 k1 k2 k3 k4 k5 k6 k7
    go_enter Try.func33, Try.ntmps33
    go_upto_region 1 with fail
    try rw [hw1]
    go_wp2_with fail
    go_ret
    exact ⟨by rw [HE.out]; rfl, HT1.out⟩
  by_cases k8 : 4294967296 < p.pe
  · have HE : Shut (fitB p = false) := fitB_false (fun q : Fits p => by unfold Fits at q; omega)
    generalize fitB p = R at *
    have hc0 : ¬ (p.mb : Int) < 1 := by omega
    have hc1 : ¬ (1152921504606846975 : Int) < (p.mb : Int) := by omega
    have hc2 : ¬ p.se < 1 := by omega
    have hc3 : ¬ 64 < p.se := by omega
    have hc4 : ¬ (1000 : Int) < (p.sl : Int) := by omega
    have hc5 : ¬ (p.ag : Int) < 1 := by omega
    have hc6 : ¬ (256 : Int) < (p.ag : Int) := by omega
    have hc7 : ¬ (p.pe : Int) ≤ (p.ag : Int) + 2 := by omega
    have hc8 : (4294967296 : Int) < (p.pe : Int) := by omega
    have hw : IntKind.u64.wrap ((p.ag : Int) + 2) = (p.ag : Int) + 2 := by rw [IntKind.wrap_u64]; omega
    clear k0 k1 k2 k3 k4 k5 k6 k7 k8
    go_enter Try.func33, Try.ntmps33
    go_upto_region 1 with fail
    try rw [hw1]
    go_wp2_with fail
    go_ret
    exact ⟨by rw [HE.out]; rfl, HT1.out⟩
  by_cases k9 : p.mt < 0
  · have HE : Shut (fitB p = false) := fitB_false (fun q : Fits p => by unfold Fits at q; omega)
    generalize fitB p = R at *
    have hc0 : ¬ (p.mb : Int) < 1 := by omega
    have hc1 : ¬ (1152921504606846975 : Int) < (p.mb : Int) := by omega
    have hc2 : ¬ p.se < 1 := by omega
    have hc3 : ¬ 64 < p.se := by omega
    have hc4 : ¬ (1000 : Int) < (p.sl : Int) := by omega
    have hc5 : ¬ (p.ag : Int) < 1 := by omega
    have hc6 : ¬ (256 : Int) < (p.ag : Int) := by omega
    have hc7 : ¬ (p.pe : Int) ≤ (p.ag : Int) + 2 := by omega
    have hc8 : ¬ (4294967296 : Int) < (p.pe : Int) := by omega
    have hc9 : p.mt < 0 := by omega
    have hw : IntKind.u64.wrap ((p.ag : Int) + 2) = (p.ag : Int) + 2 := by rw [IntKind.wrap_u64]; omega
    clear k0 k1 k2 k3 k4 k5 k6 k7 k8 k9
    go_enter Try.func33, Try.ntmps33
    go_upto_region 1 with fail
    try rw [hw1]
    go_wp2_with fail
    go_ret
    exact ⟨by rw [HE.out]; rfl, HT1.out⟩
  by_cases k10 : 1000 < p.mt
  · have HE : Shut (fitB p = false) := fitB_false (fun q : Fits p => by unfold Fits at q; omega)
    generalize fitB p = R at *
    have hc0 : ¬ (p.mb : Int) < 1 := by omega
    have hc1 : ¬ (1152921504606846975 : Int) < (p.mb : Int) := by omega
    have hc2 : ¬ p.se < 1 := by omega
    have hc3 : ¬ 64 < p.se := by omega
    have hc4 : ¬ (1000 : Int) < (p.sl : Int) := by omega
    have hc5 : ¬ (p.ag : Int) < 1 := by omega
    have hc6 : ¬ (256 : Int) < (p.ag : Int) := by omega
    have hc7 : ¬ (p.pe : Int) ≤ (p.ag : Int) + 2 := by omega
    have hc8 : ¬ (4294967296 : Int) < (p.pe : Int) := by omega
    have hc9 : ¬ p.mt < 0 := by omega
    have hc10 : 1000 < p.mt := by omega
    have hw : IntKind.u64.wrap ((p.ag : Int) + 2) = (p.ag : Int) + 2 := by rw [IntKind.wrap_u64]; omega
    clear k0 k1 k2 k3 k4 k5 k6 k7 k8 k9 k10
    go_enter Try.func33, Try.ntmps33
    go_upto_region 1 with fail
    try rw [hw1]
    go_wp2_with fail
    go_ret
    exact ⟨by rw [HE.out]; rfl, HT1.out⟩
  by_cases k11 : ¬ (1 ≤ p.pr ∧ p.pr ≤ 4294967296)
  · have HE : Shut (fitB p = false) := fitB_false (fun q : Fits p => by unfold Fits at q; omega)
    generalize fitB p = R at *
    have hc0 : ¬ (p.mb : Int) < 1 := by omega
    have hc1 : ¬ (1152921504606846975 : Int) < (p.mb : Int) := by omega
    have hc2 : ¬ p.se < 1 := by omega
    have hc3 : ¬ 64 < p.se := by omega
    have hc4 : ¬ (1000 : Int) < (p.sl : Int) := by omega
    have hc5 : ¬ (p.ag : Int) < 1 := by omega
    have hc6 : ¬ (256 : Int) < (p.ag : Int) := by omega
    have hc7 : ¬ (p.pe : Int) ≤ (p.ag : Int) + 2 := by omega
    have hc8 : ¬ (4294967296 : Int) < (p.pe : Int) := by omega
    have hc9 : ¬ p.mt < 0 := by omega
    have hc10 : ¬ 1000 < p.mt := by omega
    have hc11 : decide ((1 : Int) ≤ (p.pr : Int) ∧ (p.pr : Int) ≤ 4294967296) = false := by simp only [decide_eq_false_iff_not]; omega
    have hw : IntKind.u64.wrap ((p.ag : Int) + 2) = (p.ag : Int) + 2 := by rw [IntKind.wrap_u64]; omega
    clear k0 k1 k2 k3 k4 k5 k6 k7 k8 k9 k10 k11
    go_enter Try.func33, Try.ntmps33
    go_upto_region 1 with fail
    try rw [hw1]
    go_wp2_with (go_at_call 67; refine (ticks67 _ _ _).mono ?_; rintro e w9 ⟨rfl, rfl⟩; first | rw [hc11])
    go_ret
    exact ⟨by rw [HE.out]; rfl, HT1.out⟩
  by_cases k12 : ¬ (1 ≤ p.vo ∧ p.vo ≤ 4294967296)
  · have HE : Shut (fitB p = false) := fitB_false (fun q : Fits p => by unfold Fits at q; omega)
    generalize fitB p = R at *
    have hc0 : ¬ (p.mb : Int) < 1 := by omega
    have hc1 : ¬ (1152921504606846975 : Int) < (p.mb : Int) := by omega
    have hc2 : ¬ p.se < 1 := by omega
    have hc3 : ¬ 64 < p.se := by omega
    have hc4 : ¬ (1000 : Int) < (p.sl : Int) := by omega
    have hc5 : ¬ (p.ag : Int) < 1 := by omega
    have hc6 : ¬ (256 : Int) < (p.ag : Int) := by omega
    have hc7 : ¬ (p.pe : Int) ≤ (p.ag : Int) + 2 := by omega
    have hc8 : ¬ (4294967296 : Int) < (p.pe : Int) := by omega
    have hc9 : ¬ p.mt < 0 := by omega
    have hc10 : ¬ 1000 < p.mt := by omega
    have hc11 : decide ((1 : Int) ≤ (p.pr : Int) ∧ (p.pr : Int) ≤ 4294967296) = true := by simp only [decide_eq_true_eq]; omega
    have hc12 : decide ((1 : Int) ≤ (p.vo : Int) ∧ (p.vo : Int) ≤ 4294967296) = false := by simp only [decide_eq_false_iff_not]; omega
    have hw : IntKind.u64.wrap ((p.ag : Int) + 2) = (p.ag : Int) + 2 := by rw [IntKind.wrap_u64]; omega
    clear k0 k1 k2 k3 k4 k5 k6 k7 k8 k9 k10 k11 k12
    go_enter Try.func33, Try.ntmps33
    go_upto_region 1 with fail
    try rw [hw1]
    go_wp2_with (go_at_call 67; refine (ticks67 _ _ _).mono ?_; rintro e w9 ⟨rfl, rfl⟩; first | rw [hc11] | rw [hc12])
    go_ret
    exact ⟨by rw [HE.out]; rfl, HT1.out⟩
  by_cases k13 : ¬ (1 ≤ p.re ∧ p.re ≤ 4294967296)
  · have HE : Shut (fitB p = false) := fitB_false (fun q : Fits p => by unfold Fits at q; omega)
    generalize fitB p = R at *
    have hc0 : ¬ (p.mb : Int) < 1 := by omega
    have hc1 : ¬ (1152921504606846975 : Int) < (p.mb : Int) := by omega
    have hc2 : ¬ p.se < 1 := by omega
    have hc3 : ¬ 64 < p.se := by omega
    have hc4 : ¬ (1000 : Int) < (p.sl : Int) := by omega
    have hc5 : ¬ (p.ag : Int) < 1 := by omega
    have hc6 : ¬ (256 : Int) < (p.ag : Int) := by omega
    have hc7 : ¬ (p.pe : Int) ≤ (p.ag : Int) + 2 := by omega
    have hc8 : ¬ (4294967296 : Int) < (p.pe : Int) := by omega
    have hc9 : ¬ p.mt < 0 := by omega
    have hc10 : ¬ 1000 < p.mt := by omega
    have hc11 : decide ((1 : Int) ≤ (p.pr : Int) ∧ (p.pr : Int) ≤ 4294967296) = true := by simp only [decide_eq_true_eq]; omega
    have hc12 : decide ((1 : Int) ≤ (p.vo : Int) ∧ (p.vo : Int) ≤ 4294967296) = true := by simp only [decide_eq_true_eq]; omega
    have hc13 : decide ((1 : Int) ≤ (p.re : Int) ∧ (p.re : Int) ≤ 4294967296) = false := by simp only [decide_eq_false_iff_not]; omega
    have hw : IntKind.u64.wrap ((p.ag : Int) + 2) = (p.ag : Int) + 2 := by rw [IntKind.wrap_u64]; omega
    clear k0 k1 k2 k3 k4 k5 k6 k7 k8 k9 k10 k11 k12 k13
    go_enter Try.func33, Try.ntmps33
    go_upto_region 1 with fail
    try rw [hw1]
    go_wp2_with (go_at_call 67; refine (ticks67 _ _ _).mono ?_; rintro e w9 ⟨rfl, rfl⟩; first | rw [hc11] | rw [hc12] | rw [hc13])
    go_ret
    exact ⟨by rw [HE.out]; rfl, HT1.out⟩
  by_cases k14 : ¬ (1 ≤ p.tr ∧ p.tr ≤ 4294967296)
  · have HE : Shut (fitB p = false) := fitB_false (fun q : Fits p => by unfold Fits at q; omega)
    generalize fitB p = R at *
    have hc0 : ¬ (p.mb : Int) < 1 := by omega
    have hc1 : ¬ (1152921504606846975 : Int) < (p.mb : Int) := by omega
    have hc2 : ¬ p.se < 1 := by omega
    have hc3 : ¬ 64 < p.se := by omega
    have hc4 : ¬ (1000 : Int) < (p.sl : Int) := by omega
    have hc5 : ¬ (p.ag : Int) < 1 := by omega
    have hc6 : ¬ (256 : Int) < (p.ag : Int) := by omega
    have hc7 : ¬ (p.pe : Int) ≤ (p.ag : Int) + 2 := by omega
    have hc8 : ¬ (4294967296 : Int) < (p.pe : Int) := by omega
    have hc9 : ¬ p.mt < 0 := by omega
    have hc10 : ¬ 1000 < p.mt := by omega
    have hc11 : decide ((1 : Int) ≤ (p.pr : Int) ∧ (p.pr : Int) ≤ 4294967296) = true := by simp only [decide_eq_true_eq]; omega
    have hc12 : decide ((1 : Int) ≤ (p.vo : Int) ∧ (p.vo : Int) ≤ 4294967296) = true := by simp only [decide_eq_true_eq]; omega
    have hc13 : decide ((1 : Int) ≤ (p.re : Int) ∧ (p.re : Int) ≤ 4294967296) = true := by simp only [decide_eq_true_eq]; omega
    have hc14 : decide ((1 : Int) ≤ (p.tr : Int) ∧ (p.tr : Int) ≤ 4294967296) = false := by simp only [decide_eq_false_iff_not]; omega
    have hw : IntKind.u64.wrap ((p.ag : Int) + 2) = (p.ag : Int) + 2 := by rw [IntKind.wrap_u64]; omega
    clear k0 k1 k2 k3 k4 k5 k6 k7 k8 k9 k10 k11 k12 k13 k14
    go_enter Try.func33, Try.ntmps33
    go_upto_region 1 with fail
    try rw [hw1]
    go_wp2_with (go_at_call 67; refine (ticks67 _ _ _).mono ?_; rintro e w9 ⟨rfl, rfl⟩; first | rw [hc11] | rw [hc12] | rw [hc13] | rw [hc14])
    go_ret
    exact ⟨by rw [HE.out]; rfl, HT1.out⟩
  by_cases k15 : ¬ (0 ≤ p.pa ∧ p.pa ≤ 4294967296)
  · have HE : Shut (fitB p = false) := fitB_false (fun q : Fits p => by unfold Fits at q; omega)
    generalize fitB p = R at *
    have hc0 : ¬ (p.mb : Int) < 1 := by omega
    have hc1 : ¬ (1152921504606846975 : Int) < (p.mb : Int) := by omega
    have hc2 : ¬ p.se < 1 := by omega
    have hc3 : ¬ 64 < p.se := by omega
    have hc4 : ¬ (1000 : Int) < (p.sl : Int) := by omega
    have hc5 : ¬ (p.ag : Int) < 1 := by omega
    have hc6 : ¬ (256 : Int) < (p.ag : Int) := by omega
    have hc7 : ¬ (p.pe : Int) ≤ (p.ag : Int) + 2 := by omega
    have hc8 : ¬ (4294967296 : Int) < (p.pe : Int) := by omega
    have hc9 : ¬ p.mt < 0 := by omega
    have hc10 : ¬ 1000 < p.mt := by omega
    have hc11 : decide ((1 : Int) ≤ (p.pr : Int) ∧ (p.pr : Int) ≤ 4294967296) = true := by simp only [decide_eq_true_eq]; omega
    have hc12 : decide ((1 : Int) ≤ (p.vo : Int) ∧ (p.vo : Int) ≤ 4294967296) = true := by simp only [decide_eq_true_eq]; omega
    have hc13 : decide ((1 : Int) ≤ (p.re : Int) ∧ (p.re : Int) ≤ 4294967296) = true := by simp only [decide_eq_true_eq]; omega
    have hc14 : decide ((1 : Int) ≤ (p.tr : Int) ∧ (p.tr : Int) ≤ 4294967296) = true := by simp only [decide_eq_true_eq]; omega
    have hc15 : decide ((0 : Int) ≤ (p.pa : Int) ∧ (p.pa : Int) ≤ 4294967296) = false := by simp only [decide_eq_false_iff_not]; omega
    have hw : IntKind.u64.wrap ((p.ag : Int) + 2) = (p.ag : Int) + 2 := by rw [IntKind.wrap_u64]; omega
    clear k0 k1 k2 k3 k4 k5 k6 k7 k8 k9 k10 k11 k12 k13 k14 k15
    go_enter Try.func33, Try.ntmps33
    go_upto_region 1 with fail
    try rw [hw1]
    go_wp2_with (go_at_call 67; refine (ticks67 _ _ _).mono ?_; rintro e w9 ⟨rfl, rfl⟩; first | rw [hc11] | rw [hc12] | rw [hc13] | rw [hc14] | rw [hc15])
    go_ret
    exact ⟨by rw [HE.out]; rfl, HT1.out⟩
  by_cases k16 : ¬ (0 ≤ p.dr ∧ p.dr ≤ 4294967296)
  · have HE : Shut (fitB p = false) := fitB_false (fun q : Fits p => by unfold Fits at q; omega)
    generalize fitB p = R at *
    have hc0 : ¬ (p.mb : Int) < 1 := by omega
    have hc1 : ¬ (1152921504606846975 : Int) < (p.mb : Int) := by omega
    have hc2 : ¬ p.se < 1 := by omega
    have hc3 : ¬ 64 < p.se := by omega
    have hc4 : ¬ (1000 : Int) < (p.sl : Int) := by omega
    have hc5 : ¬ (p.ag : Int) < 1 := by omega
    have hc6 : ¬ (256 : Int) < (p.ag : Int) := by omega
    have hc7 : ¬ (p.pe : Int) ≤ (p.ag : Int) + 2 := by omega
    have hc8 : ¬ (4294967296 : Int) < (p.pe : Int) := by omega
    have hc9 : ¬ p.mt < 0 := by omega
    have hc10 : ¬ 1000 < p.mt := by omega
    have hc11 : decide ((1 : Int) ≤ (p.pr : Int) ∧ (p.pr : Int) ≤ 4294967296) = true := by simp only [decide_eq_true_eq]; omega
    have hc12 : decide ((1 : Int) ≤ (p.vo : Int) ∧ (p.vo : Int) ≤ 4294967296) = true := by simp only [decide_eq_true_eq]; omega
    have hc13 : decide ((1 : Int) ≤ (p.re : Int) ∧ (p.re : Int) ≤ 4294967296) = true := by simp only [decide_eq_true_eq]; omega
    have hc14 : decide ((1 : Int) ≤ (p.tr : Int) ∧ (p.tr : Int) ≤ 4294967296) = true := by simp only [decide_eq_true_eq]; omega
    have hc15 : decide ((0 : Int) ≤ (p.pa : Int) ∧ (p.pa : Int) ≤ 4294967296) = true := by simp only [decide_eq_true_eq]; omega
    have hc16 : decide ((0 : Int) ≤ (p.dr : Int) ∧ (p.dr : Int) ≤ 4294967296) = false := by simp only [decide_eq_false_iff_not]; omega
    have hw : IntKind.u64.wrap ((p.ag : Int) + 2) = (p.ag : Int) + 2 := by rw [IntKind.wrap_u64]; omega
    clear k0 k1 k2 k3 k4 k5 k6 k7 k8 k9 k10 k11 k12 k13 k14 k15 k16
    go_enter Try.func33, Try.ntmps33
    go_upto_region 1 with fail
    try rw [hw1]
    go_wp2_with (go_at_call 67; refine (ticks67 _ _ _).mono ?_; rintro e w9 ⟨rfl, rfl⟩; first | rw [hc11] | rw [hc12] | rw [hc13] | rw [hc14] | rw [hc15] | rw [hc16])
    go_ret
    exact ⟨by rw [HE.out]; rfl, HT1.out⟩
  have HE : Shut (fitB p = true) := fitB_true (show Fits p by unfold Fits; omega)
  generalize fitB p = R at *
  have hc0 : ¬ (p.mb : Int) < 1 := by omega
  have hc1 : ¬ (1152921504606846975 : Int) < (p.mb : Int) := by omega
  have hc2 : ¬ p.se < 1 := by omega
  have hc3 : ¬ 64 < p.se := by omega
  have hc4 : ¬ (1000 : Int) < (p.sl : Int) := by omega
  have hc5 : ¬ (p.ag : Int) < 1 := by omega
  have hc6 : ¬ (256 : Int) < (p.ag : Int) := by omega
  have hc7 : ¬ (p.pe : Int) ≤ (p.ag : Int) + 2 := by omega
  have hc8 : ¬ (4294967296 : Int) < (p.pe : Int) := by omega
  have hc9 : ¬ p.mt < 0 := by omega
  have hc10 : ¬ 1000 < p.mt := by omega
  have hc11 : decide ((1 : Int) ≤ (p.pr : Int) ∧ (p.pr : Int) ≤ 4294967296) = true := by simp only [decide_eq_true_eq]; omega
  have hc12 : decide ((1 : Int) ≤ (p.vo : Int) ∧ (p.vo : Int) ≤ 4294967296) = true := by simp only [decide_eq_true_eq]; omega
  have hc13 : decide ((1 : Int) ≤ (p.re : Int) ∧ (p.re : Int) ≤ 4294967296) = true := by simp only [decide_eq_true_eq]; omega
  have hc14 : decide ((1 : Int) ≤ (p.tr : Int) ∧ (p.tr : Int) ≤ 4294967296) = true := by simp only [decide_eq_true_eq]; omega
  have hc15 : decide ((0 : Int) ≤ (p.pa : Int) ∧ (p.pa : Int) ≤ 4294967296) = true := by simp only [decide_eq_true_eq]; omega
  have hc16 : decide ((0 : Int) ≤ (p.dr : Int) ∧ (p.dr : Int) ≤ 4294967296) = true := by simp only [decide_eq_true_eq]; omega
  have hw : IntKind.u64.wrap ((p.ag : Int) + 2) = (p.ag : Int) + 2 := by rw [IntKind.wrap_u64]; omega
  clear k0 k1 k2 k3 k4 k5 k6 k7 k8 k9 k10 k11 k12 k13 k14 k15 k16
  go_enter Try.func33, Try.ntmps33
  go_upto_region 1 with fail
  try rw [hw1]
  go_wp2_with (go_at_call 67; refine (ticks67 _ _ _).mono ?_; rintro e w9 ⟨rfl, rfl⟩; first | rw [hc11] | rw [hc12] | rw [hc13] | rw [hc14] | rw [hc15] | rw [hc16])
  go_ret
  exact ⟨by rw [HE.out]; rfl, HT1.out⟩
end Go.Proofs.Ytbhimedajfkioaa
