/- Does a proof fit? fits and Fits. -/
import Derived.Test.YtieoomdbijpdhaaDoorF9
namespace Go.Proofs.YtieoomdbijpdhaaDoor
open Go.RowKit
set_option linter.unusedVariables false

theorem int_beq_nat (a b : Nat) : ((a : Int) == (b : Int)) = decide (a = b) := by
  rw [Bool.eq_iff_iff]
  simp [Int.ofNat_inj]

/-- A place in a list, and as many digests as its way is long. -/
def fitsB (t i : Int) (n : Nat) : Bool := decide (1 ≤ t ∧ t ≤ 65536 ∧ 0 ≤ i ∧ i < t ∧ n = stepsN t.toNat i.toNat)
theorem fitsB_no {t i : Int} {n : Nat} (h : ¬ (1 ≤ t ∧ t ≤ 65536 ∧ 0 ≤ i ∧ i < t)) : fitsB t i n = false := by
  unfold fitsB
  exact decide_eq_false (fun q => h ⟨q.1, q.2.1, q.2.2.1, q.2.2.2.1⟩)
theorem fitsB_in (t i n : Nat) (h1 : 1 ≤ t) (h2 : t ≤ 65536) (h3 : i < t) : fitsB t i n = decide (n = stepsN t i) := by
  unfold fitsB
  apply decide_eq_decide.mpr
  simp only [Int.toNat_natCast]
  constructor
  · exact fun q => q.2.2.2.2
  · exact fun q => ⟨by omega, by omega, by omega, by omega, q⟩

set_option maxRecDepth 100000 in
set_option maxHeartbeats 4000000 in
theorem fits_any (w : World) (t i : Int) (av : Option Addr) (n cap : Nat) :
    Calls Tryd.prog 83 #[.agg #[.int .i64 t, .int .i64 i, .slice av n cap]] w fun e w' => e = .returned (.bool (fitsB t i n)) ∧ Turn no w w' := by
  by_cases h1 : t < 1
  · rw [fitsB_no (by omega)]
    go_enter Tryd.func83, Tryd.ntmps83
    go_wp2_with fail
    go_ret
    exact ⟨rfl, (Turn.refl no w).alloc _⟩
  by_cases h2 : 65536 < t
  · rw [fitsB_no (by omega)]
    go_enter Tryd.func83, Tryd.ntmps83
    go_wp2_with fail
    go_ret
    exact ⟨rfl, (Turn.refl no w).alloc _⟩
  by_cases h3 : i < 0
  · rw [fitsB_no (by omega)]
    go_enter Tryd.func83, Tryd.ntmps83
    go_wp2_with fail
    go_ret
    exact ⟨rfl, (Turn.refl no w).alloc _⟩
  by_cases h4 : t ≤ i
  · rw [fitsB_no (by omega)]
    go_enter Tryd.func83, Tryd.ntmps83
    go_wp2_with fail
    go_ret
    exact ⟨rfl, (Turn.refl no w).alloc _⟩
  obtain ⟨t', rfl⟩ := Int.eq_ofNat_of_zero_le (show 0 ≤ t by omega)
  obtain ⟨i', rfl⟩ := Int.eq_ofNat_of_zero_le (show 0 ≤ i by omega)
  rw [fitsB_in t' i' n (by omega) (by omega) (by omega)]
  have hc := fun W => steps_any t' i' W (by omega) (by omega) (by omega)
  generalize stepsN t' i' = s at *
  go_enter Tryd.func83, Tryd.ntmps83
  have c0 : (w.alloc (.cells #[.int .i64 (t' : Int), .int .i64 (i' : Int), .slice av n cap] 57)).cell? ⟨w.heap.size, 0, none⟩ = some (.int .i64 (t' : Int)) := (Row.new w _ 57).cell 0 _ rfl
  have c1 : (w.alloc (.cells #[.int .i64 (t' : Int), .int .i64 (i' : Int), .slice av n cap] 57)).cell? ⟨w.heap.size, 1, none⟩ = some (.int .i64 (i' : Int)) := (Row.new w _ 57).cell 1 _ rfl
  have c2 : (w.alloc (.cells #[.int .i64 (t' : Int), .int .i64 (i' : Int), .slice av n cap] 57)).cell? ⟨w.heap.size, 2, none⟩ = some (.slice av n cap) := (Row.new w _ 57).cell 2 _ rfl
  have T1 : Turn no w (w.alloc (.cells #[.int .i64 (t' : Int), .int .i64 (i' : Int), .slice av n cap] 57)) := (Turn.refl no w).alloc _
  go_wp2_with fail
  generalize (w.alloc (.cells #[.int .i64 (t' : Int), .int .i64 (i' : Int), .slice av n cap] 57)) = w1 at *
  generalize w.heap.size = g at *
  go_region_held3 (fun w' => w'.cell? ⟨g, 0, none⟩ = some (.int .i64 (t' : Int)) ∧ w'.cell? ⟨g, 1, none⟩ = some (.int .i64 (i' : Int)) ∧ w'.cell? ⟨g, 2, none⟩ = some (.slice av n cap)) (go_keep)
    (first | (go_at_call 98; refine (hc _).mono ?_; rintro e w' ⟨rfl, rfl⟩))
  go_wp2_with fail
  go_ret
  exact ⟨by rw [int_beq_nat]; rfl, T1.drew⟩

set_option maxRecDepth 100000 in
set_option maxHeartbeats 4000000 in
theorem rfits_any (w : World) (t i : Int) (av : Option Addr) (n cap : Nat) :
    Calls Tryd.prog 37 #[.agg #[.int .i64 t, .int .i64 i, .slice av n cap]] w fun e w' => e = .returned (.bool (fitsB t i n)) ∧ Turn no w w' := by
  by_cases h1 : t < 1
  · rw [fitsB_no (by omega)]
    go_enter Tryd.func37, Tryd.ntmps37
    go_wp2_with fail
    go_ret
    exact ⟨rfl, (Turn.refl no w).alloc _⟩
  by_cases h2 : 65536 < t
  · rw [fitsB_no (by omega)]
    go_enter Tryd.func37, Tryd.ntmps37
    go_wp2_with fail
    go_ret
    exact ⟨rfl, (Turn.refl no w).alloc _⟩
  by_cases h3 : i < 0
  · rw [fitsB_no (by omega)]
    go_enter Tryd.func37, Tryd.ntmps37
    go_wp2_with fail
    go_ret
    exact ⟨rfl, (Turn.refl no w).alloc _⟩
  by_cases h4 : t ≤ i
  · rw [fitsB_no (by omega)]
    go_enter Tryd.func37, Tryd.ntmps37
    go_wp2_with fail
    go_ret
    exact ⟨rfl, (Turn.refl no w).alloc _⟩
  obtain ⟨t', rfl⟩ := Int.eq_ofNat_of_zero_le (show 0 ≤ t by omega)
  obtain ⟨i', rfl⟩ := Int.eq_ofNat_of_zero_le (show 0 ≤ i by omega)
  rw [fitsB_in t' i' n (by omega) (by omega) (by omega)]
  have hc := fun W => length_any t' i' W (by omega) (by omega) (by omega)
  generalize stepsN t' i' = s at *
  go_enter Tryd.func37, Tryd.ntmps37
  have c0 : (w.alloc (.cells #[.int .i64 (t' : Int), .int .i64 (i' : Int), .slice av n cap] 57)).cell? ⟨w.heap.size, 0, none⟩ = some (.int .i64 (t' : Int)) := (Row.new w _ 57).cell 0 _ rfl
  have c1 : (w.alloc (.cells #[.int .i64 (t' : Int), .int .i64 (i' : Int), .slice av n cap] 57)).cell? ⟨w.heap.size, 1, none⟩ = some (.int .i64 (i' : Int)) := (Row.new w _ 57).cell 1 _ rfl
  have c2 : (w.alloc (.cells #[.int .i64 (t' : Int), .int .i64 (i' : Int), .slice av n cap] 57)).cell? ⟨w.heap.size, 2, none⟩ = some (.slice av n cap) := (Row.new w _ 57).cell 2 _ rfl
  have T1 : Turn no w (w.alloc (.cells #[.int .i64 (t' : Int), .int .i64 (i' : Int), .slice av n cap] 57)) := (Turn.refl no w).alloc _
  go_wp2_with fail
  generalize (w.alloc (.cells #[.int .i64 (t' : Int), .int .i64 (i' : Int), .slice av n cap] 57)) = w1 at *
  generalize w.heap.size = g at *
  go_region_held3 (fun w' => w'.cell? ⟨g, 0, none⟩ = some (.int .i64 (t' : Int)) ∧ w'.cell? ⟨g, 1, none⟩ = some (.int .i64 (i' : Int)) ∧ w'.cell? ⟨g, 2, none⟩ = some (.slice av n cap)) (go_keep)
    (first | (go_at_call 60; refine (hc _).mono ?_; rintro e w' ⟨rfl, rfl⟩))
  go_wp2_with fail
  go_ret
  exact ⟨by rw [int_beq_nat]; rfl, T1.drew⟩
end Go.Proofs.YtieoomdbijpdhaaDoor

