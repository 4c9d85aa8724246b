/- isName, isFit, of both sides. -/
import Derived.Test.YtbhimedajfkioaaQ0
namespace Go.Proofs.Ytbhimedajfkioaa
open Go.RowKit
set_option linter.unusedVariables false

/-- Parameters. -/
structure Pm where
  mb : Nat
  se : Int
  sl : Nat
  pe : Nat
  ag : Nat
  mt : Int
  pr : Nat
  vo : Nat
  pa : Nat
  re : Nat
  tr : Nat
  dr : Nat
def pmA (p : Pm) : Array Value := #[.int .u64 p.mb, .int .i64 p.se, .int .u64 p.sl, .int .u64 p.pe, .int .u64 p.ag, .int .i64 p.mt, .int .u64 p.pr, .int .u64 p.vo, .int .u64 p.pa, .int .u64 p.re, .int .u64 p.tr, .int .u64 p.dr]
def Pm.ok (p : Pm) : Prop := p.ag < 18446744073709551616
def Fits (p : Pm) : Prop := (1 ≤ p.mb ∧ p.mb ≤ 1152921504606846975) ∧ (1 ≤ p.se ∧ p.se ≤ 64) ∧ (p.sl ≤ 1000) ∧ (1 ≤ p.ag ∧ p.ag ≤ 256) ∧ (p.ag + 3 ≤ p.pe ∧ p.pe ≤ 4294967296) ∧ (0 ≤ p.mt ∧ p.mt ≤ 1000) ∧ (1 ≤ p.pr ∧ p.pr ≤ 4294967296) ∧ (1 ≤ p.vo ∧ p.vo ≤ 4294967296) ∧ (1 ≤ p.re ∧ p.re ≤ 4294967296) ∧ (1 ≤ p.tr ∧ p.tr ≤ 4294967296) ∧ (p.pa ≤ 4294967296) ∧ (p.dr ≤ 4294967296)
def fitsD (p : Pm) : Decidable (Fits p) := by unfold Fits; infer_instance
def fitB (p : Pm) : Bool := @decide (Fits p) (fitsD p)
theorem fitB_false {p : Pm} (h : ¬ Fits p) : fitB p = false := @decide_eq_false (Fits p) (fitsD p) h
theorem fitB_true {p : Pm} (h : Fits p) : fitB p = true := @decide_eq_true (Fits p) (fitsD p) h
def nameB (n : Nat) : Bool := decide (1 ≤ n ∧ n ≤ 16)
theorem within55 (w : World) (a n b : Int) : Calls Try.prog 55 #[.int .u64 a, .int .u64 n, .int .u64 b] w fun e w' => e = .returned (.bool (decide (a ≤ n ∧ n ≤ b))) ∧ w' = w := by
  by_cases h1 : a ≤ n
  · by_cases h2 : n ≤ b
    · have HE : Shut (decide (a ≤ n ∧ n ≤ b) = true) := by show _ = _; simp [h1, h2]
      generalize decide (a ≤ n ∧ n ≤ b) = R at *
      go_enter Try.func55, Try.ntmps55
      go_wp2_with fail
      go_ret
      exact ⟨by rw [HE.out]; rfl, rfl⟩
    · have HE : Shut (decide (a ≤ n ∧ n ≤ b) = false) := by show _ = _; simp [h1, h2]
      generalize decide (a ≤ n ∧ n ≤ b) = R at *
      go_enter Try.func55, Try.ntmps55
      go_wp2_with fail
      go_ret
      exact ⟨by rw [HE.out]; rfl, rfl⟩
  · have HE : Shut (decide (a ≤ n ∧ n ≤ b) = false) := by show _ = _; simp [h1]
    generalize decide (a ≤ n ∧ n ≤ b) = R at *
    go_enter Try.func55, Try.ntmps55
    go_wp2_with fail
    go_ret
    exact ⟨by rw [HE.out]; rfl, rfl⟩
theorem within56 (w : World) (a n b : Int) : Calls Try.prog 56 #[.int .i64 a, .int .i64 n, .int .i64 b] w fun e w' => e = .returned (.bool (decide (a ≤ n ∧ n ≤ b))) ∧ w' = w := by
  by_cases h1 : a ≤ n
  · by_cases h2 : n ≤ b
    · have HE : Shut (decide (a ≤ n ∧ n ≤ b) = true) := by show _ = _; simp [h1, h2]
      generalize decide (a ≤ n ∧ n ≤ b) = R at *
      go_enter Try.func56, Try.ntmps56
      go_wp2_with fail
      go_ret
      exact ⟨by rw [HE.out]; rfl, rfl⟩
    · have HE : Shut (decide (a ≤ n ∧ n ≤ b) = false) := by show _ = _; simp [h1, h2]
      generalize decide (a ≤ n ∧ n ≤ b) = R at *
      go_enter Try.func56, Try.ntmps56
      go_wp2_with fail
      go_ret
      exact ⟨by rw [HE.out]; rfl, rfl⟩
  · have HE : Shut (decide (a ≤ n ∧ n ≤ b) = false) := by show _ = _; simp [h1]
    generalize decide (a ≤ n ∧ n ≤ b) = R at *
    go_enter Try.func56, Try.ntmps56
    go_wp2_with fail
    go_ret
    exact ⟨by rw [HE.out]; rfl, rfl⟩
theorem ticks67 (w : World) (n l : Int) : Calls Try.prog 67 #[.int .u64 n, .int .u64 l] w fun e w' => e = .returned (.bool (decide (l ≤ n ∧ n ≤ 4294967296))) ∧ w' = w := by
  by_cases h1 : l ≤ n
  · by_cases h2 : n ≤ 4294967296
    · have HE : Shut (decide (l ≤ n ∧ n ≤ 4294967296) = true) := by show _ = _; simp [h1, h2]
      generalize decide (l ≤ n ∧ n ≤ 4294967296) = R at *
      go_enter Try.func67, Try.ntmps67
      go_wp2_with fail
      go_ret
      exact ⟨by rw [HE.out]; rfl, rfl⟩
    · have HE : Shut (decide (l ≤ n ∧ n ≤ 4294967296) = false) := by show _ = _; simp [h1, h2]
      generalize decide (l ≤ n ∧ n ≤ 4294967296) = R at *
      go_enter Try.func67, Try.ntmps67
      go_wp2_with fail
      go_ret
      exact ⟨by rw [HE.out]; rfl, rfl⟩
  · have HE : Shut (decide (l ≤ n ∧ n ≤ 4294967296) = false) := by show _ = _; simp [h1]
    generalize decide (l ≤ n ∧ n ≤ 4294967296) = R at *
    go_enter Try.func67, Try.ntmps67
    go_wp2_with fail
    go_ret
    exact ⟨by rw [HE.out]; rfl, rfl⟩
theorem isName26 (w : World) (s : ByteArray) : Calls Try.prog 26 #[.string s] w fun e w' => e = .returned (.bool (nameB s.size)) ∧ w' = w := by
  by_cases h1 : 1 ≤ s.size
  · have h1' : (1 : Int) ≤ (s.size : Int) := by omega
    by_cases h2 : s.size ≤ 16
    · have h2' : (s.size : Int) ≤ 16 := by omega
      have HE : Shut (nameB s.size = true) := by show _ = _; simp only [nameB, decide_eq_true_eq]; exact ⟨h1, h2⟩
      clear h1 h2
      generalize nameB s.size = R at *
      go_enter Try.func26, Try.ntmps26
      go_wp2_with fail
      go_ret
      exact ⟨by rw [HE.out]; rfl, rfl⟩
    · have h2' : ¬ (s.size : Int) ≤ 16 := by omega
      have HE : Shut (nameB s.size = false) := by show _ = _; simp only [nameB, decide_eq_false_iff_not]; omega
      clear h1 h2
      generalize nameB s.size = R at *
      go_enter Try.func26, Try.ntmps26
      go_wp2_with fail
      go_ret
      exact ⟨by rw [HE.out]; rfl, rfl⟩
  · have h1' : ¬ (1 : Int) ≤ (s.size : Int) := by omega
    have HE : Shut (nameB s.size = false) := by show _ = _; simp only [nameB, decide_eq_false_iff_not]; omega
    clear h1
    generalize nameB s.size = R at *
    go_enter Try.func26, Try.ntmps26
    go_wp2_with fail
    go_ret
    exact ⟨by rw [HE.out]; rfl, rfl⟩
theorem plain32 (w : World) (s : ByteArray) : Calls Try.prog 32 #[.string s] w fun e w' => e = .returned (.bool (nameB s.size)) ∧ w' = w := by
  by_cases h1 : 1 ≤ s.size
  · have h1' : (1 : Int) ≤ (s.size : Int) := by omega
    by_cases h2 : s.size ≤ 16
    · have h2' : (s.size : Int) ≤ 16 := by omega
      have HE : Shut (nameB s.size = true) := by show _ = _; simp only [nameB, decide_eq_true_eq]; exact ⟨h1, h2⟩
      clear h1 h2
      generalize nameB s.size = R at *
      go_enter Try.func32, Try.ntmps32
      go_wp2_with fail
      go_ret
      exact ⟨by rw [HE.out]; rfl, rfl⟩
    · have h2' : ¬ (s.size : Int) ≤ 16 := by omega
      have HE : Shut (nameB s.size = false) := by show _ = _; simp only [nameB, decide_eq_false_iff_not]; omega
      clear h1 h2
      generalize nameB s.size = R at *
      go_enter Try.func32, Try.ntmps32
      go_wp2_with fail
      go_ret
      exact ⟨by rw [HE.out]; rfl, rfl⟩
  · have h1' : ¬ (1 : Int) ≤ (s.size : Int) := by omega
    have HE : Shut (nameB s.size = false) := by show _ = _; simp only [nameB, decide_eq_false_iff_not]; omega
    clear h1
    generalize nameB s.size = R at *
    go_enter Try.func32, Try.ntmps32
    go_wp2_with fail
    go_ret
    exact ⟨by rw [HE.out]; rfl, rfl⟩
end Go.Proofs.Ytbhimedajfkioaa
