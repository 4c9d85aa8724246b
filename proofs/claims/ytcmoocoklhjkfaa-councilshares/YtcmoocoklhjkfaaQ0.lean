/- The bounds of a made council: plain. -/
import Derived.Test.YtcmoocoklhjkfaaR0
import Derived.Test.YtcmoocoklhjkfaaD3
namespace Go.Proofs.Ytcmoocoklhjkfaa
open Go.RowKit
set_option linter.unusedVariables false

/-- Sums over the places of a set, from place i on. -/
def sumS : List Mb → Nat → (Nat → Bool) → Int
  | [], _, _ => 0
  | m :: r, i, P => (if P i then m.pr else 0) + sumS r (i + 1) P
def pwS : List Mb → Nat → (Nat → Bool) → Nat
  | [], _, _ => 0
  | m :: r, i, P => (if P i then m.pw else 0) + pwS r (i + 1) P
def cntS : List Mb → Nat → (Nat → Bool) → Nat
  | [], _, _ => 0
  | _ :: r, i, P => (if P i then 1 else 0) + cntS r (i + 1) P
theorem pwS_le (l : List Mb) : ∀ i P, pwS l i P ≤ tot l := by
  induction l with
  | nil => intro i P; simp [pwS, tot]
  | cons m r ih => intro i P; have := ih (i + 1) P; simp only [pwS, tot]; split <;> omega
theorem cntS_le (l : List Mb) : ∀ i P, cntS l i P ≤ l.length := by
  induction l with
  | nil => intro i P; simp [cntS]
  | cons m r ih => intro i P; have := ih (i + 1) P; simp only [cntS, List.length_cons]; split <;> omega
theorem sumS_all (l : List Mb) : ∀ i, sumS l i (fun _ => true) = sumP l := by
  induction l with
  | nil => intro i; rfl
  | cons m r ih => intro i; simp [sumS, sumP, ih]
theorem pwS_all (l : List Mb) : ∀ i, pwS l i (fun _ => true) = tot l := by
  induction l with
  | nil => intro i; rfl
  | cons m r ih => intro i; simp [pwS, tot, ih]
/-- Only the place b. -/
theorem sumS_one (l : List Mb) : ∀ i (b : Nat) (m : Mb), l[b]? = some m → sumS l i (fun j => j == i + b) = m.pr ∧ cntS l i (fun j => j == i + b) = 1 := by
  induction l with
  | nil => intro i b m h; simp at h
  | cons x r ih =>
    intro i b m h
    cases b with
    | zero =>
      simp at h
      subst h
      have h0 : ∀ (q : List Mb) (j : Nat), i < j → sumS q j (fun k => k == i) = 0 ∧ cntS q j (fun k => k == i) = 0 := by
        intro q
        induction q with
        | nil => intro j _; exact ⟨rfl, rfl⟩
        | cons y q ihq =>
          intro j hj
          have := ihq (j + 1) (by omega)
          simp only [sumS, cntS]
          have hji : (j == i) = false := by simp; omega
          simp [hji, this]
      have := h0 r (i + 1) (by omega)
      simp only [sumS, cntS, Nat.add_zero]
      simp [this]
    | succ b =>
      have := ih (i + 1) b m (by simpa using h)
      simp only [sumS, cntS]
      rw [show (fun j => j == i + 1 + b) = (fun j => j == i + (b + 1)) by funext j; congr 1; omega] at this
      have hib : (i == i + (b + 1)) = false := by simp
      simp only [hib, this]
      simp
/-- One place more. -/
theorem sumS_add (l : List Mb) : ∀ i (b : Nat) (m : Mb) (P : Nat → Bool), l[b]? = some m → P (i + b) = false →
    sumS l i (fun j => P j || j == i + b) = sumS l i P + m.pr ∧ pwS l i (fun j => P j || j == i + b) = pwS l i P + m.pw ∧ cntS l i (fun j => P j || j == i + b) = cntS l i P + 1 := by
  induction l with
  | nil => intro i b m P h; simp at h
  | cons x r ih =>
    intro i b m P h hP
    cases b with
    | zero =>
      simp at h
      subst h
      have h0 : ∀ (q : List Mb) (j : Nat), i < j → sumS q j (fun k => P k || k == i) = sumS q j P ∧ pwS q j (fun k => P k || k == i) = pwS q j P ∧ cntS q j (fun k => P k || k == i) = cntS q j P := by
        intro q
        induction q with
        | nil => intro j _; exact ⟨rfl, rfl, rfl⟩
        | cons y q ihq =>
          intro j hj
          have := ihq (j + 1) (by omega)
          simp only [sumS, pwS, cntS]
          have hji : (j == i) = false := by simp; omega
          simp [hji, this]
      have := h0 r (i + 1) (by omega)
      simp only [Nat.add_zero] at hP
      simp only [sumS, pwS, cntS, Nat.add_zero]
      simp [this, hP]
      omega
    | succ b =>
      have h2 : P (i + 1 + b) = false := by rw [show i + 1 + b = i + (b + 1) by omega]; exact hP
      have := ih (i + 1) b m P (by simpa using h) h2
      rw [show (fun j => P j || j == i + 1 + b) = (fun j => P j || j == i + (b + 1)) by funext j; congr 2; omega] at this
      simp only [sumS, pwS, cntS]
      have hib : (i == i + (b + 1)) = false := by simp
      simp only [hib, this, Bool.or_false]
      omega
/-- All in the set are at most M. -/
theorem sumS_max (l : List Mb) (M : Int) (h : ∀ m ∈ l, m.pr ≤ M) : ∀ i P, sumS l i P ≤ cntS l i P * M := by
  induction l with
  | nil => intro i P; simp [sumS, cntS]
  | cons m r ih =>
    intro i P
    have h1 := ih (fun x hx => h x (by simp [hx])) (i + 1) P
    have h2 := h m (by simp)
    simp only [sumS, cntS]
    split
    · rw [Int.natCast_add, Int.add_mul]
      have : ((1 : Nat) : Int) * M = M := by simp
      omega
    · rw [Nat.zero_add]
      omega
theorem sumS_min (l : List Mb) (M : Int) (h : ∀ m ∈ l, M ≤ m.pr) : ∀ i P, cntS l i P * M ≤ sumS l i P := by
  induction l with
  | nil => intro i P; simp [sumS, cntS]
  | cons m r ih =>
    intro i P
    have h1 := ih (fun x hx => h x (by simp [hx])) (i + 1) P
    have h2 := h m (by simp)
    simp only [sumS, cntS]
    split
    · rw [Int.natCast_add, Int.add_mul]
      have : ((1 : Nat) : Int) * M = M := by simp
      omega
    · rw [Nat.zero_add]
      omega
/-- Raised. -/
def raise (l : List Mb) : List Mb := l.map fun m => { m with pr := m.pr + m.pw }
theorem raise_sum (l : List Mb) : ∀ i P, sumS (raise l) i P = sumS l i P + pwS l i P ∧ cntS (raise l) i P = cntS l i P := by
  induction l with
  | nil => intro i P; simp [raise, sumS, pwS, cntS]
  | cons m r ih =>
    intro i P
    have := ih (i + 1) P
    simp only [raise, List.map_cons, sumS, pwS, cntS] at this ⊢
    rw [this.1, this.2]
    split <;> simp <;> omega
/-- One lowered by t. -/
theorem lower_sum (l : List Mb) (t : Int) : ∀ i (b : Nat) (m : Mb) (P : Nat → Bool), l[b]? = some m →
    sumS (l.set b { m with pr := m.pr - t }) i P = sumS l i P - (if P (i + b) then t else 0) ∧ cntS (l.set b { m with pr := m.pr - t }) i P = cntS l i P ∧ pwS (l.set b { m with pr := m.pr - t }) i P = pwS l i P := by
  induction l with
  | nil => intro i b m P h; simp at h
  | cons x r ih =>
    intro i b m P h
    cases b with
    | zero =>
      simp at h
      subst h
      simp only [List.set_cons_zero, sumS, cntS, pwS, Nat.add_zero]
      split <;> simp <;> omega
    | succ b =>
      have := ih (i + 1) b m P (by simpa using h)
      rw [show i + 1 + b = i + (b + 1) by omega] at this
      simp only [List.set_cons_succ, sumS, cntS, pwS]
      rw [this.1, this.2.1, this.2.2]
      exact ⟨by omega, rfl, rfl⟩

/-- The millionths of 1/(k+1) + .. + 1/64, rounded up. -/
def hsF : Nat → Nat → Nat
  | 0, _ => 0
  | f + 1, k => (1000000 + k) / (k + 1) + hsF f (k + 1)
def hs (k : Nat) : Nat := hsF (64 - k) k
theorem hs_succ (k : Nat) (h : k < 64) : hs k = (1000000 + k) / (k + 1) + hs (k + 1) := by
  unfold hs
  rw [show 64 - k = (64 - (k + 1)) + 1 by omega, hsF]
theorem hs_one : hs 1 ≤ 3750000 := by decide +kernel
theorem ceil_mul (k : Nat) : 1000000 ≤ (k + 1) * ((1000000 + k) / (k + 1)) := by
  have h1 := Nat.div_add_mod (1000000 + k) (k + 1)
  have h2 := Nat.mod_lt (1000000 + k) (y := k + 1) (by omega)
  omega
theorem hs_anti (k : Nat) (h1 : 1 ≤ k) (h64 : k ≤ 64) : hs k ≤ hs 1 := by
  induction k with
  | zero => omega
  | succ k ih =>
    by_cases h : k = 0
    · subst h; exact Nat.le_refl _
    · have := ih (by omega) (by omega)
      rw [hs_succ k (by omega)] at this
      exact Nat.le_trans (Nat.le_add_left _ _) this
end Go.Proofs.Ytcmoocoklhjkfaa
