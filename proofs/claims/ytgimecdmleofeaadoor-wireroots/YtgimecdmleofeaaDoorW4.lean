/- Walks: a Reader's Var whole, At, Left, End; all reads of a Reader with an error. -/
import Derived.Test.YtgimecdmleofeaaDoorW3
namespace Go.Proofs.YtgimecdmleofeaaDoor
open Go.RowKit

theorem vsize_good {s : Nat} : ∀ (r : List UInt8) (k : Nat), vsize k r = (s, 0) → k ≤ 9 → k < s ∧ s ≤ 10 ∧ s ≤ k + r.length ∧ (s = 10 → (r.getD (9 - k) 0).toNat ≤ 1)
  | [], _, h, _ => by cases h
  | c :: r, k, h, hk => by
    rw [vsize] at h
    by_cases h1 : k = 9 ∧ 1 < c.toNat
    · rw [if_pos h1] at h; cases h
    · rw [if_neg h1] at h
      by_cases h2 : 0 < k ∧ c.toNat = 0
      · rw [if_pos h2] at h; cases h
      · rw [if_neg h2] at h
        by_cases h3 : c.toNat < 128
        · rw [if_pos h3] at h
          simp only [Prod.mk.injEq, and_true] at h
          subst h
          refine ⟨by omega, by omega, by simp, fun q => ?_⟩
          have : k = 9 := by omega
          subst this
          simp at h1 ⊢
          omega
        · rw [if_neg h3] at h
          have hk' : k + 1 ≤ 9 := by omega
          obtain ⟨a, b, d, e⟩ := vsize_good r (k + 1) h hk'
          refine ⟨by omega, b, by simp; omega, fun q => ?_⟩
          have := e q
          have e9 : 9 - k = (9 - (k + 1)) + 1 := by omega
          rw [e9]
          simpa using this

theorem vsum_lt (l : List UInt8) : ∀ k, vsum l k < 128 ^ k
  | 0 => by simp [vsum]
  | k + 1 => by
    have h := vsum_lt l k
    rw [vsum, Nat.pow_succ]
    have h2 : (l.getD k 0).toNat % 128 * 128 ^ k ≤ 127 * 128 ^ k := Nat.mul_le_mul_right _ (by omega)
    omega

theorem vsum_fits {l : List UInt8} {s : Nat} (h : vsize 0 l = (s, 0)) : ∀ k, k ≤ s → vsum l k < 18446744073709551616 ∧ vsum l k < 128 ^ k := by
  intro k hk
  obtain ⟨_, b, _, e⟩ := vsize_good l 0 h (by omega)
  refine ⟨?_, vsum_lt l k⟩
  by_cases h9 : k ≤ 9
  · have h1 := vsum_lt l k
    have h2 : 128 ^ k ≤ 128 ^ 9 := Nat.pow_le_pow_right (by omega) h9
    omega
  · have : k = 10 := by omega
    subst this
    have hs : s = 10 := by omega
    have h1 := vsum_lt l 9
    have h2 := e hs
    simp only [Nat.sub_zero] at h2
    rw [vsum]
    have h3 : (l.getD 9 0).toNat % 128 * 128 ^ 9 ≤ 1 * 128 ^ 9 := Nat.mul_le_mul_right _ (by omega)
    omega

/-- What Var answers: the number, the place, the error. -/
def rvar (bs : List UInt8) (i : Nat) : Nat × Nat × Int :=
  if (vsize 0 (bs.drop i)).2 = 0 then (vsum (bs.drop i) (vsize 0 (bs.drop i)).1, i + (vsize 0 (bs.drop i)).1, 0) else (0, i, (vsize 0 (bs.drop i)).2)

theorem Errs.turn {S : Nat → Prop} {w w' : World} {v : Value} {e : Int} (h : Errs w v e) (ht : Turn S w w') (hn : ∀ p, v = .pointer (some ⟨p, 0, none⟩) → ¬ S p) : Errs w' v e := by
  rcases h with q | ⟨p, rfl, h0, q⟩ | ⟨p, rfl, h0, h1⟩
  · exact Or.inl q
  · exact Or.inr (Or.inl ⟨p, rfl, ht.keep h0 (hn p rfl), q⟩)
  · exact Or.inr (Or.inr ⟨p, rfl, ht.keep h0 (hn p rfl), ht.keep h1 (hn p rfl)⟩)
theorem Errs.turn_no {w w' : World} {v : Value} {e : Int} (h : Errs w v e) (ht : Turn no w w') : Errs w' v e := h.turn ht (fun _ _ q => q)
theorem Errs.ptr {w : World} {v : Value} {e : Int} (h : Errs w v e) : ∃ a, v = .pointer a := by rcases h with ⟨rfl, _⟩ | ⟨p, rfl, _⟩ | ⟨p, rfl, _⟩ <;> exact ⟨_, rfl⟩

/-- No Reader, or one that NewReader did not make. -/
def Unmade (w : World) (v : Value) : Prop := v = .pointer none ∨ ∃ p, v = .pointer (some ⟨p, 0, none⟩) ∧ w.cell? ⟨p, 0, none⟩ = some (.pointer none)

theorem Unmade.errs {w : World} {v : Value} (h : Unmade w v) : Errs w v 1 := by
  rcases h with rfl | ⟨p, rfl, h0⟩
  · exact Or.inl ⟨rfl, rfl⟩
  · exact Or.inr (Or.inl ⟨p, rfl, h0, rfl⟩)
theorem Unmade.fault {w : World} {v : Value} (h : Unmade w v) : Fault w v 1 := by
  rcases h with rfl | ⟨p, rfl, h0⟩
  · exact Or.inl ⟨rfl, rfl⟩
  · exact Or.inr (Or.inl ⟨p, rfl, h0, rfl⟩)
theorem Unmade.turn_no {w w' : World} {v : Value} (h : Unmade w v) (ht : Turn no w w') : Unmade w' v := by
  rcases h with rfl | ⟨p, rfl, h0⟩
  · exact Or.inl rfl
  · exact Or.inr ⟨p, rfl, ht.keep h0 (fun q => q)⟩

end Go.Proofs.YtgimecdmleofeaaDoor


