/- Of the law of MisdeedVerifies: what is let stands in the book twice; its walk. -/
import Derived.Test.YtgbcdjjnpadddaaGreatDoorSm
import Derived.Test.YtgbcdjjnpadddaaGreatDoorMVb
import Derived.Test.YtgbcdjjnpadddaaGreatDoorUa
namespace Go.Proofs.YtgbcdjjnpadddaaGreatDoor
open Go.RowKit Go.Maps Go.MuLone
set_option linter.unusedVariables false

def isPQ (P Q : List UInt8) (s : List UInt8) : Bool := s == P || s == Q
theorem cnt_nil (a : UInt64) (P Q : List UInt8) (hPQ : P ≠ Q) : ∀ R : List Rec, R.Nodup → (txs R a).countP (isPQ P Q) = (if (a, P) ∈ R then 1 else 0) + (if (a, Q) ∈ R then 1 else 0)
  | [], _ => by simp [txs]
  | (b, s) :: R, h => by
    rw [List.nodup_cons] at h
    have ih := cnt_nil a P Q hPQ R h.2
    by_cases hb : b = a
    · subst hb
      have e : txs ((b, s) :: R) b = s :: txs R b := by simp [txs]
      rw [e, List.countP_cons, ih]
      by_cases h1 : s = P
      · subst h1
        have hq : ¬ (s == Q) = true := by simpa using hPQ
        have n1 : ¬ (b, Q) = (b, s) := fun q => hPQ (by cases q; rfl)
        have hn := h.1
        by_cases hQ : (b, Q) ∈ R <;> simp [isPQ, hn, hQ, n1]
      · by_cases h2 : s = Q
        · subst h2
          have n1 : ¬ (b, P) = (b, s) := fun q => hPQ (by cases q; rfl)
          have hn := h.1
          by_cases hP : (b, P) ∈ R <;> simp [isPQ, hn, hP, n1]
        · have f : isPQ P Q s = false := by simp [isPQ, h1, h2]
          have n1 : ¬ P = s := fun q => h1 q.symm
          have n2 : ¬ Q = s := fun q => h2 q.symm
          simp [f, n1, n2]
    · have e : txs ((b, s) :: R) a = txs R a := by
        have : ¬ (b == a) = true := by simpa using hb
        simp [txs, hb]
      have n1 : ¬ a = b := fun q => hb q.symm
      rw [e, ih]
      simp [n1]
theorem cnt_two {a : UInt64} {P Q : List UInt8} {R : List Rec} (h : R.Nodup) (hPQ : P ≠ Q) (h1 : (a, P) ∈ R) (h2 : (a, Q) ∈ R) : (txs R a).countP (isPQ P Q) = 2 := by
  rw [cnt_nil a P Q hPQ R h, if_pos h1, if_pos h2]
theorem verE_zero {c : ByteArray} {P : List Pa} {O : List (Nat × Nat)} {age hh : Nat} {R : List Rec} {a b : Vt} (h : verE c P O age hh R a b = 0) : pairE a b = 0 ∧ sealQ c R a = true ∧ sealQ c R b = true := by
  unfold verE verX at h
  by_cases h1 : pairE a b = 0
  · rw [if_neg (by simp [h1])] at h
    split at h
    · cases h
    · split at h
      · cases h
      · split at h
        · cases h
        · split at h
          · cases h
          · split at h
            · rename_i q
              exact ⟨h1, q⟩
            · cases h
  · rw [if_pos h1] at h
    exact absurd h h1
theorem stBv_ne {c : ByteArray} {a b : Vt} (ha : a.ok) (hb : b.ok) (h : pairE a b = 0) : stBv c a ≠ stBv c b := by
  obtain ⟨h1, h2, h3, h4, h5, _, _⟩ := pair_ids h
  intro e
  unfold stBv voB at e
  rw [h3, h4, h5] at e
  have e1 := List.append_cancel_left (List.append_cancel_left e)
  have e2 := List.append_cancel_left (List.append_cancel_left (List.append_cancel_left e1))
  exact h1 (List.append_inj_left e2 (by rw [ha.1, hb.1]))
/-- What both registries hold of evidence that is let. -/
theorem let_two {c : ByteArray} {P : List Pa} {O : List (Nat × Nat)} {age hh : Nat} {R : List Rec} {a b : Vt} (ha : a.fits) (hb : b.fits) (hR : R.Nodup) (h : verE c P O age hh R a b = 0) : plainSv c a = 0 ∧ plainSv c b = 0 ∧ (txs R (auE a)).countP (isPQ (stBv c a) (stBv c b)) = 2 := by
  obtain ⟨h1, h2, h3⟩ := verE_zero h
  simp only [sealQ, Bool.and_eq_true, decide_eq_true_eq] at h2 h3
  have hf : auE b = auE a := by
    have := (pair_ids h1).2.1
    unfold auE
    rw [this]
  rw [hf] at h3
  exact ⟨h2.1, h3.1, cnt_two hR (stBv_ne ha.1 hb.1 h1) h2.2.1 h3.2.1⟩
theorem Wd.bkp {n0 : Nat} {W W' : World} {g p br bt q : Nat} {vm vo ve vr : Value} {V : UInt64 → Value} {E : List UInt64} {R : List Rec} {E1 E2 : List UInt64} {S1 S2 : List Nat} (h : Wd n0 W g p br bt q vm vo ve vr V E R E1 E2 S1 S2) (t : Turn (fun k => k = p) W W') (b : Bk W' p br bt V E R) : Wd n0 W' g p br bt q vm vo ve vr V E R E1 E2 S1 S2 := by
  have K : ∀ {e : TypeId}, e ≠ 135 → Kd (fun k => k = p) W e := fun he k hk c f ho => h.bk.kd1 he k (.inl hk) c f ho
  exact ⟨h.row.off t (K (by decide)), b, h.rf.off t (K (by decide)) (K (by decide)) (K (by decide)), h.om.off t (K (by decide)), h.oo.off t (K (by decide)), h.l1, h.l2, fun k a s e1 e2 => Row.off (h.sg k a s e1 e2) t (K (by decide)), fun k a s e1 e2 => Row.off (h.rs k a s e1 e2) t (K (by decide)), h.lo, h.lv⟩
end Go.Proofs.YtgbcdjjnpadddaaGreatDoor

