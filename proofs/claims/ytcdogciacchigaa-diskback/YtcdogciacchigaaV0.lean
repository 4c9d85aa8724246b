/- begins; what is left of a file. -/
import Derived.Test.YtcdogciacchigaaL1
namespace Go.Proofs.Ytcdogciacchigaa
open Go.RowKit Go.Maps
set_option linter.unusedVariables false

def begB (a b : List UInt8) : Bool := decide (a.length ≤ b.length) && decide (b.take a.length = a)
theorem Bs.take {w : World} {a : Option Addr} {c : Nat} {bs : List UInt8} (h : Bs w (.slice a bs.length c) bs) (n : Nat) (hn : n ≤ bs.length) : Bs w (.slice a n c) (bs.take n) := by
  have htl : (bs.take n).length = n := by rw [List.length_take]; omega
  rcases h with ⟨e, hnil⟩ | ⟨a', c', e, h1, h2, h3⟩
  · have : n = 0 := by rw [hnil] at hn; simpa using hn
    subst this
    simp at e
    exact Or.inl ⟨by rw [e.1, e.2.2], by simp⟩
  · simp at e
    obtain ⟨rfl, rfl⟩ := e
    refine Or.inr ⟨a', c, by rw [htl], by rw [htl]; omega, h2, fun j u hu => ?_⟩
    rw [List.getElem?_take] at hu
    split at hu
    · exact h3 j u hu
    · cases hu
theorem Bs.cap {w : World} {a : Option Addr} {n c : Nat} {bs : List UInt8} (h : Bs w (.slice a n c) bs) : n = bs.length ∧ bs.length ≤ c := by
  rcases h with ⟨e, hnil⟩ | ⟨a', c', e, h1, h2, h3⟩
  · simp at e
    subst hnil
    exact ⟨by simp [e.2.1], by simp⟩
  · simp at e
    exact ⟨e.2.1, by rw [e.2.2]; exact h1⟩
theorem str_inj {a b : List UInt8} : ((⟨a.toArray⟩ : ByteArray) = ⟨b.toArray⟩) ↔ a = b := by
  constructor
  · intro h; simpa using h
  · intro h; rw [h]

set_option maxRecDepth 100000 in
set_option maxHeartbeats 4000000 in
theorem begins22 (w : World) (va vb : Value) (a b : List UInt8) (ha : Bs w va a) (hb : Bs w vb b) : Calls Try.prog 22 #[va, vb] w fun e w' => e = .returned (.bool (begB a b)) ∧ ∃ m, w' = w.drewN m := by
  obtain ⟨aa, ac, rfl⟩ := ha.slice
  obtain ⟨ba, bc, rfl⟩ := hb.slice
  have hla := ha.le
  have hlb := hb.le
  have hcb := hb.cap.2
  have hca := ha.cap.2
  simp only [maxLen] at hla hlb
  by_cases hle : a.length ≤ b.length
  · have cv1 := fun n => bytes_text ((hb.take a.length hle).turn_no ((Turn.refl no w).drewN n))
    have cv2 := fun n => bytes_text (ha.turn_no ((Turn.refl no w).drewN n))
    have h1 : decide ((a.length : Int) ≤ (b.length : Int)) = true := by simp; omega
    have h1' : decide (a.length ≤ b.length) = true := by simpa using hle
    have i0 : (0 : Int) ≤ (a.length : Int) := by omega
    have i1 : (a.length : Int) ≤ (bc : Int) := by omega
    have i2 : a.length ≤ bc := by omega
    have e : begB a b = decide (b.take a.length = a) := by simp [begB, hle]
    rw [e]
    generalize hX : b.take a.length = X at *
    clear ha hb e
    by_cases hXa : X = a
    · subst hXa
      go_enter Try.func22, Try.ntmps22
      go_wp2_with fail
      go_quiet (fail)
      go_wp2_with fail
      go_ret
      exact ⟨by simp, nq, rfl⟩
    · have hX2 : (X == a) = false := by simpa using hXa
      have hX3 : decide (X = a) = false := by simpa using hXa
      rw [hX3]
      go_enter Try.func22, Try.ntmps22
      go_wp2_with fail
      go_quiet (fail)
      go_wp2_with fail
      go_ret
      exact ⟨rfl, nq, rfl⟩
  · have h1 : decide ((a.length : Int) ≤ (b.length : Int)) = false := by simp; omega
    have h1' : decide (a.length ≤ b.length) = false := by simpa using hle
    have e : begB a b = false := by simp [begB, hle]
    rw [e]
    clear ha hb e
    go_enter Try.func22, Try.ntmps22
    go_wp2_with fail
    go_quiet (fail)
    go_wp2_with fail
    go_ret
    exact ⟨rfl, nq, rfl⟩
theorem begins_q (W : World) (x : Nat) (va vb : Value) (a b : List UInt8) (r : Bool) (ha : Bs W va a) (hb : Bs W vb b) (hr : begB a b = r) : Calls Try.prog 22 #[va, vb] (W.drewN x) fun e w' => e = .returned (.bool r) ∧ ∃ m, w' = W.drewN m :=
  (begins22 _ va vb a b (ha.turn_no ((Turn.refl no W).drewN _)) (hb.turn_no ((Turn.refl no W).drewN _))).mono (fun _ _ ⟨q1, m, q2⟩ => ⟨by rw [q1, hr], x + m, by rw [q2]; simp⟩)

theorem left_len (bs : List UInt8) (sy : Nat) (k : Int) (junk : UInt8) (h : sy ≤ bs.length) : (leftB bs sy k junk).length = sy + keepN bs.length sy k := by
  have : sy + keepN bs.length sy k ≤ bs.length := by unfold keepN; omega
  unfold leftB
  split
  · rename_i q; rw [q, List.length_take]; omega
  · rw [List.length_set, List.length_take]; omega
theorem left_pre (bs : List UInt8) (sy : Nat) (k : Int) (junk : UInt8) (h : sy ≤ bs.length) : begB (bs.take sy) (leftB bs sy k junk) = true := by
  have hl := left_len bs sy k junk h
  have hts : (bs.take sy).length = sy := by rw [List.length_take]; omega
  simp only [begB, Bool.and_eq_true, decide_eq_true_eq, hts, hl]
  refine ⟨by omega, ?_⟩
  unfold leftB
  split
  · rw [List.take_take, Nat.min_self]
  · rename_i q
    rw [List.take_set, List.set_eq_of_length_le (by rw [List.length_take, List.length_take]; omega), List.take_take]
    congr 1
    omega
theorem left_last (bs : List UInt8) (sy : Nat) (k : Int) (junk : UInt8) (h : sy ≤ bs.length) (N : Nat) (hN : sy + keepN bs.length sy k = N + 1) (hk : keepN bs.length sy k ≠ 0) :
    begB ((leftB bs sy k junk).take N) bs = true ∧ (leftB bs sy k junk)[N]? = some (xorB (bs.getD N 0) junk) ∧ bs[N]? = some (bs.getD N 0) := by
  have hle : sy + keepN bs.length sy k ≤ bs.length := by unfold keepN; omega
  have hl := left_len bs sy k junk h
  have hN' : sy + keepN bs.length sy k - 1 = N := by omega
  unfold leftB at *
  rw [if_neg hk] at *
  rw [hN', hN] at *
  refine ⟨?_, ?_, by simp [show N < bs.length by omega]⟩
  · have hln : (((bs.take (N + 1)).set N (xorB (bs.getD N 0) junk)).take N).length = N := by
      rw [List.length_take, List.length_set, List.length_take]; omega
    simp only [begB, Bool.and_eq_true, decide_eq_true_eq, hln]
    refine ⟨by omega, ?_⟩
    rw [List.take_set, List.set_eq_of_length_le (by rw [List.length_take, List.length_take]; omega), List.take_take]
    congr 1
    omega
  · rw [List.getElem?_set]
    simp
    omega
end Go.Proofs.Ytcdogciacchigaa
