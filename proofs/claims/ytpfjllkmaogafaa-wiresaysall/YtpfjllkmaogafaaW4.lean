/- Walks: a Reader's Var whole, At, Left, End; all reads of a Reader with an error. -/
import Derived.Test.YtpfjllkmaogafaaW3
namespace Go.Proofs.Ytpfjllkmaogafaa
open Go.RowKit
attribute [local go_sem] eql40_same eql40_nil

theorem vsize_good {s : Nat} : ∀ (r : List UInt8) (k : Nat), vsize k r = (s, 0) → k ≤ 9 → k < s ∧ s ≤ 10 ∧ s ≤ k + r.length ∧ (s = 10 → (r.getD (9 - k) 0).toNat ≤ 1)
  | [], _, h, _ => by cases h
  | c :: r, k, h, hk => by
    rw [vsize] at h
    by_cases h1 : k = 9 ∧ 1 < c.toNat
    · rw [if_pos h1] at h; cases h
    · rw [if_neg h1] at h
      by_cases h2 : 0 < k ∧ c.toNat = 0
      · rw [if_pos h2] at h; cases h
      · rw [if_neg h2] at h
        by_cases h3 : c.toNat < 128
        · rw [if_pos h3] at h
          simp only [Prod.mk.injEq, and_true] at h
          subst h
          refine ⟨by omega, by omega, by simp, fun q => ?_⟩
          have : k = 9 := by omega
          subst this
          simp at h1 ⊢
          omega
        · rw [if_neg h3] at h
          have hk' : k + 1 ≤ 9 := by omega
          obtain ⟨a, b, d, e⟩ := vsize_good r (k + 1) h hk'
          refine ⟨by omega, b, by simp; omega, fun q => ?_⟩
          have := e q
          have e9 : 9 - k = (9 - (k + 1)) + 1 := by omega
          rw [e9]
          simpa using this

theorem vsum_lt (l : List UInt8) : ∀ k, vsum l k < 128 ^ k
  | 0 => by simp [vsum]
  | k + 1 => by
    have h := vsum_lt l k
    rw [vsum, Nat.pow_succ]
    have h2 : (l.getD k 0).toNat % 128 * 128 ^ k ≤ 127 * 128 ^ k := Nat.mul_le_mul_right _ (by omega)
    omega

theorem vsum_fits {l : List UInt8} {s : Nat} (h : vsize 0 l = (s, 0)) : ∀ k, k ≤ s → vsum l k < 18446744073709551616 ∧ vsum l k < 128 ^ k := by
  intro k hk
  obtain ⟨_, b, _, e⟩ := vsize_good l 0 h (by omega)
  refine ⟨?_, vsum_lt l k⟩
  by_cases h9 : k ≤ 9
  · have h1 := vsum_lt l k
    have h2 : 128 ^ k ≤ 128 ^ 9 := Nat.pow_le_pow_right (by omega) h9
    omega
  · have : k = 10 := by omega
    subst this
    have hs : s = 10 := by omega
    have h1 := vsum_lt l 9
    have h2 := e hs
    simp only [Nat.sub_zero] at h2
    rw [vsum]
    have h3 : (l.getD 9 0).toNat % 128 * 128 ^ 9 ≤ 1 * 128 ^ 9 := Nat.mul_le_mul_right _ (by omega)
    omega

/-- What Var answers: the number, the place, the error. -/
def rvar (bs : List UInt8) (i : Nat) : Nat × Nat × Int :=
  if (vsize 0 (bs.drop i)).2 = 0 then (vsum (bs.drop i) (vsize 0 (bs.drop i)).1, i + (vsize 0 (bs.drop i)).1, 0) else (0, i, (vsize 0 (bs.drop i)).2)

set_option maxRecDepth 100000 in
set_option maxHeartbeats 1000000 in
theorem rvar_made (w : World) (p : Nat) (v : Value) (bs : List UInt8) (i : Nat) (hle : bs.length ≤ 140737488355328) (h : Rd w p v bs i 0) :
    Calls Try.prog 91 #[.pointer (some ⟨p, 0, none⟩)] w fun e w' => e = .returned (.int .u64 (rvar bs i).1) ∧ Rd w' p v bs (rvar bs i).2.1 (rvar bs i).2.2 ∧ Turn (fun k => k = p) w w' := by
  have hlt := h.lt
  have hW := h.turn_no ((Turn.refl no w).alloc (.cells #[.pointer (some ⟨p, 0, none⟩)] 129))
  have c2 := h.c2
  by_cases hq : (vsize 0 (bs.drop i)).2 = 0
  · obtain ⟨s, hs⟩ : ∃ s, vsize 0 (bs.drop i) = (s, 0) := ⟨(vsize 0 (bs.drop i)).1, by rw [← hq]⟩
    have hr : rvar bs i = (vsum (bs.drop i) s, i + s, 0) := by unfold rvar; rw [hs]; rfl
    obtain ⟨a1, a2, a3, _⟩ := vsize_good _ _ hs (by omega)
    have his : i + s ≤ bs.length := by have := h.le; simp at a3; omega
    have hsm := vsum_fits hs
    rw [hr]
    clear hr hq
    have HS : Hid (vsize 0 (bs.drop i) = (s, 0)) := hs
    clear hs
    go_enter Try.func91, Try.ntmps91
    go_wp2_with (first | (go_at_call 130; refine (err_any _ _ _ hW.errs).mono ?_; rintro e w' ⟨rfl, rfl⟩) | (go_at_call 123; refine (number_good _ _ _ bs i s hle hW HS.out a1 a2 his hsm).mono ?_; rintro e w' ⟨rfl, k1, k2⟩) | go_in)
    go_ret
    exact ⟨rfl, k1, ((Turn.refl _ w).alloc _).trans k2 (fun _ _ q => q)⟩
  · have hr : rvar bs i = (0, i, (vsize 0 (bs.drop i)).2) := by unfold rvar; rw [if_neg hq]
    rw [hr]
    have hq' : ((vsize 0 (bs.drop i)).2 != 0) = true := by simpa using hq
    have hN := number_bad _ p v bs i hW hq'
    clear hr hq
    generalize (vsize 0 (bs.drop i)).2 = er at *
    have f2 := h.f 2
    have f3 := h.f 3
    have c3 := h.c3
    have hA := ((h.setAt i h.le).setErr er).turn_no ((Turn.refl no _).alloc (.cells #[.pointer (some ⟨p, 0, none⟩)] 129))
    go_enter Try.func91, Try.ntmps91
    go_wp2_with (first | (go_at_call 130; refine (err_any _ _ _ hW.errs).mono ?_; rintro e w' ⟨rfl, rfl⟩) | (go_at_call 123; refine hN.mono ?_; rintro e w' ⟨rfl, rfl⟩) | go_in)
    go_ret
    exact ⟨rfl, hA, ((Turn.set1 _ _ _ _).trans (Turn.set1 _ _ _ _) (fun _ _ q => q)).alloc _⟩

theorem Errs.turn {S : Nat → Prop} {w w' : World} {v : Value} {e : Int} (h : Errs w v e) (ht : Turn S w w') (hn : ∀ p, v = .pointer (some ⟨p, 0, none⟩) → ¬ S p) : Errs w' v e := by
  rcases h with q | ⟨p, rfl, h0, q⟩ | ⟨p, rfl, h0, h1⟩
  · exact Or.inl q
  · exact Or.inr (Or.inl ⟨p, rfl, ht.keep h0 (hn p rfl), q⟩)
  · exact Or.inr (Or.inr ⟨p, rfl, ht.keep h0 (hn p rfl), ht.keep h1 (hn p rfl)⟩)
theorem Errs.turn_no {w w' : World} {v : Value} {e : Int} (h : Errs w v e) (ht : Turn no w w') : Errs w' v e := h.turn ht (fun _ _ q => q)
theorem Errs.ptr {w : World} {v : Value} {e : Int} (h : Errs w v e) : ∃ a, v = .pointer a := by rcases h with ⟨rfl, _⟩ | ⟨p, rfl, _⟩ | ⟨p, rfl, _⟩ <;> exact ⟨_, rfl⟩

set_option maxRecDepth 100000 in
set_option maxHeartbeats 1000000 in
theorem rvar_err (w : World) (v : Value) (e0 : Int) (h : Errs w v e0) (h0 : (e0 != 0) = true) :
    Calls Try.prog 91 #[v] w fun e w' => e = .returned (.int .u64 0) ∧ Turn no w w' := by
  have hW : Errs (w.alloc (.cells #[v] 129)) v e0 := h.turn_no ((Turn.refl _ _).alloc _)
  obtain ⟨a, rfl⟩ := h.ptr
  go_enter Try.func91, Try.ntmps91
  go_wp2_with (first | (go_at_call 130; refine (err_any _ _ _ hW).mono ?_; rintro e w' ⟨rfl, rfl⟩) | go_in)
  go_ret
  exact ⟨rfl, (Turn.refl _ w).alloc _⟩

set_option maxRecDepth 100000 in
set_option maxHeartbeats 1000000 in
theorem rbyte_err (w : World) (v : Value) (e0 : Int) (h : Errs w v e0) (h0 : (e0 != 0) = true) :
    Calls Try.prog 88 #[v] w fun e w' => e = .returned (.int .u8 0) ∧ Turn no w w' := by
  have hW : Errs (w.alloc (.cells #[v] 129)) v e0 := h.turn_no ((Turn.refl _ _).alloc _)
  obtain ⟨a, rfl⟩ := h.ptr
  go_enter Try.func88, Try.ntmps88
  go_wp2_with (first | (go_at_call 130; refine (err_any _ _ _ hW).mono ?_; rintro e w' ⟨rfl, rfl⟩) | go_in)
  go_ret
  exact ⟨rfl, (Turn.refl _ w).alloc _⟩

set_option maxRecDepth 100000 in
set_option maxHeartbeats 1000000 in
theorem rraw_err (w : World) (v : Value) (n : Int) (e0 : Int) (h : Errs w v e0) (h0 : (e0 != 0) = true) :
    Calls Try.prog 124 #[v, .int .i64 n] w fun e w' => e = .returned (.slice none 0 0) ∧ Turn no w w' := by
  have hW : ∀ w', Turn no w w' → Errs w' v e0 := fun w' q => h.turn_no q
  obtain ⟨a, rfl⟩ := h.ptr
  go_enter Try.func124, Try.ntmps124
  go_wp2_with (first | (go_at_call 130; refine (err_any _ _ e0 (hW _ (by first | exact ((Turn.refl _ _).alloc _).alloc _ | exact (Turn.refl _ _).alloc _ | exact (Turn.refl _ _)))).mono ?_; rintro e w' ⟨rfl, rfl⟩) | go_in)
  go_ret
  exact ⟨rfl, ((Turn.refl _ w).alloc _).alloc _⟩

set_option maxRecDepth 100000 in
set_option maxHeartbeats 1000000 in
theorem rtext_err (w : World) (v : Value) (n : Int) (e0 : Int) (h : Errs w v e0) (h0 : (e0 != 0) = true) :
    Calls Try.prog 89 #[v, .int .i64 n] w fun e w' => e = .returned (.string ByteArray.empty) ∧ Turn no w w' := by
  have hW : ∀ w', Turn no w w' → Errs w' v e0 := fun w' q => h.turn_no q
  obtain ⟨a, rfl⟩ := h.ptr
  go_enter Try.func89, Try.ntmps89
  go_wp2_with (first | (go_at_call 130; refine (err_any _ _ e0 (hW _ (by first | exact (((Turn.refl _ _).alloc _).alloc _).alloc _ | exact ((Turn.refl _ _).alloc _).alloc _ | exact (Turn.refl _ _).alloc _ | exact (Turn.refl _ _)))).mono ?_; rintro e w' ⟨rfl, rfl⟩) | go_in)
  go_ret
  exact ⟨rfl, by first | exact (((Turn.refl _ _).alloc _).alloc _).alloc _ | exact ((Turn.refl _ _).alloc _).alloc _ | exact (Turn.refl _ _).alloc _ | exact (Turn.refl _ _)⟩

/-- No Reader, or one that NewReader did not make. -/
def Unmade (w : World) (v : Value) : Prop := v = .pointer none ∨ ∃ p, v = .pointer (some ⟨p, 0, none⟩) ∧ w.cell? ⟨p, 0, none⟩ = some (.pointer none)

theorem Unmade.errs {w : World} {v : Value} (h : Unmade w v) : Errs w v 1 := by
  rcases h with rfl | ⟨p, rfl, h0⟩
  · exact Or.inl ⟨rfl, rfl⟩
  · exact Or.inr (Or.inl ⟨p, rfl, h0, rfl⟩)
theorem Unmade.fault {w : World} {v : Value} (h : Unmade w v) : Fault w v 1 := by
  rcases h with rfl | ⟨p, rfl, h0⟩
  · exact Or.inl ⟨rfl, rfl⟩
  · exact Or.inr (Or.inl ⟨p, rfl, h0, rfl⟩)
theorem Unmade.turn_no {w w' : World} {v : Value} (h : Unmade w v) (ht : Turn no w w') : Unmade w' v := by
  rcases h with rfl | ⟨p, rfl, h0⟩
  · exact Or.inl rfl
  · exact Or.inr ⟨p, rfl, ht.keep h0 (fun q => q)⟩

set_option maxRecDepth 100000 in
set_option maxHeartbeats 400000 in
theorem left_unmade (w : World) (v : Value) (h : Unmade w v) :
    Calls Try.prog 131 #[v] w fun e w' => e = .returned (.int .i64 0) ∧ w = w' := by
  rcases h with rfl | ⟨p, rfl, h0⟩
  all_goals
    go_enter Try.func131, Try.ntmps131
    go_wp2
    go_ret
    exact ⟨rfl, rfl⟩

set_option maxRecDepth 100000 in
set_option maxHeartbeats 400000 in
theorem end_err (w : World) (v : Value) (e0 : Int) (h : Errs w v e0) (h0 : (e0 != 0) = true) :
    Calls Try.prog 117 #[v] w fun e w' => e = .returned (.int .i64 e0) ∧ w = w' := by
  obtain ⟨a, rfl⟩ := h.ptr
  go_enter Try.func117, Try.ntmps117
  go_wp2_with (go_at_call 130; refine (err_any _ _ e0 h).mono ?_; rintro e w' ⟨rfl, rfl⟩)
  go_ret
  exact ⟨rfl, rfl⟩

set_option maxRecDepth 100000 in
set_option maxHeartbeats 400000 in
theorem left_made (w : World) (p : Nat) (v : Value) (bs : List UInt8) (i : Nat) (e0 : Int) (h : Rd w p v bs i e0) :
    Calls Try.prog 131 #[.pointer (some ⟨p, 0, none⟩)] w fun e w' => e = .returned (.int .i64 ((bs.length - i : Nat) : Int)) ∧ ∃ n, w' = w.drewN n := by
  obtain ⟨ad, cp, rfl⟩ := h.own.bs.slice
  have hl := h.own.bs.le
  have hi := h.le
  unfold maxLen at hl
  have c0 := h.c0
  have c1 := h.c1
  have c2 := h.c2
  go_enter Try.func131, Try.ntmps131
  go_wp2
  go_quiet (fail)
  go_wp2
  go_ret
  have ec : ((bs.length - i : Nat) : Int) = (bs.length : Int) - (i : Int) := by omega
  rw [ec]
  exact ⟨rfl, nq, rfl⟩

set_option maxRecDepth 100000 in
set_option maxHeartbeats 400000 in
theorem end_made (w : World) (p : Nat) (v : Value) (bs : List UInt8) (i : Nat) (h : Rd w p v bs i 0) :
    Calls Try.prog 117 #[.pointer (some ⟨p, 0, none⟩)] w fun e w' => e = .returned (.int .i64 (if i < bs.length then 13 else 0)) ∧ ∃ n, w' = w.drewN n := by
  have he := h.errs
  by_cases hlt : i < bs.length
  · have hlt' : (0 : Int) < ((bs.length - i : Nat) : Int) := by omega
    rw [if_pos hlt]
    go_enter Try.func117, Try.ntmps117
    go_wp2_with (first | (go_at_call 130; refine (err_any _ _ 0 he).mono ?_; rintro e w' ⟨rfl, rfl⟩) | (go_at_call 131; refine (left_made _ _ _ bs i 0 h).mono ?_; rintro e w' ⟨rfl, n, rfl⟩))
    go_ret
    exact ⟨rfl, _, rfl⟩
  · have hlt' : ¬ (0 : Int) < ((bs.length - i : Nat) : Int) := by omega
    rw [if_neg hlt]
    go_enter Try.func117, Try.ntmps117
    go_wp2_with (first | (go_at_call 130; refine (err_any _ _ 0 he).mono ?_; rintro e w' ⟨rfl, rfl⟩) | (go_at_call 131; refine (left_made _ _ _ bs i 0 h).mono ?_; rintro e w' ⟨rfl, n, rfl⟩))
    go_ret
    exact ⟨rfl, _, rfl⟩

end Go.Proofs.Ytpfjllkmaogafaa

