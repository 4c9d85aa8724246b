/- The document's Count, Left, End, New. -/
import Derived.Test.YtfjdojodbhmmaaaY5
import Derived.Test.YtfjdojodbhmmaaaY0
namespace Go.Proofs.Ytfjdojodbhmmaaa
open Go.RowKit
set_option linter.unusedVariables false

section
variable {w : World} {q : Nat} {v : Value} {bs : List UInt8} {i : Nat}
theorem count77_err (e0 : Int) (h0 : (e0 != 0) = true) (h : Rq w q v bs i e0) (m l : Int) : Calls Try.prog 77 #[.pointer (some ⟨q, 0, none⟩), .int .i64 m, .int .i64 l] w (Nu w q v bs (.int .i64 0) i e0) := by
  have c2 := h.c2
  go_enter Try.func77, Try.ntmps77
  go_wp2_with fail
  go_ret
  exact ⟨rfl, h, Turn.refl _ _⟩
set_option maxRecDepth 100000 in
set_option maxHeartbeats 4000000 in
theorem count77 (h : Rq w q v bs i 0) (m l : Int) (hb : m < 9223372036854775808) (hbl : l < 9223372036854775808) (hle : bs.length ≤ 140737488355328) : Calls Try.prog 77 #[.pointer (some ⟨q, 0, none⟩), .int .i64 m, .int .i64 l] w (Nu w q v bs (.int .i64 (rcount bs i m l).1) (rcount bs i m l).2.1 (rcount bs i m l).2.2) := by
  have c1 := h.c1
  have c2 := h.c2
  have f2 := h.f 2
  have hi := h.le
  unfold rcount
  by_cases h1 : m < 0 ∨ l < 0
  · rw [if_pos h1]
    have R := h.at2 2
    have T := set_turn w q 2 (.int .i64 2)
    by_cases h1a : m < 0
    · go_enter Try.func77, Try.ntmps77
      go_wp2_with fail
      go_ret
      exact ⟨rfl, R, T⟩
    · have h1b : l < 0 := h1.resolve_left h1a
      go_enter Try.func77, Try.ntmps77
      go_wp2_with fail
      go_ret
      exact ⟨rfl, R, T⟩
  · rw [if_neg h1]
    have h1a : ¬ m < 0 := fun r => h1 (.inl r)
    have h1b : ¬ l < 0 := fun r => h1 (.inr r)
    clear h1
    have V := var73 w q v bs i h hle
    obtain ⟨x, j, er, hr, hx, hij, hj, he⟩ := rvar_facts bs i hi
    rw [hr] at V ⊢
    simp only at V ⊢
    clear hr
    by_cases h2 : er ≠ 0
    · rw [if_pos h2]
      obtain rfl := he h2
      have h2' : (er != 0) = true := by simpa using h2
      go_enter Try.func77, Try.ntmps77
      go_wp2_with (go_at_call 73; refine V.mono ?_; rintro e w1 ⟨rfl, k1, k2⟩; have d2 := k1.c2; clear c1 c2)
      go_ret
      exact ⟨rfl, k1, k2⟩
    · rw [if_neg h2]
      obtain rfl : er = 0 := by omega
      clear h2 he
      obtain ⟨N, hN⟩ : ∃ N, bs.length = N := ⟨_, rfl⟩
      obtain ⟨g, cap, hv⟩ := h.nn
      rw [hN] at hv
      have HV := shutX hv
      have hwm : IntKind.u64.wrap m = m := by rw [IntKind.wrap_u64]; omega
      have hwl : IntKind.u64.wrap l = l := by rw [IntKind.wrap_u64]; omega
      obtain ⟨y, hy⟩ : ∃ y, y = bs.length - j := ⟨_, rfl⟩
      have hyi : (N : Int) - (j : Int) = (y : Int) := by omega
      have hw1 : IntKind.u64.wrap (y : Int) = (y : Int) := by rw [IntKind.wrap_u64]; omega
      have hw2 : IntKind.i64.wrap (y : Int) = (y : Int) := by rw [IntKind.wrap_i64]; omega
      have HX : m ≥ (x : Int) → IntKind.i64.wrap (x : Int) = (x : Int) := fun r => by rw [IntKind.wrap_i64]; omega
      obtain ⟨b, rfl⟩ : ∃ b : Nat, l = (b : Int) := ⟨l.toNat, by omega⟩
      have HY := shutX hy
      rw [Int.toNat_natCast, ← hy]
      clear hb hbl hle hx hv hN hy
      by_cases h3 : m < (x : Int)
      · rw [if_pos h3]
        clear HX
        go_enter Try.func77, Try.ntmps77
        go_wp2_with (go_at_call 73; refine V.mono ?_; rintro e w1 ⟨rfl, k1, k2⟩; have d2 := k1.c2; have d1 := k1.c1; have d0 := k1.c0; have g1 := k1.f 1; have g2 := k1.f 2; rw [HV.out] at d0; clear c1 c2 V h)
        go_quiet (fail)
        go_wp2_with fail
        go_ret
        have k1 := k1.turn_no ((Turn.refl no w1).drewN nq)
        have k2 := k2.drewN nq
        exact ⟨rfl, (k1.at2 12).at1 i hi, (k2.trans (set_turn _ q 2 _) (fun _ _ q => q)).trans (set_turn _ q 1 _) (fun _ _ q => q)⟩
      · rw [if_neg h3]
        have hxw := HX (by omega)
        clear HX
        by_cases h4 : y < x * b
        · rw [if_pos h4]
          have hx0 : 0 < x := by rcases Nat.eq_zero_or_pos x with r | r; · rw [r] at h4; simp at h4
                                 · exact r
          have hb0 : 0 < b := by rcases Nat.eq_zero_or_pos b with r | r; · rw [r] at h4; simp at h4
                                 · exact r
          have hx0' : (0 : Int) < (x : Int) := by omega
          have hb0' : (0 : Int) < (b : Int) := by omega
          have hq : (y : Int) / (x : Int) < (b : Int) := by
            have := (Nat.div_lt_iff_lt_mul hx0).2 (by rw [Nat.mul_comm]; exact h4)
            exact_mod_cast this
          have hne : ((x : Int) == 0) = false := by simp; omega
          have hqt : (y : Int).tdiv (x : Int) = (y : Int) / (x : Int) := Int.tdiv_eq_ediv_of_nonneg (by omega)
          have hqw : IntKind.u64.wrap ((y : Int) / (x : Int)) = (y : Int) / (x : Int) := by
            have a1 : (y : Int) / (x : Int) ≤ (y : Int) := Int.ediv_le_self _ (by omega)
            have a2 : 0 ≤ (y : Int) / (x : Int) := Int.ediv_nonneg (by omega) (by omega)
            rw [IntKind.wrap_u64] at hw1 ⊢
            omega
          clear h4
          go_enter Try.func77, Try.ntmps77
          go_wp2_with (go_at_call 73; refine V.mono ?_; rintro e w1 ⟨rfl, k1, k2⟩; have d2 := k1.c2; have d1 := k1.c1; have d0 := k1.c0; have g1 := k1.f 1; have g2 := k1.f 2; rw [HV.out] at d0; clear c1 c2 V h)
          go_quiet (fail)
          go_wp2_with fail
          go_ret
          have k1 := k1.turn_no ((Turn.refl no w1).drewN nq)
          have k2 := k2.drewN nq
          exact ⟨rfl, (k1.at2 10).at1 i hi, (k2.trans (set_turn _ q 2 _) (fun _ _ q => q)).trans (set_turn _ q 1 _) (fun _ _ q => q)⟩
        · rw [if_neg h4]
          by_cases hx0 : x = 0
          · subst hx0
            clear h4
            go_enter Try.func77, Try.ntmps77
            go_wp2_with (go_at_call 73; refine V.mono ?_; rintro e w1 ⟨rfl, k1, k2⟩; have d2 := k1.c2; have d1 := k1.c1; have d0 := k1.c0; have g1 := k1.f 1; have g2 := k1.f 2; rw [HV.out] at d0; clear c1 c2 V h)
            go_quiet (fail)
            go_wp2_with fail
            go_ret
            exact ⟨rfl, k1.turn_no ((Turn.refl no w1).drewN nq), k2.drewN nq⟩
          · have hx0' : (0 : Int) < (x : Int) := by omega
            by_cases hb0 : b = 0
            · subst hb0
              clear h4
              go_enter Try.func77, Try.ntmps77
              go_wp2_with (go_at_call 73; refine V.mono ?_; rintro e w1 ⟨rfl, k1, k2⟩; have d2 := k1.c2; have d1 := k1.c1; have d0 := k1.c0; have g1 := k1.f 1; have g2 := k1.f 2; rw [HV.out] at d0; clear c1 c2 V h)
              go_quiet (fail)
              go_wp2_with fail
              go_ret
              exact ⟨rfl, k1.turn_no ((Turn.refl no w1).drewN nq), k2.drewN nq⟩
            · have hb0' : (0 : Int) < (b : Int) := by omega
              have hq : ¬ (y : Int) / (x : Int) < (b : Int) := by
                intro r
                have r2 : y / x < b := by exact_mod_cast r
                have := (Nat.div_lt_iff_lt_mul (by omega)).1 r2
                exact h4 (by rw [Nat.mul_comm]; exact this)
              have hne : ((x : Int) == 0) = false := by simp; omega
              have hqt : (y : Int).tdiv (x : Int) = (y : Int) / (x : Int) := Int.tdiv_eq_ediv_of_nonneg (by omega)
              have hqw : IntKind.u64.wrap ((y : Int) / (x : Int)) = (y : Int) / (x : Int) := by
                have a1 : (y : Int) / (x : Int) ≤ (y : Int) := Int.ediv_le_self _ (by omega)
                have a2 : 0 ≤ (y : Int) / (x : Int) := Int.ediv_nonneg (by omega) (by omega)
                rw [IntKind.wrap_u64] at hw1 ⊢
                omega
              clear h4
              go_enter Try.func77, Try.ntmps77
              go_wp2_with (go_at_call 73; refine V.mono ?_; rintro e w1 ⟨rfl, k1, k2⟩; have d2 := k1.c2; have d1 := k1.c1; have d0 := k1.c0; have g1 := k1.f 1; have g2 := k1.f 2; rw [HV.out] at d0; clear c1 c2 V h)
              go_quiet (fail)
              go_wp2_with fail
              go_ret
              exact ⟨rfl, k1.turn_no ((Turn.refl no w1).drewN nq), k2.drewN nq⟩
set_option maxRecDepth 100000 in
theorem left67 (e0 : Int) (h : Rq w q v bs i e0) (hle : bs.length ≤ 140737488355328) : Calls Try.prog 67 #[.pointer (some ⟨q, 0, none⟩)] w fun e w' => e = .returned (.int .i64 ((bs.length - i : Nat) : Int)) ∧ ∃ n, w' = w.drewN n := by
  have c1 := h.c1
  have c0 := h.c0
  have hi := h.le
  obtain ⟨g, cap, rfl⟩ := h.nn
  clear h
  generalize bs.length = N at *
  have ec : ((N - i : Nat) : Int) = (N : Int) - (i : Int) := by omega
  rw [ec]
  clear ec
  have hw2 : IntKind.i64.wrap ((N : Int) - (i : Int)) = (N : Int) - (i : Int) := by rw [IntKind.wrap_i64]; omega
  clear hle
  go_enter Try.func67, Try.ntmps67
  go_wp2_with fail
  go_quiet (fail)
  go_wp2_with fail
  go_ret
  exact ⟨rfl, nq, rfl⟩
set_option maxRecDepth 100000 in
theorem end68 (e0 : Int) (h : Rq w q v bs i e0) (hle : bs.length ≤ 140737488355328) : Calls Try.prog 68 #[.pointer (some ⟨q, 0, none⟩)] w fun e w' => e = .returned (.int .i64 (rend bs i e0)) ∧ ∃ n, w' = w.drewN n := by
  have c0 := h.c0
  have c1 := h.c1
  have c2 := h.c2
  unfold rend
  obtain ⟨g, cap, rfl⟩ := h.nn
  clear h
  generalize bs.length = N at *
  clear hle
  by_cases he : e0 = 0
  · subst he
    rw [if_pos rfl]
    by_cases hi : i < N
    · rw [if_pos hi]
      have hi' : (i : Int) < (N : Int) := by omega
      go_enter Try.func68, Try.ntmps68
      go_wp2_with fail
      go_quiet (fail)
      go_wp2_with fail
      go_ret
      exact ⟨rfl, nq, rfl⟩
    · rw [if_neg hi]
      have hi' : ¬ (i : Int) < (N : Int) := by omega
      go_enter Try.func68, Try.ntmps68
      go_wp2_with fail
      go_quiet (fail)
      go_wp2_with fail
      go_ret
      exact ⟨rfl, nq, rfl⟩
  · rw [if_neg he]
    have he' : (e0 == 0) = false := by simpa using he
    go_enter Try.func68, Try.ntmps68
    go_wp2_with fail
    go_quiet (fail)
    go_wp2_with fail
    go_ret
    exact ⟨rfl, nq, rfl⟩
end
end Go.Proofs.Ytfjdojodbhmmaaa
