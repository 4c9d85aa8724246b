/- The document's reads: Raw, Bytes, Text, Count. -/
import Derived.Test.YtpfjllkmaogafaaY4
namespace Go.Proofs.Ytpfjllkmaogafaa
open Go.RowKit
set_option linter.unusedVariables false

/-- What a read of bytes leaves. -/
def By (w : World) (q : Nat) (v : Value) (bs : List UInt8) (r : List UInt8 × Nat × Int) (e : Ending) (w' : World) : Prop :=
  ∃ v', e = .returned v' ∧ Own w' 5 v' (r.1.map bv) ∧ (∀ g, v'.ownBlock = some g → w.heap.size ≤ g) ∧ Rq w' q v bs r.2.1 r.2.2 ∧ Turn (fun k => k = q) w w'
theorem By.none {w w' : World} {q : Nat} {v : Value} {bs : List UInt8} {i : Nat} {er : Int} (h : Rq w' q v bs i er) (t : Turn (fun k => k = q) w w') : By w q v bs ([], i, er) (.returned (.slice none 0 0)) w' :=
  ⟨_, rfl, Own.nil _ _, fun g q => (by cases q), h, t⟩
theorem rvar_facts (bs : List UInt8) (i : Nat) (hi : i ≤ bs.length) : ∃ x j er, rvar bs i = (x, j, er) ∧ (x : Int) < 18446744073709551616 ∧ i ≤ j ∧ j ≤ bs.length ∧ (er ≠ 0 → j = i) := by
  rcases rvar_cases bs i with ⟨s, hs, hv⟩ | ⟨er, her, h0, hv⟩
  · obtain ⟨a1, a2, a3, _⟩ := vsize_good _ _ hs (by omega)
    refine ⟨_, _, _, hv, ?_, by omega, by simp at a3; omega, fun q => (q rfl).elim⟩
    have := (vsum_fits hs s (Nat.le_refl _)).1
    omega
  · exact ⟨_, _, _, hv, by simp, by omega, hi, fun _ => rfl⟩
section
variable {w : World} {q : Nat} {v : Value} {bs : List UInt8} {i : Nat}
theorem raw74_err (e0 : Int) (h0 : (e0 != 0) = true) (h : Rq w q v bs i e0) (n : Int) : Calls Try.prog 127 #[.pointer (some ⟨q, 0, none⟩), .int .i64 n] w (By w q v bs ([], i, e0)) := by
  have C := take100_err w q v bs i e0 h0 h n
  have c2 := h.c2
  have h1 : (e0 == 0) = false := by simpa using h0
  go_enter Try.func127, Try.ntmps127
  go_wp2_with (go_at_call 125; refine C.mono ?_; rintro e w1 ⟨rfl, rfl⟩)
  go_ret
  exact By.none h (Turn.refl _ _)
theorem raw74 (h : Rq w q v bs i 0) (n : Int) (hb : n < 9223372036854775808) (hle : bs.length ≤ 140737488355328) : Calls Try.prog 127 #[.pointer (some ⟨q, 0, none⟩), .int .i64 n] w (By w q v bs (rraw bs i n)) := by
  have c2 := h.c2
  have f2 := h.f 2
  have hi := h.le
  unfold rraw
  by_cases h1 : n < 0
  · rw [if_pos h1]
    have R := h.at2 2
    have C := take100_err _ q v bs i 2 rfl R n
    have T := set_turn w q 2 (.int .i64 2)
    go_enter Try.func127, Try.ntmps127
    go_wp2_with (go_at_call 125; refine C.mono ?_; rintro e w1 ⟨rfl, rfl⟩)
    go_ret
    exact By.none R T
  · rw [if_neg h1]
    obtain ⟨k, rfl⟩ : ∃ k : Nat, n = (k : Int) := ⟨n.toNat, by omega⟩
    rw [Int.toNat_natCast]
    by_cases h2 : bs.length - i < k
    · rw [if_pos h2]
      have C := take100_cut w q v bs i h k h2 hle (by omega)
      go_enter Try.func127, Try.ntmps127
      go_wp2_with (go_at_call 125; refine C.mono ?_; rintro e w1 ⟨rfl, k1, k2⟩)
      go_ret
      exact By.none k1 k2
    · rw [if_neg h2]
      have C := take100_ok w q v bs i h k (by omega) hle
      go_enter Try.func127, Try.ntmps127
      go_wp2_with (go_at_call 125; refine C.mono ?_; rintro e w1 ⟨v1, rfl, o1, n1, k1, k2⟩; obtain ⟨a1, l1, cap1, rfl⟩ := o1.form)
      go_ret
      exact ⟨_, rfl, o1, n1, k1, k2⟩
theorem bytes75_err (e0 : Int) (h0 : (e0 != 0) = true) (h : Rq w q v bs i e0) (n : Int) : Calls Try.prog 126 #[.pointer (some ⟨q, 0, none⟩), .int .i64 n] w (By w q v bs ([], i, e0)) := by
  have c2 := h.c2
  go_enter Try.func126, Try.ntmps126
  go_wp2_with fail
  go_ret
  exact By.none h (Turn.refl _ _)
set_option maxRecDepth 100000 in
set_option maxHeartbeats 4000000 in
theorem bytes75 (h : Rq w q v bs i 0) (m : Int) (hb : m < 9223372036854775808) (hle : bs.length ≤ 140737488355328) : Calls Try.prog 126 #[.pointer (some ⟨q, 0, none⟩), .int .i64 m] w (By w q v bs (rbytes bs i m)) := by
  have c1 := h.c1
  have c2 := h.c2
  have f2 := h.f 2
  have hi := h.le
  unfold rbytes
  by_cases h1 : m < 0
  · rw [if_pos h1]
    have R := h.at2 2
    have T := set_turn w q 2 (.int .i64 2)
    go_enter Try.func126, Try.ntmps126
    go_wp2_with fail
    go_ret
    exact By.none R T
  · rw [if_neg h1]
    have V := var73 w q v bs i h hle
    obtain ⟨x, j, er, hr, hx, hij, hj, he⟩ := rvar_facts bs i hi
    rw [hr] at V ⊢
    simp only at V ⊢
    clear hr
    by_cases h2 : er ≠ 0
    · rw [if_pos h2]
      obtain rfl := he h2
      have h2' : (er != 0) = true := by simpa using h2
      go_enter Try.func126, Try.ntmps126
      go_wp2_with (go_at_call 101; refine V.mono ?_; rintro e w1 ⟨rfl, k1, k2⟩; have d2 := k1.c2; clear c1 c2)
      go_ret
      exact By.none k1 k2
    · rw [if_neg h2]
      obtain rfl : er = 0 := by omega
      clear h2 he
      by_cases h3 : m < (x : Int)
      · rw [if_pos h3]
        go_enter Try.func126, Try.ntmps126
        go_wp2_with (go_at_call 101; refine V.mono ?_; rintro e w1 ⟨rfl, k1, k2⟩; have d2 := k1.c2; have d1 := k1.c1; have g1 := k1.f 1; have g2 := k1.f 2; clear c1 c2)
        go_ret
        exact By.none ((k1.at2 12).at1 i hi) ((k2.trans (set_turn w1 q 2 _) (fun _ _ q => q)).trans (set_turn _ q 1 _) (fun _ _ q => q))
      · rw [if_neg h3]
        obtain ⟨N, hN⟩ : ∃ N, bs.length = N := ⟨_, rfl⟩
        by_cases h4 : bs.length - j < x
        · rw [if_pos h4]
          rw [hN] at h4 hj hle
          have h4' : (N : Int) - (j : Int) < (x : Int) := by omega
          have h40 : (0 : Int) ≤ (N : Int) - (j : Int) := by omega
          obtain ⟨g, cap, hv⟩ := h.nn
          rw [hN] at hv
          have HV := shutX hv
          have H4 := shutX (And.intro h4' h40)
          clear hv hN h4 h4' h40
          have hwm : IntKind.u64.wrap m = m := by rw [IntKind.wrap_u64]; omega
          have hw1 : IntKind.u64.wrap ((N : Int) - (j : Int)) = (N : Int) - (j : Int) := by rw [IntKind.wrap_u64]; omega
          have hw2 : IntKind.i64.wrap ((N : Int) - (j : Int)) = (N : Int) - (j : Int) := by rw [IntKind.wrap_i64]; omega
          clear hb hle hx
          go_enter Try.func126, Try.ntmps126
          go_wp2_with (go_at_call 101; refine V.mono ?_; rintro e w1 ⟨rfl, k1, k2⟩; have d2 := k1.c2; have d1 := k1.c1; have d0 := k1.c0; have g1 := k1.f 1; have g2 := k1.f 2; rw [HV.out] at d0; clear c1 c2 V h)
          obtain ⟨h4', h40⟩ := H4.out
          go_quiet (fail)
          go_wp2_with fail
          go_ret
          have k1 := k1.turn_no ((Turn.refl no w1).drewN nq)
          have k2 := k2.drewN nq
          exact By.none ((k1.at2 10).at1 i hi) ((k2.trans (set_turn _ q 2 _) (fun _ _ q => q)).trans (set_turn _ q 1 _) (fun _ _ q => q))
        · rw [if_neg h4]
          have HC := shutX (fun W K => take100_ok W q v bs j K x (by omega) hle)
          rw [hN] at h4 hj hle
          have h4' : ¬ (N : Int) - (j : Int) < (x : Int) := by omega
          have h40 : (0 : Int) ≤ (N : Int) - (j : Int) := by omega
          have HX : Shut (IntKind.i64.wrap (x : Int) = (x : Int)) := ⟨by rw [IntKind.wrap_i64]; omega⟩
          clear hx
          obtain ⟨g, cap, hv⟩ := h.nn
          rw [hN] at hv
          have HV := shutX hv
          have H4 := shutX (And.intro h4' h40)
          clear hv hN h4 h4' h40
          have hwm : IntKind.u64.wrap m = m := by rw [IntKind.wrap_u64]; omega
          have hw1 : IntKind.u64.wrap ((N : Int) - (j : Int)) = (N : Int) - (j : Int) := by rw [IntKind.wrap_u64]; omega
          have hw2 : IntKind.i64.wrap ((N : Int) - (j : Int)) = (N : Int) - (j : Int) := by rw [IntKind.wrap_i64]; omega
          clear hb hle
          go_enter Try.func126, Try.ntmps126
          go_wp2_with (go_at_call 101; refine V.mono ?_; rintro e w1 ⟨rfl, k1, k2⟩; have d2 := k1.c2; have d1 := k1.c1; have d0 := k1.c0; have g1 := k1.f 1; have g2 := k1.f 2; rw [HV.out] at d0; clear c1 c2 V h)
          obtain ⟨h4', h40⟩ := H4.out
          go_quiet (fail)
          have hx63 := HX.out
          have k3 := k1.turn_no ((Turn.refl no w1).drewN nq)
          have k4 := k2.drewN nq
          have C := HC.out _ k3
          go_wp2_with (go_at_call 125; refine C.mono ?_; rintro e w2 ⟨v2, rfl, o2, n2, l1, l2⟩; obtain ⟨a2, l2', cap2, rfl⟩ := o2.form)
          go_ret
          exact ⟨_, rfl, o2, fun g hg => Nat.le_trans k4.size (n2 g hg), l1, k4.trans l2 (fun _ _ q => q)⟩
theorem text76_err (e0 : Int) (h0 : (e0 != 0) = true) (h : Rq w q v bs i e0) (n : Int) : Calls Try.prog 100 #[.pointer (some ⟨q, 0, none⟩), .int .i64 n] w (Nu w q v bs (.string ByteArray.empty) i e0) := by
  have C := bytes75_err e0 h0 h n
  go_enter Try.func100, Try.ntmps100
  go_wp2_with (go_at_call 126; refine C.mono ?_; rintro e w1 ⟨v1, rfl, o1, n1, k1, k2⟩; have hcv := bytes_text (bs := []) o1.bs; obtain ⟨a1, l1, cap1, rfl⟩ := o1.form)
  go_ret
  exact ⟨rfl, k1, k2⟩
theorem text76 (h : Rq w q v bs i 0) (m : Int) (hb : m < 9223372036854775808) (hle : bs.length ≤ 140737488355328) : Calls Try.prog 100 #[.pointer (some ⟨q, 0, none⟩), .int .i64 m] w (Nu w q v bs (.string ⟨(rbytes bs i m).1.toArray⟩) (rbytes bs i m).2.1 (rbytes bs i m).2.2) := by
  have C := bytes75 h m hb hle
  generalize rbytes bs i m = r at *
  go_enter Try.func100, Try.ntmps100
  go_wp2_with (go_at_call 126; refine C.mono ?_; rintro e w1 ⟨v1, rfl, o1, n1, k1, k2⟩; have hcv := bytes_text o1.bs; obtain ⟨a1, l1, cap1, rfl⟩ := o1.form)
  go_ret
  exact ⟨rfl, k1, k2⟩
end
end Go.Proofs.Ytpfjllkmaogafaa

