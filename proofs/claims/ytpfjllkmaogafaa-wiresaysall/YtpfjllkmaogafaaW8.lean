/- Walks: a Reader's inner functions: left, pass, fixed, head. -/
import Derived.Test.YtpfjllkmaogafaaW7
namespace Go.Proofs.Ytpfjllkmaogafaa
open Go.RowKit

theorem Rd.drewN {w : World} {p : Nat} {v : Value} {bs : List UInt8} {i : Nat} {e : Int} (h : Rd w p v bs i e) (n : Nat) : Rd (w.drewN n) p v bs i e := h.turn_no ((Turn.refl _ _).drewN n)

set_option maxRecDepth 100000 in
set_option maxHeartbeats 400000 in
theorem left94 (w : World) (p : Nat) (v : Value) (bs : List UInt8) (i : Nat) (e0 : Int) (h : Rd w p v bs i e0) :
    Calls Try.prog 140 #[.pointer (some ⟨p, 0, none⟩)] w fun e w' => e = .returned (.int .u64 ((bs.length - i : Nat) : Int)) ∧ ∃ n, w' = w.drewN n := by
  obtain ⟨ad, cp, rfl⟩ := h.own.bs.slice
  have hl := h.own.bs.le
  have hi := h.le
  unfold maxLen at hl
  have c1 := h.c1
  have c2 := h.c2
  have ec : ((bs.length - i : Nat) : Int) = (bs.length : Int) - (i : Int) := by omega
  rw [ec]
  have hge : (0 : Int) ≤ (bs.length : Int) - (i : Int) := by omega
  go_enter Try.func140, Try.ntmps140
  go_wp2
  go_quiet (fail)
  go_wp2
  go_ret
  exact ⟨rfl, nq, rfl⟩

set_option maxRecDepth 100000 in
set_option maxHeartbeats 400000 in
theorem pass_bad (w : World) (p : Nat) (v : Value) (bs : List UInt8) (i n : Nat) (h : Rd w p v bs i 0) (hn : bs.length - i < n) :
    Calls Try.prog 132 #[.pointer (some ⟨p, 0, none⟩), .int .u64 n] w fun e w' => e = .returned (.tuple #[.int .u64 0, .int .i64 10]) ∧ Rd w' p v bs i 0 ∧ Turn (fun k => k = p) w w' := by
  have hn' : ((bs.length - i : Nat) : Int) < (n : Int) := by omega
  go_enter Try.func132, Try.ntmps132
  go_wp2_with (go_at_call 140; refine (left94 _ _ _ bs i 0 h).mono ?_; rintro e w' ⟨rfl, m, rfl⟩)
  go_ret2
  exact ⟨rfl, h.drewN m, (Turn.refl _ _).drewN m⟩

set_option maxRecDepth 100000 in
set_option maxHeartbeats 400000 in
theorem pass_good (w : World) (p : Nat) (v : Value) (bs : List UInt8) (i n : Nat) (h : Rd w p v bs i 0) (hn : n ≤ bs.length - i) :
    Calls Try.prog 132 #[.pointer (some ⟨p, 0, none⟩), .int .u64 n] w fun e w' => e = .returned (.tuple #[.int .u64 n, .int .i64 0]) ∧ Rd w' p v bs (i + n) 0 ∧ Turn (fun k => k = p) w w' := by
  have hl := h.own.bs.le
  have hi := h.le
  unfold maxLen at hl
  have hn' : ¬ ((bs.length - i : Nat) : Int) < (n : Int) := by omega
  have hb1 : (n : Int) ≤ 9223372036854775807 := by omega
  have hb2 : (i : Int) + (n : Int) ≤ 9223372036854775807 := by omega
  have c2 := h.c2
  have f2 := h.f 2
  go_enter Try.func132, Try.ntmps132
  go_wp2_with (go_at_call 140; refine (left94 _ _ _ bs i 0 h).mono ?_; rintro e w' ⟨rfl, m, rfl⟩)
  go_ret2
  have hA := (h.drewN m).setAt (i + n) (by omega)
  have ec : (((i + n : Nat)) : Int) = (i : Int) + (n : Int) := by omega
  rw [ec] at hA
  exact ⟨rfl, hA, ((Turn.refl _ w).drewN m).trans (Turn.set1 _ _ _ _) (fun _ _ q => q)⟩

/-- The number in the first k bytes, the lowest first. -/
def lsum (l : List UInt8) : Nat → Nat
  | 0 => 0
  | k + 1 => lsum l k + (l.getD k 0).toNat * 256 ^ k

theorem lsum_lt (l : List UInt8) : ∀ k, lsum l k < 256 ^ k
  | 0 => by simp [lsum]
  | k + 1 => by
    have h := lsum_lt l k
    rw [lsum, Nat.pow_succ]
    have h2 : (l.getD k 0).toNat * 256 ^ k ≤ 255 * 256 ^ k := Nat.mul_le_mul_right _ (by have := UInt8.toNat_lt (l.getD k 0); omega)
    omega

theorem lsum_succ (bs : List UInt8) (i k : Nat) : lsum (bs.drop i) (k + 1) = lsum (bs.drop i) k + (bs[i + k]?.getD 0).toNat * 256 ^ k := by
  rw [lsum, getD_drop]

theorem or_byte (V c k : Nat) (hV : V < 256 ^ k) (hk : k < 8) (hc : c < 256) :
    bits .or .u64 (V : Int) (IntKind.u64.wrap (IntKind.u64.wrap (c : Int) * 2 ^ (8 * k))) = ((V + c * 256 ^ k : Nat) : Int) := by
  have e4 : IntKind.u64.wrap (c : Int) = (c : Int) := by rw [IntKind.wrap_u64]; omega
  rw [e4]
  have e2 : (2 : Int) ^ (8 * k) = ((256 ^ k : Nat) : Int) := by
    rw [Int.pow_mul]
    simp
  have hp : 256 ^ k ≤ 256 ^ 7 := Nat.pow_le_pow_right (by omega) (by omega)
  have hm : c * 256 ^ k ≤ 255 * 256 ^ 7 := Nat.mul_le_mul (by omega) hp
  have hVb : V < 18446744073709551616 := by omega
  rw [e2, ← Int.natCast_mul, IntKind.wrap_u64]
  have e5 : ((c * 256 ^ k : Nat) : Int) % 18446744073709551616 = ((c * 256 ^ k : Nat) : Int) := by omega
  rw [e5, bits_or_u64_nat _ _ hVb (by omega)]
  have e6 : V ||| c * 256 ^ k = V + c * 256 ^ k := by
    have e7 : (256 : Nat) ^ k = 2 ^ (8 * k) := by rw [Nat.pow_mul]
    rw [e7] at hV ⊢
    rw [Nat.or_comm, Nat.mul_comm, ← Nat.two_pow_add_eq_or_of_lt hV, Nat.add_comm]
  rw [e6]

set_option maxRecDepth 100000 in
set_option maxHeartbeats 400000 in
theorem fixed_bad (w : World) (p : Nat) (v : Value) (bs : List UInt8) (i n : Nat) (h : Rd w p v bs i 0) (hn : bs.length - i < n) (h8 : n ≤ 8) :
    Calls Try.prog 120 #[.pointer (some ⟨p, 0, none⟩), .int .i64 n] w fun e w' => e = .returned (.tuple #[.int .u64 0, .int .i64 10]) ∧ Rd w' p v bs i 0 ∧ Turn (fun k => k = p) w w' := by
  have c2 := h.c2
  have hb1 : (n : Int) ≤ 8 := by omega
  go_enter Try.func120, Try.ntmps120
  go_wp2_with (go_at_call 132; refine (pass_bad _ _ _ bs i n h hn).mono ?_; rintro e w' ⟨rfl, k1, k2⟩)
  go_ret2
  exact ⟨rfl, k1, k2⟩

set_option maxRecDepth 100000 in
set_option maxHeartbeats 1000000 in
theorem fixed_good (w : World) (p : Nat) (v : Value) (bs : List UInt8) (i n : Nat) (h : Rd w p v bs i 0) (hn : n ≤ bs.length - i) (h0 : 0 < n) (h8 : n ≤ 8) :
    Calls Try.prog 120 #[.pointer (some ⟨p, 0, none⟩), .int .i64 n] w fun e w' => e = .returned (.tuple #[.int .u64 (lsum (bs.drop i) n), .int .i64 0]) ∧ Rd w' p v bs (i + n) 0 ∧ Turn (fun k => k = p) w w' := by
  have c2 := h.c2
  have hl := h.own.bs.le
  have hi := h.le
  unfold maxLen at hl
  have hb1 : (n : Int) ≤ 8 := by omega
  go_enter Try.func120, Try.ntmps120
  go_wp2_with fail
  refine (pass_good _ _ _ bs i n h hn).mono ?_
  rintro e w1 ⟨rfl, k1, k2⟩
  have c1 := k1.c1
  obtain ⟨b, off, cap, rfl, _, hca⟩ := k1.own.bs.at (by omega)
  clear c2
  go_wp2
  go_loop [9, 26] (fun t c => ∃ k : Nat, k ≤ n ∧ c = .int .i64 k ∧ t = .int .u64 (lsum (bs.drop i) k)) (fun _ c => n - (intOf c).toNat)
  case atStart => exact ⟨0, Nat.zero_le _, rfl, rfl⟩
  case round =>
    obtain ⟨k, hk, rfl, rfl⟩ := hrel
    by_cases hlt : k < n
    · have g := hca (i + k) (by omega)
      have hlt' : (k : Int) < (n : Int) := by omega
      clear hca
      go_wp2
      go_round
      case rel => exact ⟨k + 1, by omega, by go_num, by rw [lsum_succ, or_byte _ _ k (lsum_lt _ _) (by omega) (UInt8.toNat_lt _)]⟩
      case measure => simp [intOf]; omega
    · have hlt' : ¬ (k : Int) < (n : Int) := by omega
      have hks : k = n := by omega
      subst hks
      go_wp2
      go_ret2
      exact ⟨rfl, k1, k2⟩

set_option maxRecDepth 100000 in
set_option maxHeartbeats 400000 in
theorem head_neg (w : World) (p : Nat) (v : Value) (bs : List UInt8) (i : Nat) (m : Int) (h : Rd w p v bs i 0) (hm : m < 0) :
    Calls Try.prog 135 #[.pointer (some ⟨p, 0, none⟩), .int .i64 m] w fun e w' => e = .returned (.tuple #[.int .u64 0, .int .i64 2]) ∧ Rd w' p v bs i 0 ∧ Turn (fun k => k = p) w w' := by
  go_enter Try.func135, Try.ntmps135
  go_wp2
  go_ret2
  exact ⟨rfl, h, Turn.refl _ _⟩

set_option maxRecDepth 100000 in
set_option maxHeartbeats 400000 in
theorem head_bad (w : World) (p : Nat) (v : Value) (bs : List UInt8) (i : Nat) (m er : Int) (h : Rd w p v bs i 0) (hm : 0 ≤ m) (her : (vsize 0 (bs.drop i)).2 = er) (h0 : (er != 0) = true) :
    Calls Try.prog 135 #[.pointer (some ⟨p, 0, none⟩), .int .i64 m] w fun e w' => e = .returned (.tuple #[.int .u64 0, .int .i64 er]) ∧ Rd w' p v bs i 0 ∧ Turn (fun k => k = p) w w' := by
  have hN := number_bad w p v bs i h (by rw [her]; exact h0)
  rw [her] at hN
  clear her
  have h1 : (er == 0) = false := by simpa using h0
  go_enter Try.func135, Try.ntmps135
  go_wp2_with (go_at_call 123; refine hN.mono ?_; rintro e w' ⟨rfl, rfl⟩)
  go_ret2
  exact ⟨rfl, h, Turn.refl _ _⟩

set_option maxRecDepth 100000 in
set_option maxHeartbeats 400000 in
theorem head_var (w : World) (p : Nat) (v : Value) (bs : List UInt8) (i s : Nat) (m : Int) (hle : bs.length ≤ 140737488355328) (h : Rd w p v bs i 0) (hm : 0 ≤ m) (hmb : m < 9223372036854775808) (hs : vsize 0 (bs.drop i) = (s, 0)) :
    Calls Try.prog 135 #[.pointer (some ⟨p, 0, none⟩), .int .i64 m] w fun e w' => e = .returned (if m < (vsum (bs.drop i) s : Int) then .tuple #[.int .u64 0, .int .i64 12] else .tuple #[.int .u64 (vsum (bs.drop i) s), .int .i64 0]) ∧ Rd w' p v bs (i + s) 0 ∧ Turn (fun k => k = p) w w' := by
  obtain ⟨a1, a2, a3, _⟩ := vsize_good _ _ hs (by omega)
  have his : i + s ≤ bs.length := by have := h.le; simp at a3; omega
  have hN := number_good w p v bs i s hle h hs a1 a2 his (vsum_fits hs)
  clear hs a1 a2 a3 his
  generalize vsum (bs.drop i) s = x at *
  by_cases hx : m < (x : Int)
  · rw [if_pos hx]
    go_enter Try.func135, Try.ntmps135
    go_wp2_with (go_at_call 123; refine hN.mono ?_; rintro e w' ⟨rfl, k1, k2⟩)
    go_ret2
    exact ⟨rfl, k1, k2⟩
  · rw [if_neg hx]
    go_enter Try.func135, Try.ntmps135
    go_wp2_with (go_at_call 123; refine hN.mono ?_; rintro e w' ⟨rfl, k1, k2⟩)
    go_ret2
    exact ⟨rfl, k1, k2⟩
end Go.Proofs.Ytpfjllkmaogafaa

