/- Walks: the closures of Raw, Bytes, Text and Count; Mul64. -/
import Derived.Test.YtpfjllkmaogafaaW10
import Derived.Lib.Mul64
namespace Go.Proofs.Ytpfjllkmaogafaa
open Go.RowKit
set_option linter.unusedVariables false

theorem low32 (a : Nat) (ha : a < 18446744073709551616) : bits .and .u64 (a : Int) 4294967295 = ((a % 4294967296 : Nat) : Int) := by
  have h := bits_and_u64_nat a 4294967295 ha (by omega)
  rw [show a &&& 4294967295 = a % 4294967296 from Nat.and_two_pow_sub_one_eq_mod a 32] at h
  exact h
theorem u64_fits (a : Nat) (ha : a < 18446744073709551616) : IntKind.u64.wrap (a : Int) = (a : Int) := by rw [IntKind.wrap_u64]; omega
theorem u64_mod (a : Nat) : IntKind.u64.wrap (a : Int) = ((a % 18446744073709551616 : Nat) : Int) := by rw [IntKind.wrap_u64]; omega
theorem div32 (a : Nat) : (a : Int) / 4294967296 = ((a / 4294967296 : Nat) : Int) := by omega

set_option maxRecDepth 100000 in
set_option maxHeartbeats 1000000 in
theorem raw1_neg (w : World) (p : Nat) (v : Value) (bs : List UInt8) (i : Nat) (nb rb : Nat) (n : Int) (h : Rd w p v bs i 0) (cn : w.cell? ⟨nb, 0, none⟩ = some (.int .i64 n)) (cr : w.cell? ⟨rb, 0, none⟩ = some (.pointer (some ⟨p, 0, none⟩))) (hn : n < 0) :
    Calls Try.prog 138 #[.pointer (some ⟨nb, 0, none⟩), .pointer (some ⟨rb, 0, none⟩)] w fun e w' => e = .returned (.tuple #[.int .u64 0, .int .i64 2]) ∧ Rd w' p v bs (i) 0 ∧ Turn (fun k => k = p) w w' := by
  have hl := h.le
  go_enter Try.func138, Try.ntmps138
  go_wp2
  go_ret2
  exact ⟨rfl, h, Turn.refl _ _⟩

set_option maxRecDepth 100000 in
set_option maxHeartbeats 1000000 in
theorem raw1_cut (w : World) (p : Nat) (v : Value) (bs : List UInt8) (i : Nat) (nb rb : Nat) (n : Nat) (h : Rd w p v bs i 0) (cn : w.cell? ⟨nb, 0, none⟩ = some (.int .i64 n)) (cr : w.cell? ⟨rb, 0, none⟩ = some (.pointer (some ⟨p, 0, none⟩))) (hn : bs.length - i < n) (hb : n < 9223372036854775808) :
    Calls Try.prog 138 #[.pointer (some ⟨nb, 0, none⟩), .pointer (some ⟨rb, 0, none⟩)] w fun e w' => e = .returned (.tuple #[.int .u64 0, .int .i64 10]) ∧ Rd w' p v bs (i) 0 ∧ Turn (fun k => k = p) w w' := by
  have hl := h.le
  go_enter Try.func138, Try.ntmps138
  go_wp2_with (go_at_call 132; refine (pass_bad _ _ _ bs i n h hn).mono ?_; rintro e w' ⟨rfl, k1, k2⟩)
  go_ret2
  exact ⟨rfl, k1, k2⟩

set_option maxRecDepth 100000 in
set_option maxHeartbeats 1000000 in
theorem raw1_good (w : World) (p : Nat) (v : Value) (bs : List UInt8) (i : Nat) (nb rb : Nat) (n : Nat) (hle : bs.length ≤ 140737488355328) (h : Rd w p v bs i 0) (cn : w.cell? ⟨nb, 0, none⟩ = some (.int .i64 n)) (cr : w.cell? ⟨rb, 0, none⟩ = some (.pointer (some ⟨p, 0, none⟩))) (hn : n ≤ bs.length - i) :
    Calls Try.prog 138 #[.pointer (some ⟨nb, 0, none⟩), .pointer (some ⟨rb, 0, none⟩)] w fun e w' => e = .returned (.tuple #[.int .u64 n, .int .i64 0]) ∧ Rd w' p v bs (i + n) 0 ∧ Turn (fun k => k = p) w w' := by
  have hl := h.le
  go_enter Try.func138, Try.ntmps138
  go_wp2_with (go_at_call 132; refine (pass_good _ _ _ bs i n h hn).mono ?_; rintro e w' ⟨rfl, k1, k2⟩)
  go_ret2
  exact ⟨rfl, k1, k2⟩

set_option maxRecDepth 100000 in
set_option maxHeartbeats 1000000 in
theorem cnt105_neg (w : World) (p : Nat) (v : Value) (bs : List UInt8) (i : Nat) (rb mb : Nat) (m : Int) (h : Rd w p v bs i 0) (cr : w.cell? ⟨rb, 0, none⟩ = some (.pointer (some ⟨p, 0, none⟩))) (cm : w.cell? ⟨mb, 0, none⟩ = some (.int .i64 m)) (hm : m < 0) :
    Calls Try.prog 134 #[.pointer (some ⟨rb, 0, none⟩), .pointer (some ⟨mb, 0, none⟩)] w fun e w' => e = .returned (.tuple #[.int .u64 0, .int .i64 2]) ∧ Rd w' p v bs (i) 0 ∧ Turn (fun k => k = p) w w' := by
  have hl := h.le
  go_enter Try.func134, Try.ntmps134
  go_wp2_with (go_at_call 135; refine (head_neg _ _ _ bs i m h hm).mono ?_; rintro e w' ⟨rfl, k1, k2⟩)
  go_ret2
  exact ⟨rfl, k1, k2⟩

set_option maxRecDepth 100000 in
set_option maxHeartbeats 1000000 in
theorem cnt105_bad (w : World) (p : Nat) (v : Value) (bs : List UInt8) (i : Nat) (rb mb : Nat) (m er : Int) (h : Rd w p v bs i 0) (cr : w.cell? ⟨rb, 0, none⟩ = some (.pointer (some ⟨p, 0, none⟩))) (cm : w.cell? ⟨mb, 0, none⟩ = some (.int .i64 m)) (hm : 0 ≤ m) (her : (vsize 0 (bs.drop i)).2 = er) (h0 : (er != 0) = true) :
    Calls Try.prog 134 #[.pointer (some ⟨rb, 0, none⟩), .pointer (some ⟨mb, 0, none⟩)] w fun e w' => e = .returned (.tuple #[.int .u64 0, .int .i64 er]) ∧ Rd w' p v bs (i) 0 ∧ Turn (fun k => k = p) w w' := by
  have hl := h.le
  have hN := head_bad w p v bs i m er h hm her h0
  clear her
  go_enter Try.func134, Try.ntmps134
  go_wp2_with (go_at_call 135; refine hN.mono ?_; rintro e w' ⟨rfl, k1, k2⟩)
  go_ret2
  exact ⟨rfl, k1, k2⟩

set_option maxRecDepth 100000 in
set_option maxHeartbeats 1000000 in
theorem cnt105_over (w : World) (p : Nat) (v : Value) (bs : List UInt8) (i : Nat) (rb mb : Nat) (m : Int) (s : Nat) (hle : bs.length ≤ 140737488355328) (h : Rd w p v bs i 0) (cr : w.cell? ⟨rb, 0, none⟩ = some (.pointer (some ⟨p, 0, none⟩))) (cm : w.cell? ⟨mb, 0, none⟩ = some (.int .i64 m)) (hm : 0 ≤ m) (hmb : m < 9223372036854775808) (hs : vsize 0 (bs.drop i) = (s, 0)) (hx : m < (vsum (bs.drop i) s : Int)) :
    Calls Try.prog 134 #[.pointer (some ⟨rb, 0, none⟩), .pointer (some ⟨mb, 0, none⟩)] w fun e w' => e = .returned (.tuple #[.int .u64 0, .int .i64 12]) ∧ Rd w' p v bs (i + s) 0 ∧ Turn (fun k => k = p) w w' := by
  have hl := h.le
  have hN := head_var w p v bs i s m hle h hm hmb hs
  rw [if_pos hx] at hN
  clear hs hx
  go_enter Try.func134, Try.ntmps134
  go_wp2_with (go_at_call 135; refine hN.mono ?_; rintro e w' ⟨rfl, k1, k2⟩)
  go_ret2
  exact ⟨rfl, k1, k2⟩

set_option maxRecDepth 100000 in
set_option maxHeartbeats 1000000 in
theorem cnt105_cut (w : World) (p : Nat) (v : Value) (bs : List UInt8) (i : Nat) (rb mb : Nat) (m : Int) (s : Nat) (hle : bs.length ≤ 140737488355328) (h : Rd w p v bs i 0) (cr : w.cell? ⟨rb, 0, none⟩ = some (.pointer (some ⟨p, 0, none⟩))) (cm : w.cell? ⟨mb, 0, none⟩ = some (.int .i64 m)) (hrb : rb ≠ p) (hm : 0 ≤ m) (hmb : m < 9223372036854775808) (hs : vsize 0 (bs.drop i) = (s, 0)) (hx : ¬ m < (vsum (bs.drop i) s : Int)) (hc : bs.length - (i + s) < vsum (bs.drop i) s) :
    Calls Try.prog 134 #[.pointer (some ⟨rb, 0, none⟩), .pointer (some ⟨mb, 0, none⟩)] w fun e w' => e = .returned (.tuple #[.int .u64 0, .int .i64 10]) ∧ Rd w' p v bs (i + s) 0 ∧ Turn (fun k => k = p) w w' := by
  have hl := h.le
  have hN := head_var w p v bs i s m hle h hm hmb hs
  rw [if_neg hx] at hN
  clear hs hx
  generalize vsum (bs.drop i) s = x at *
  go_enter Try.func134, Try.ntmps134
  go_wp2_with fail
  refine hN.mono ?_
  rintro e w1 ⟨rfl, k1, k2⟩
  have cr1 := k2.keep cr hrb
  go_wp2_with (go_at_call 132; refine (pass_bad _ _ _ bs (i + s) x k1 hc).mono ?_; rintro e w' ⟨rfl, l1, l2⟩)
  go_ret2
  exact ⟨rfl, l1, k2.trans l2 (fun _ _ q => q)⟩

set_option maxRecDepth 100000 in
set_option maxHeartbeats 1000000 in
theorem cnt105_good (w : World) (p : Nat) (v : Value) (bs : List UInt8) (i : Nat) (rb mb : Nat) (m : Int) (s : Nat) (hle : bs.length ≤ 140737488355328) (h : Rd w p v bs i 0) (cr : w.cell? ⟨rb, 0, none⟩ = some (.pointer (some ⟨p, 0, none⟩))) (cm : w.cell? ⟨mb, 0, none⟩ = some (.int .i64 m)) (hrb : rb ≠ p) (hm : 0 ≤ m) (hmb : m < 9223372036854775808) (hs : vsize 0 (bs.drop i) = (s, 0)) (hx : ¬ m < (vsum (bs.drop i) s : Int)) (hc : vsum (bs.drop i) s ≤ bs.length - (i + s)) :
    Calls Try.prog 134 #[.pointer (some ⟨rb, 0, none⟩), .pointer (some ⟨mb, 0, none⟩)] w fun e w' => e = .returned (.tuple #[.int .u64 (vsum (bs.drop i) s), .int .i64 0]) ∧ Rd w' p v bs (i + s + vsum (bs.drop i) s) 0 ∧ Turn (fun k => k = p) w w' := by
  have hl := h.le
  have hN := head_var w p v bs i s m hle h hm hmb hs
  rw [if_neg hx] at hN
  clear hs hx
  generalize vsum (bs.drop i) s = x at *
  go_enter Try.func134, Try.ntmps134
  go_wp2_with fail
  refine hN.mono ?_
  rintro e w1 ⟨rfl, k1, k2⟩
  have cr1 := k2.keep cr hrb
  go_wp2_with (go_at_call 132; refine (pass_good _ _ _ bs (i + s) x k1 hc).mono ?_; rintro e w' ⟨rfl, l1, l2⟩)
  go_ret2
  exact ⟨rfl, l1, k2.trans l2 (fun _ _ q => q)⟩

end Go.Proofs.Ytpfjllkmaogafaa

