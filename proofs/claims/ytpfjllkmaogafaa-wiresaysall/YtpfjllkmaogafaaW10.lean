/- Walks: 'read' with the closures of Raw, Count, Bytes and Text; 'passed'. -/
import Derived.Test.YtpfjllkmaogafaaW8
import Derived.Deep.RegionHeld3
namespace Go.Proofs.Ytpfjllkmaogafaa
open Go.RowKit

set_option maxRecDepth 100000 in
set_option maxHeartbeats 1000000 in
theorem read_good87 (w : World) (p : Nat) (v : Value) (bs : List UInt8) (i i' : Nat) (caps : Array Value) (x : Int) (h : Rd w p v bs i 0)
    (hc : Calls Try.prog 138 caps w fun e w' => e = .returned (.tuple #[.int .u64 x, .int .i64 0]) ∧ Rd w' p v bs i' 0 ∧ Turn (fun k => k = p) w w') :
    Calls Try.prog 118 #[.pointer (some ⟨p, 0, none⟩), .func (.func 138) #[] caps] w fun e w' => e = .returned (.int .u64 x) ∧ Rd w' p v bs i' 0 ∧ Turn (fun k => k = p) w w' := by
  have c2 := h.c2
  have he := h.errs
  go_enter Try.func118, Try.ntmps118
  go_wp2_with fail
  refine (err_any _ _ _ he).mono ?_
  rintro e w' ⟨rfl, rfl⟩
  go_wp2_with fail
  refine hc.mono ?_
  rintro e w1 ⟨rfl, k1, k2⟩
  go_wp2_with fail
  go_ret
  exact ⟨rfl, k1, k2⟩

set_option maxRecDepth 100000 in
set_option maxHeartbeats 1000000 in
theorem read_bad87 (w : World) (p : Nat) (v : Value) (bs : List UInt8) (i i' : Nat) (caps : Array Value) (er : Int) (h : Rd w p v bs i 0) (h0 : (er != 0) = true)
    (hc : Calls Try.prog 138 caps w fun e w' => e = .returned (.tuple #[.int .u64 0, .int .i64 er]) ∧ Rd w' p v bs i' 0 ∧ Turn (fun k => k = p) w w') :
    Calls Try.prog 118 #[.pointer (some ⟨p, 0, none⟩), .func (.func 138) #[] caps] w fun e w' => e = .returned (.int .u64 0) ∧ Rd w' p v bs i er ∧ Turn (fun k => k = p) w w' := by
  have c2 := h.c2
  have he := h.errs
  go_enter Try.func118, Try.ntmps118
  go_wp2_with fail
  refine (err_any _ _ _ he).mono ?_
  rintro e w' ⟨rfl, rfl⟩
  go_wp2_with fail
  refine hc.mono ?_
  rintro e w1 ⟨rfl, k1, k2⟩
  have q2 := k1.c2
  have q3 := k1.c3
  have f2 := k1.f 2
  have f3 := k1.f 3
  go_wp2_with fail
  go_ret
  exact ⟨rfl, (k1.setAt i h.le).setErr er, k2.trans ((Turn.set1 _ _ _ _).trans (Turn.set1 _ _ _ _) (fun _ _ q => q)) (fun _ _ q => q)⟩

set_option maxRecDepth 100000 in
set_option maxHeartbeats 1000000 in
theorem read_good105 (w : World) (p : Nat) (v : Value) (bs : List UInt8) (i i' : Nat) (caps : Array Value) (x : Int) (h : Rd w p v bs i 0)
    (hc : Calls Try.prog 134 caps w fun e w' => e = .returned (.tuple #[.int .u64 x, .int .i64 0]) ∧ Rd w' p v bs i' 0 ∧ Turn (fun k => k = p) w w') :
    Calls Try.prog 118 #[.pointer (some ⟨p, 0, none⟩), .func (.func 134) #[] caps] w fun e w' => e = .returned (.int .u64 x) ∧ Rd w' p v bs i' 0 ∧ Turn (fun k => k = p) w w' := by
  have c2 := h.c2
  have he := h.errs
  go_enter Try.func118, Try.ntmps118
  go_wp2_with fail
  refine (err_any _ _ _ he).mono ?_
  rintro e w' ⟨rfl, rfl⟩
  go_wp2_with fail
  refine hc.mono ?_
  rintro e w1 ⟨rfl, k1, k2⟩
  go_wp2_with fail
  go_ret
  exact ⟨rfl, k1, k2⟩

set_option maxRecDepth 100000 in
set_option maxHeartbeats 1000000 in
theorem read_bad105 (w : World) (p : Nat) (v : Value) (bs : List UInt8) (i i' : Nat) (caps : Array Value) (er : Int) (h : Rd w p v bs i 0) (h0 : (er != 0) = true)
    (hc : Calls Try.prog 134 caps w fun e w' => e = .returned (.tuple #[.int .u64 0, .int .i64 er]) ∧ Rd w' p v bs i' 0 ∧ Turn (fun k => k = p) w w') :
    Calls Try.prog 118 #[.pointer (some ⟨p, 0, none⟩), .func (.func 134) #[] caps] w fun e w' => e = .returned (.int .u64 0) ∧ Rd w' p v bs i er ∧ Turn (fun k => k = p) w w' := by
  have c2 := h.c2
  have he := h.errs
  go_enter Try.func118, Try.ntmps118
  go_wp2_with fail
  refine (err_any _ _ _ he).mono ?_
  rintro e w' ⟨rfl, rfl⟩
  go_wp2_with fail
  refine hc.mono ?_
  rintro e w1 ⟨rfl, k1, k2⟩
  have q2 := k1.c2
  have q3 := k1.c3
  have f2 := k1.f 2
  have f3 := k1.f 3
  go_wp2_with fail
  go_ret
  exact ⟨rfl, (k1.setAt i h.le).setErr er, k2.trans ((Turn.set1 _ _ _ _).trans (Turn.set1 _ _ _ _) (fun _ _ q => q)) (fun _ _ q => q)⟩

set_option maxRecDepth 100000 in
set_option maxHeartbeats 1000000 in
theorem passed86_none (w : World) (p : Nat) (fv : Value) (R : World → Prop)
    (hc : Calls Try.prog 118 #[.pointer (some ⟨p, 0, none⟩), fv] w fun e w' => e = .returned (.int .u64 0) ∧ R w') :
    Calls Try.prog 137 #[.pointer (some ⟨p, 0, none⟩), fv] w fun e w' => e = .returned (.slice none 0 0) ∧ R w' := by
  go_enter Try.func137, Try.ntmps137
  go_wp2_with (go_at_call 118; refine hc.mono ?_; rintro e w' ⟨rfl, k1⟩)
  go_ret
  exact ⟨rfl, k1⟩

set_option maxRecDepth 100000 in
set_option maxHeartbeats 1000000 in
theorem passed104_none (w : World) (p : Nat) (fv : Value) (R : World → Prop)
    (hc : Calls Try.prog 118 #[.pointer (some ⟨p, 0, none⟩), fv] w fun e w' => e = .returned (.int .u64 0) ∧ R w') :
    Calls Try.prog 133 #[.pointer (some ⟨p, 0, none⟩), fv] w fun e w' => e = .returned (.string ⟨#[]⟩) ∧ R w' := by
  go_enter Try.func133, Try.ntmps133
  go_wp2_with (go_at_call 118; refine hc.mono ?_; rintro e w' ⟨rfl, k1⟩)
  go_ret
  exact ⟨rfl, k1⟩

set_option maxRecDepth 100000 in
set_option maxHeartbeats 2000000 in
theorem passed86_good (w : World) (p : Nat) (v : Value) (bs : List UInt8) (i n : Nat) (fv : Value) (hle : bs.length ≤ 140737488355328) (h0 : 0 < n) (hin : i + n ≤ bs.length)
    (hc : Calls Try.prog 118 #[.pointer (some ⟨p, 0, none⟩), fv] w fun e w' => e = .returned (.int .u64 n) ∧ Rd w' p v bs (i + n) 0 ∧ Turn (fun k => k = p) w w') :
    Calls Try.prog 137 #[.pointer (some ⟨p, 0, none⟩), fv] w fun e w' => ∃ v', e = .returned v' ∧ Own w' 5 v' (((bs.take (i + n)).drop i).map bv) ∧ (∀ g, v'.ownBlock = some g → w.heap.size ≤ g) ∧ Rd w' p v bs (i + n) 0 ∧ Turn (fun k => k = p) w w' := by
  have hn1 : (n : Int) ≤ 140737488355328 := by omega
  have hi1 : (i : Int) + (n : Int) ≤ 140737488355328 := by omega
  have hn2 : ((n : Int) == 0) = false := by simp; omega
  go_enter Try.func137, Try.ntmps137
  go_wp2_with fail
  refine hc.mono ?_
  rintro e w1 ⟨rfl, k1, k2⟩
  have c1 := k1.c1
  have c2 := k1.c2
  have ec : (((i + n : Nat)) : Int) = (i : Int) + (n : Int) := by omega
  rw [ec] at c2
  obtain ⟨v2, hsl, hb2, _⟩ := slice_between k1.own.bs i (i + n) (by omega) hin
  rw [ec] at hsl
  obtain ⟨ad, ln, cp, rfl⟩ := k1.own.form
  go_wp2_with fail
  have hw1 : IntKind.i64.wrap ((i : Int) + (n : Int) - (n : Int)) = (i : Int) := by rw [IntKind.wrap_i64]; omega
  have hw2 : IntKind.i64.wrap (i : Int) = (i : Int) := by rw [IntKind.wrap_i64]; omega
  go_region_held3 (fun w' => w'.cell? ⟨p, 1, none⟩ = some (.slice ad ln cp) ∧ w'.cell? ⟨p, 2, none⟩ = some (.int .i64 ((i : Int) + (n : Int)))) (go_keep)
    (first | (go_at_call 128; refine (clone_any _ _ _ (hb2.turn_no ((Turn.refl no w1).drew)) (by simp; omega)).mono ?_; rintro e w2 ⟨v3, rfl, j1, j2, j3⟩; have q1 := j3.keep (p := ⟨p, 1, none⟩) c1 (fun q => q); have q2 := j3.keep (p := ⟨p, 2, none⟩) c2 (fun q => q); obtain ⟨ad3, ln3, cp3, rfl⟩ := j1.form))
  have T2 : Turn no w1 w2 := ((Turn.refl no w1).drew).then_no j3
  have hs1 := k2.size
  go_wp2_with fail
  go_ret
  exact ⟨_, rfl, j1, fun g q => by have := j2 g q; simp at this; omega, k1.turn_no T2, k2.then_no T2⟩

set_option maxRecDepth 100000 in
set_option maxHeartbeats 2000000 in
theorem passed104_good (w : World) (p : Nat) (v : Value) (bs : List UInt8) (i n : Nat) (fv : Value) (hle : bs.length ≤ 140737488355328) (h0 : 0 < n) (hin : i + n ≤ bs.length)
    (hc : Calls Try.prog 118 #[.pointer (some ⟨p, 0, none⟩), fv] w fun e w' => e = .returned (.int .u64 n) ∧ Rd w' p v bs (i + n) 0 ∧ Turn (fun k => k = p) w w') :
    Calls Try.prog 133 #[.pointer (some ⟨p, 0, none⟩), fv] w fun e w' => e = .returned (.string ⟨((bs.take (i + n)).drop i).toArray⟩) ∧ Rd w' p v bs (i + n) 0 ∧ Turn (fun k => k = p) w w' := by
  have hn1 : (n : Int) ≤ 140737488355328 := by omega
  have hi1 : (i : Int) + (n : Int) ≤ 140737488355328 := by omega
  have hn2 : ((n : Int) == 0) = false := by simp; omega
  go_enter Try.func133, Try.ntmps133
  go_wp2_with fail
  refine hc.mono ?_
  rintro e w1 ⟨rfl, k1, k2⟩
  have c1 := k1.c1
  have c2 := k1.c2
  have ec : (((i + n : Nat)) : Int) = (i : Int) + (n : Int) := by omega
  rw [ec] at c2
  obtain ⟨v2, hsl, hb2, _⟩ := slice_between k1.own.bs i (i + n) (by omega) hin
  rw [ec] at hsl
  obtain ⟨ad, ln, cp, rfl⟩ := k1.own.form
  go_wp2_with fail
  have hw1 : IntKind.i64.wrap ((i : Int) + (n : Int) - (n : Int)) = (i : Int) := by rw [IntKind.wrap_i64]; omega
  have hw2 : IntKind.i64.wrap (i : Int) = (i : Int) := by rw [IntKind.wrap_i64]; omega
  go_region_held (fun w' => w'.cell? ⟨p, 1, none⟩ = some (.slice ad ln cp) ∧ w'.cell? ⟨p, 2, none⟩ = some (.int .i64 ((i : Int) + (n : Int)))) (go_keep)
    (first | (go_at_call 128; refine (clone_any _ _ _ (hb2.turn_no ((Turn.refl no w1).drew)) (by simp; omega)).mono ?_; rintro e w2 ⟨v3, rfl, j1, j2, j3⟩; have q1 := j3.keep (p := ⟨p, 1, none⟩) c1 (fun q => q); have q2 := j3.keep (p := ⟨p, 2, none⟩) c2 (fun q => q); have hcv := bytes_text j1.bs; obtain ⟨ad3, ln3, cp3, rfl⟩ := j1.form))
  have T2 : Turn no w1 w2 := ((Turn.refl no w1).drew).then_no j3
  have hs1 := k2.size
  go_wp2_with fail
  go_ret
  exact ⟨rfl, k1.turn_no T2, k2.then_no T2⟩

end Go.Proofs.Ytpfjllkmaogafaa

