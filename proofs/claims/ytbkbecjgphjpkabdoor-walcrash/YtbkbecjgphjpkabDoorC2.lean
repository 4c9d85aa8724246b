/- Walks: a Reader, its U32. -/
import Derived.Test.YtbkbecjgphjpkabDoorC1
namespace Go.Proofs.YtbkbecjgphjpkabDoor
open Go.RowKit
set_option linter.unusedVariables false
attribute [local go_sem] eql95_same eql95_nil

/-- A Reader that NewReader made: its bytes, its place, its error. -/
structure Rd (w : World) (p : Nat) (v : Value) (bs : List UInt8) (i : Nat) (e : Int) : Prop where
  blk : w.heap[p]? = some (.cells #[.pointer (some ⟨p, 0, none⟩), v, .int .i64 i, .int .i64 e] 125 (0, 0))
  own : Own w 5 v (bs.map bv)
  ne : ∀ g, v.ownBlock = some g → g ≠ p
  le : i ≤ bs.length

section
variable {w : World} {p : Nat} {v : Value} {bs : List UInt8} {i : Nat} {e : Int}
theorem Rd.c0 (h : Rd w p v bs i e) : w.cell? ⟨p, 0, none⟩ = some (.pointer (some ⟨p, 0, none⟩)) := by rw [cell_of_row w p 0 _ 125 (0, 0) h.blk]; rfl

theorem Rd.c1 (h : Rd w p v bs i e) : w.cell? ⟨p, 1, none⟩ = some v := by rw [cell_of_row w p 1 _ 125 (0, 0) h.blk]; rfl

theorem Rd.c2 (h : Rd w p v bs i e) : w.cell? ⟨p, 2, none⟩ = some (.int .i64 i) := by rw [cell_of_row w p 2 _ 125 (0, 0) h.blk]; rfl

theorem Rd.c3 (h : Rd w p v bs i e) : w.cell? ⟨p, 3, none⟩ = some (.int .i64 e) := by rw [cell_of_row w p 3 _ 125 (0, 0) h.blk]; rfl

theorem Rd.f (h : Rd w p v bs i e) (j : Nat) : w.frozen? ⟨p, j, none⟩ = false := frozen_of_row w p j _ 125 h.blk

theorem Rd.errs (h : Rd w p v bs i e) : Errs w (.pointer (some ⟨p, 0, none⟩)) e := Or.inr (Or.inr ⟨p, rfl, h.c0, h.c3⟩)

theorem Rd.lt (h : Rd w p v bs i e) : p < w.heap.size := lt_of_obj h.blk

theorem Rd.turn {S : Nat → Prop} {w' : World} (h : Rd w p v bs i e) (ht : Turn S w w') (hn : ∀ k, wfoot p v k → ¬ S k) : Rd w' p v bs i e :=
  ⟨ht.obj h.blk (hn p (Or.inl rfl)), h.own.turn ht (fun g hg => hn g (Or.inr hg)), h.ne, h.le⟩

theorem Rd.turn_no {w' : World} (h : Rd w p v bs i e) (ht : Turn no w w') : Rd w' p v bs i e := h.turn ht (fun _ _ q => q)

theorem Rd.setAt (h : Rd w p v bs i e) (j : Nat) (hj : j ≤ bs.length) : Rd (w.setCell ⟨p, 2, none⟩ (.int .i64 j)) p v bs j e := by
  refine ⟨?_, h.own.turn (S := fun k => k = p) ((Turn.refl (fun k => k = p) w).setCell (p := ⟨p, 2, none⟩) (fun _ => rfl) _) (fun g q => h.ne g q), h.ne, hj⟩
  have := cells_set 2 (.int .i64 j) h.blk
  simpa using this

theorem Rd.setErr (h : Rd w p v bs i e) (e' : Int) : Rd (w.setCell ⟨p, 3, none⟩ (.int .i64 e')) p v bs i e' := by
  refine ⟨?_, h.own.turn (S := fun k => k = p) ((Turn.refl (fun k => k = p) w).setCell (p := ⟨p, 3, none⟩) (fun _ => rfl) _) (fun g q => h.ne g q), h.ne, h.le⟩
  have := cells_set 3 (.int .i64 e') h.blk
  simpa using this
end

set_option maxRecDepth 100000 in
set_option maxHeartbeats 1000000 in
theorem newReader_any (w : World) (v : Value) (bs : List UInt8) (hb : Bs w v bs) (hle : bs.length ≤ 140737488355328) :
    Calls Tryd.prog 65 #[v] w fun e w' => ∃ p v', e = .returned (.pointer (some ⟨p, 0, none⟩)) ∧ Rd w' p v' bs 0 0 ∧ (∀ k, wfoot p v' k → w.heap.size ≤ k) ∧ Turn no w w' := by
  go_enter Tryd.func65, Tryd.ntmps65
  go_wp2_with (go_at_call 69; refine (clone_any _ _ bs hb hle).mono ?_; rintro e w1 ⟨v', rfl, k1, k2, k3⟩; obtain ⟨ad', ln', cp', rfl⟩ := k1.form)
  go_ret
  have hT := (k3.alloc (.cells #[.pointer (some ⟨w1.heap.size, 0, none⟩), .slice ad' ln' cp', .int .i64 0, .int .i64 0] 125))
  refine ⟨_, _, rfl, ⟨heap_alloc_new w1 _, k1.turn_no ((Turn.refl _ _).alloc _), fun g q => ?_, Nat.zero_le _⟩, fun k q => ?_, hT⟩
  · have := k1.lt q; omega
  · rcases q with q | q
    · have := k3.size; omega
    · exact k2 k q

theorem Turn.set1 (w : World) (p j : Nat) (u : Value) : Turn (fun k => k = p) w (w.setCell ⟨p, j, none⟩ u) := (Turn.refl (fun k => k = p) w).setCell (p := ⟨p, j, none⟩) (fun _ => rfl) u

theorem getD_drop (bs : List UInt8) (i k : Nat) : (bs.drop i).getD k 0 = bs[i + k]?.getD 0 := by
  simp [List.getD_eq_getElem?_getD, List.getElem?_drop]

theorem Rd.drewN {w : World} {p : Nat} {v : Value} {bs : List UInt8} {i : Nat} {e : Int} (h : Rd w p v bs i e) (n : Nat) : Rd (w.drewN n) p v bs i e := h.turn_no ((Turn.refl _ _).drewN n)

set_option maxRecDepth 100000 in
set_option maxHeartbeats 400000 in
theorem left94 (w : World) (p : Nat) (v : Value) (bs : List UInt8) (i : Nat) (e0 : Int) (h : Rd w p v bs i e0) :
    Calls Tryd.prog 97 #[.pointer (some ⟨p, 0, none⟩)] w fun e w' => e = .returned (.int .u64 ((bs.length - i : Nat) : Int)) ∧ ∃ n, w' = w.drewN n := by
  obtain ⟨ad, cp, rfl⟩ := h.own.bs.slice
  have hl := h.own.bs.le
  have hi := h.le
  unfold maxLen at hl
  have c1 := h.c1
  have c2 := h.c2
  have ec : ((bs.length - i : Nat) : Int) = (bs.length : Int) - (i : Int) := by omega
  rw [ec]
  have hge : (0 : Int) ≤ (bs.length : Int) - (i : Int) := by omega
  go_enter Tryd.func97, Tryd.ntmps97
  go_wp2
  go_quiet (fail)
  go_wp2
  go_ret
  exact ⟨rfl, nq, rfl⟩

set_option maxRecDepth 100000 in
set_option maxHeartbeats 400000 in
theorem pass_bad (w : World) (p : Nat) (v : Value) (bs : List UInt8) (i n : Nat) (h : Rd w p v bs i 0) (hn : bs.length - i < n) :
    Calls Tryd.prog 89 #[.pointer (some ⟨p, 0, none⟩), .int .u64 n] w fun e w' => e = .returned (.tuple #[.int .u64 0, .int .i64 10]) ∧ Rd w' p v bs i 0 ∧ Turn (fun k => k = p) w w' := by
  have hn' : ((bs.length - i : Nat) : Int) < (n : Int) := by omega
  go_enter Tryd.func89, Tryd.ntmps89
  go_wp2_with (go_at_call 97; refine (left94 _ _ _ bs i 0 h).mono ?_; rintro e w' ⟨rfl, m, rfl⟩)
  go_ret2
  exact ⟨rfl, h.drewN m, (Turn.refl _ _).drewN m⟩

set_option maxRecDepth 100000 in
set_option maxHeartbeats 400000 in
theorem pass_good (w : World) (p : Nat) (v : Value) (bs : List UInt8) (i n : Nat) (h : Rd w p v bs i 0) (hn : n ≤ bs.length - i) :
    Calls Tryd.prog 89 #[.pointer (some ⟨p, 0, none⟩), .int .u64 n] w fun e w' => e = .returned (.tuple #[.int .u64 n, .int .i64 0]) ∧ Rd w' p v bs (i + n) 0 ∧ Turn (fun k => k = p) w w' := by
  have hl := h.own.bs.le
  have hi := h.le
  unfold maxLen at hl
  have hn' : ¬ ((bs.length - i : Nat) : Int) < (n : Int) := by omega
  have hb1 : (n : Int) ≤ 9223372036854775807 := by omega
  have hb2 : (i : Int) + (n : Int) ≤ 9223372036854775807 := by omega
  have c2 := h.c2
  have f2 := h.f 2
  go_enter Tryd.func89, Tryd.ntmps89
  go_wp2_with (go_at_call 97; refine (left94 _ _ _ bs i 0 h).mono ?_; rintro e w' ⟨rfl, m, rfl⟩)
  go_ret2
  have hA := (h.drewN m).setAt (i + n) (by omega)
  have ec : (((i + n : Nat)) : Int) = (i : Int) + (n : Int) := by omega
  rw [ec] at hA
  exact ⟨rfl, hA, ((Turn.refl _ w).drewN m).trans (Turn.set1 _ _ _ _) (fun _ _ q => q)⟩

/-- The number in the first k bytes, the lowest first. -/
def lsum (l : List UInt8) : Nat → Nat
  | 0 => 0
  | k + 1 => lsum l k + (l.getD k 0).toNat * 256 ^ k

theorem lsum_lt (l : List UInt8) : ∀ k, lsum l k < 256 ^ k
  | 0 => by simp [lsum]
  | k + 1 => by
    have h := lsum_lt l k
    rw [lsum, Nat.pow_succ]
    have h2 : (l.getD k 0).toNat * 256 ^ k ≤ 255 * 256 ^ k := Nat.mul_le_mul_right _ (by have := UInt8.toNat_lt (l.getD k 0); omega)
    omega

theorem lsum_succ (bs : List UInt8) (i k : Nat) : lsum (bs.drop i) (k + 1) = lsum (bs.drop i) k + (bs[i + k]?.getD 0).toNat * 256 ^ k := by
  rw [lsum, getD_drop]

theorem or_byte (V c k : Nat) (hV : V < 256 ^ k) (hk : k < 8) (hc : c < 256) :
    bits .or .u64 (V : Int) (IntKind.u64.wrap (IntKind.u64.wrap (c : Int) * 2 ^ (8 * k))) = ((V + c * 256 ^ k : Nat) : Int) := by
  have e4 : IntKind.u64.wrap (c : Int) = (c : Int) := by rw [IntKind.wrap_u64]; omega
  rw [e4]
  have e2 : (2 : Int) ^ (8 * k) = ((256 ^ k : Nat) : Int) := by
    rw [Int.pow_mul]
    simp
  have hp : 256 ^ k ≤ 256 ^ 7 := Nat.pow_le_pow_right (by omega) (by omega)
  have hm : c * 256 ^ k ≤ 255 * 256 ^ 7 := Nat.mul_le_mul (by omega) hp
  have hVb : V < 18446744073709551616 := by omega
  rw [e2, ← Int.natCast_mul, IntKind.wrap_u64]
  have e5 : ((c * 256 ^ k : Nat) : Int) % 18446744073709551616 = ((c * 256 ^ k : Nat) : Int) := by omega
  rw [e5, bits_or_u64_nat _ _ hVb (by omega)]
  have e6 : V ||| c * 256 ^ k = V + c * 256 ^ k := by
    have e7 : (256 : Nat) ^ k = 2 ^ (8 * k) := by rw [Nat.pow_mul]
    rw [e7] at hV ⊢
    rw [Nat.or_comm, Nat.mul_comm, ← Nat.two_pow_add_eq_or_of_lt hV, Nat.add_comm]
  rw [e6]

set_option maxRecDepth 100000 in
set_option maxHeartbeats 400000 in
theorem fixed_bad (w : World) (p : Nat) (v : Value) (bs : List UInt8) (i n : Nat) (h : Rd w p v bs i 0) (hn : bs.length - i < n) (h8 : n ≤ 8) :
    Calls Tryd.prog 76 #[.pointer (some ⟨p, 0, none⟩), .int .i64 n] w fun e w' => e = .returned (.tuple #[.int .u64 0, .int .i64 10]) ∧ Rd w' p v bs i 0 ∧ Turn (fun k => k = p) w w' := by
  have c2 := h.c2
  have hb1 : (n : Int) ≤ 8 := by omega
  go_enter Tryd.func76, Tryd.ntmps76
  go_wp2_with (go_at_call 89; refine (pass_bad _ _ _ bs i n h hn).mono ?_; rintro e w' ⟨rfl, k1, k2⟩)
  go_ret2
  exact ⟨rfl, k1, k2⟩

set_option maxRecDepth 100000 in
set_option maxHeartbeats 1000000 in
theorem fixed_good (w : World) (p : Nat) (v : Value) (bs : List UInt8) (i n : Nat) (h : Rd w p v bs i 0) (hn : n ≤ bs.length - i) (h0 : 0 < n) (h8 : n ≤ 8) :
    Calls Tryd.prog 76 #[.pointer (some ⟨p, 0, none⟩), .int .i64 n] w fun e w' => e = .returned (.tuple #[.int .u64 (lsum (bs.drop i) n), .int .i64 0]) ∧ Rd w' p v bs (i + n) 0 ∧ Turn (fun k => k = p) w w' := by
  have c2 := h.c2
  have hl := h.own.bs.le
  have hi := h.le
  unfold maxLen at hl
  have hb1 : (n : Int) ≤ 8 := by omega
  go_enter Tryd.func76, Tryd.ntmps76
  go_wp2_with fail
  refine (pass_good _ _ _ bs i n h hn).mono ?_
  rintro e w1 ⟨rfl, k1, k2⟩
  have c1 := k1.c1
  obtain ⟨b, off, cap, rfl, _, hca⟩ := k1.own.bs.at (by omega)
  clear c2
  go_wp2
  go_loop [9, 26] (fun t c => ∃ k : Nat, k ≤ n ∧ c = .int .i64 k ∧ t = .int .u64 (lsum (bs.drop i) k)) (fun _ c => n - (intOf c).toNat)
  case atStart => exact ⟨0, Nat.zero_le _, rfl, rfl⟩
  case round =>
    obtain ⟨k, hk, rfl, rfl⟩ := hrel
    by_cases hlt : k < n
    · have g := hca (i + k) (by omega)
      have hlt' : (k : Int) < (n : Int) := by omega
      clear hca
      go_wp2
      go_round
      case rel => exact ⟨k + 1, by omega, by go_num, by rw [lsum_succ, or_byte _ _ k (lsum_lt _ _) (by omega) (UInt8.toNat_lt _)]⟩
      case measure => simp [intOf]; omega
    · have hlt' : ¬ (k : Int) < (n : Int) := by omega
      have hks : k = n := by omega
      subst hks
      go_wp2
      go_ret2
      exact ⟨rfl, k1, k2⟩

set_option maxRecDepth 100000 in
set_option maxHeartbeats 1000000 in
theorem u32_good (w : World) (p : Nat) (v : Value) (bs : List UInt8) (i : Nat)  (h : Rd w p v bs i 0) (hn : 4 ≤ bs.length - i) :
    Calls Tryd.prog 66 #[.pointer (some ⟨p, 0, none⟩)] w fun e w' => e = .returned (.int .u32 (lsum (bs.drop i) 4)) ∧ Rd w' p v bs (i + 4) 0 ∧ Turn (fun k => k = p) w w' := by
  have hlt := h.lt
  have hW := h.turn_no ((Turn.refl no w).alloc (.cells #[.pointer (some ⟨p, 0, none⟩)] 111))
  have c2 := h.c2
  have hl1 := lsum_lt (bs.drop i) 4
  have hl2 : ((lsum (bs.drop i) 4 : Nat) : Int) < 4294967296 := by omega
  go_enter Tryd.func66, Tryd.ntmps66
  go_wp2_with (first | (go_at_call 88; refine (err_any _ _ _ hW.errs).mono ?_; rintro e w' ⟨rfl, rfl⟩) | (go_at_call 76; refine (fixed_good _ _ _ bs i 4 hW hn (by omega) (by omega)).mono ?_; rintro e w' ⟨rfl, k1, k2⟩) | go_in)
  go_ret
  exact ⟨rfl, k1, ((Turn.refl _ w).alloc _).trans k2 (fun _ _ q => q)⟩

set_option maxRecDepth 100000 in
set_option maxHeartbeats 1000000 in
theorem u32_bad (w : World) (p : Nat) (v : Value) (bs : List UInt8) (i : Nat)  (h : Rd w p v bs i 0) (hn : bs.length - i < 4) :
    Calls Tryd.prog 66 #[.pointer (some ⟨p, 0, none⟩)] w fun e w' => e = .returned (.int .u32 0) ∧ Rd w' p v bs i 10 ∧ Turn (fun k => k = p) w w' := by
  have hlt := h.lt
  have hW := h.turn_no ((Turn.refl no w).alloc (.cells #[.pointer (some ⟨p, 0, none⟩)] 111))
  have c2 := h.c2
  go_enter Tryd.func66, Tryd.ntmps66
  go_wp2_with (first | (go_at_call 88; refine (err_any _ _ _ hW.errs).mono ?_; rintro e w' ⟨rfl, rfl⟩) | (go_at_call 76; refine (fixed_bad _ _ _ bs i 4 hW hn (by omega)).mono ?_; rintro e w' ⟨rfl, k1, k2⟩; have q2 := k1.c2; have q3 := k1.c3; have f2 := k1.f 2; have f3 := k1.f 3) | go_in)
  go_ret
  exact ⟨rfl, (k1.setAt i h.le).setErr 10, (((Turn.refl _ w).alloc _).trans k2 (fun _ _ q => q)).trans ((Turn.set1 _ _ _ _).trans (Turn.set1 _ _ _ _) (fun _ _ q => q)) (fun _ _ q => q)⟩
end Go.Proofs.YtbkbecjgphjpkabDoor
