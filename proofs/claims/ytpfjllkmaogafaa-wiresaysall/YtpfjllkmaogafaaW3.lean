/- Walks: a Reader, its Var. -/
import Derived.Test.YtpfjllkmaogafaaW2
namespace Go.Proofs.Ytpfjllkmaogafaa
open Go.RowKit
attribute [local go_sem] eql40_same eql40_nil

/-- A Reader that NewReader made: its bytes, its place, its error. -/
structure Rd (w : World) (p : Nat) (v : Value) (bs : List UInt8) (i : Nat) (e : Int) : Prop where
  blk : w.heap[p]? = some (.cells #[.pointer (some ⟨p, 0, none⟩), v, .int .i64 i, .int .i64 e] 171 (0, 0))
  own : Own w 5 v (bs.map bv)
  ne : ∀ g, v.ownBlock = some g → g ≠ p
  le : i ≤ bs.length

section
variable {w : World} {p : Nat} {v : Value} {bs : List UInt8} {i : Nat} {e : Int}
theorem Rd.c0 (h : Rd w p v bs i e) : w.cell? ⟨p, 0, none⟩ = some (.pointer (some ⟨p, 0, none⟩)) := by rw [cell_of_row w p 0 _ 171 (0, 0) h.blk]; rfl
theorem Rd.c1 (h : Rd w p v bs i e) : w.cell? ⟨p, 1, none⟩ = some v := by rw [cell_of_row w p 1 _ 171 (0, 0) h.blk]; rfl
theorem Rd.c2 (h : Rd w p v bs i e) : w.cell? ⟨p, 2, none⟩ = some (.int .i64 i) := by rw [cell_of_row w p 2 _ 171 (0, 0) h.blk]; rfl
theorem Rd.c3 (h : Rd w p v bs i e) : w.cell? ⟨p, 3, none⟩ = some (.int .i64 e) := by rw [cell_of_row w p 3 _ 171 (0, 0) h.blk]; rfl
theorem Rd.f (h : Rd w p v bs i e) (j : Nat) : w.frozen? ⟨p, j, none⟩ = false := frozen_of_row w p j _ 171 h.blk
theorem Rd.errs (h : Rd w p v bs i e) : Errs w (.pointer (some ⟨p, 0, none⟩)) e := Or.inr (Or.inr ⟨p, rfl, h.c0, h.c3⟩)
theorem Rd.lt (h : Rd w p v bs i e) : p < w.heap.size := lt_of_obj h.blk

theorem Rd.turn {S : Nat → Prop} {w' : World} (h : Rd w p v bs i e) (ht : Turn S w w') (hn : ∀ k, wfoot p v k → ¬ S k) : Rd w' p v bs i e :=
  ⟨ht.obj h.blk (hn p (Or.inl rfl)), h.own.turn ht (fun g hg => hn g (Or.inr hg)), h.ne, h.le⟩
theorem Rd.turn_no {w' : World} (h : Rd w p v bs i e) (ht : Turn no w w') : Rd w' p v bs i e := h.turn ht (fun _ _ q => q)

theorem Rd.setAt (h : Rd w p v bs i e) (j : Nat) (hj : j ≤ bs.length) : Rd (w.setCell ⟨p, 2, none⟩ (.int .i64 j)) p v bs j e := by
  refine ⟨?_, h.own.turn (S := fun k => k = p) ((Turn.refl (fun k => k = p) w).setCell (p := ⟨p, 2, none⟩) (fun _ => rfl) _) (fun g q => h.ne g q), h.ne, hj⟩
  have := cells_set 2 (.int .i64 j) h.blk
  simpa using this

theorem Rd.setErr (h : Rd w p v bs i e) (e' : Int) : Rd (w.setCell ⟨p, 3, none⟩ (.int .i64 e')) p v bs i e' := by
  refine ⟨?_, h.own.turn (S := fun k => k = p) ((Turn.refl (fun k => k = p) w).setCell (p := ⟨p, 3, none⟩) (fun _ => rfl) _) (fun g q => h.ne g q), h.ne, h.le⟩
  have := cells_set 3 (.int .i64 e') h.blk
  simpa using this
end

set_option maxRecDepth 100000 in
set_option maxHeartbeats 1000000 in
theorem newReader_any (w : World) (v : Value) (bs : List UInt8) (hb : Bs w v bs) (hle : bs.length ≤ 140737488355328) :
    Calls Try.prog 116 #[v] w fun e w' => ∃ p v', e = .returned (.pointer (some ⟨p, 0, none⟩)) ∧ Rd w' p v' bs 0 0 ∧ (∀ k, wfoot p v' k → w.heap.size ≤ k) ∧ Turn no w w' := by
  go_enter Try.func116, Try.ntmps116
  go_wp2_with (go_at_call 128; refine (clone_any _ _ bs hb hle).mono ?_; rintro e w1 ⟨v', rfl, k1, k2, k3⟩; obtain ⟨ad', ln', cp', rfl⟩ := k1.form)
  go_ret
  have hT := (k3.alloc (.cells #[.pointer (some ⟨w1.heap.size, 0, none⟩), .slice ad' ln' cp', .int .i64 0, .int .i64 0] 171))
  refine ⟨_, _, rfl, ⟨heap_alloc_new w1 _, k1.turn_no ((Turn.refl _ _).alloc _), fun g q => ?_, Nat.zero_le _⟩, fun k q => ?_, hT⟩
  · have := k1.lt q; omega
  · rcases q with q | q
    · have := k3.size; omega
    · exact k2 k q

/-- How many bytes a Var has, from number k on; and the error. -/
def vsize : Nat → List UInt8 → Nat × Int
  | _, [] => (0, 10)
  | k, c :: r => if k = 9 ∧ 1 < c.toNat then (0, 11) else if 0 < k ∧ c.toNat = 0 then (0, 11) else if c.toNat < 128 then (k + 1, 0) else vsize (k + 1) r

theorem vsize_at {bs : List UInt8} {k : Nat} (hk : k < bs.length) {r : Nat × Int} (h : vsize k (bs.drop k) = r) :
    r = if k = 9 ∧ 1 < bs[k].toNat then (0, 11) else if 0 < k ∧ bs[k].toNat = 0 then (0, 11) else if bs[k].toNat < 128 then (k + 1, 0) else vsize (k + 1) (bs.drop (k + 1)) := by
  rw [← h, List.drop_eq_getElem_cons hk]
  rfl

theorem vsize_end {bs : List UInt8} {k : Nat} (hk : ¬ k < bs.length) {r : Nat × Int} (h : vsize k (bs.drop k) = r) : r = (0, 10) := by
  rw [← h, List.drop_eq_nil_of_le (by omega)]
  rfl

theorem nz_of {c : Nat} (h : ((c : Int) == 0) = false) : c ≠ 0 := by intro q; subst q; simp at h
theorem z_of {c : Nat} (h : ((c : Int) == 0) = true) : c = 0 := by simpa using h

set_option maxRecDepth 100000 in
set_option maxHeartbeats 1000000 in
theorem varSize_any (w : World) (v : Value) (bs : List UInt8) (hb : Bs w v bs) :
    Calls Try.prog 136 #[v] w fun e w' => e = .returned (.tuple #[.int .i64 (vsize 0 bs).1, .int .i64 (vsize 0 bs).2]) ∧ w = w' := by
  have hl := hb.le
  unfold maxLen at hl
  by_cases h0 : bs.length = 0
  · obtain ⟨a, c, rfl⟩ := hb.slice
    have e1 : bs = [] := List.eq_nil_of_length_eq_zero h0
    subst e1
    clear hb
    go_enter Try.func136, Try.ntmps136
    go_wp2
    go_step3
    go_wp2
    go_step3
    go_wp2
    go_loop [4] (fun i => i = .int .i64 0) (fun _ => 0)
    case atStart => rfl
    case round =>
      subst hrel
      go_wp2
      go_ret2
      exact ⟨rfl, rfl⟩
  · obtain ⟨b, off, cap, rfl, _, hca⟩ := hb.at (by omega)
    clear hb
    go_enter Try.func136, Try.ntmps136
    go_wp2
    go_step3
    go_wp2
    go_step3
    go_wp2
    go_loop [4] (fun i => ∃ k : Nat, k ≤ bs.length ∧ i = .int .i64 k ∧ vsize k (bs.drop k) = vsize 0 bs) (fun i => bs.length - (intOf i).toNat)
    case atStart => exact ⟨0, Nat.zero_le _, rfl, rfl⟩
    case round =>
      obtain ⟨k, hk, rfl, hv⟩ := hrel
      have HV : Hid (vsize k (bs.drop k) = vsize 0 bs) := hv
      clear hv
      by_cases hlt : k < bs.length
      · have g := hca k hlt
        have hv := vsize_at hlt HV.out
        have HW : Hid (vsize 0 bs = if k = 9 ∧ 1 < bs[k].toNat then (0, 11) else if 0 < k ∧ bs[k].toNat = 0 then (0, 11) else if bs[k].toNat < 128 then (k + 1, 0) else vsize (k + 1) (bs.drop (k + 1))) := hv
        clear hv
        have hne : ((k : Int) == (bs.length : Int)) = false := by simp; omega
        by_cases h9 : k = 9
        · subst h9
          go_wp2
          · go_ret2
            have h1 : (1 : Int) < (bs[9].toNat : Int) := by assumption
            rw [HW.out, if_pos (by simp; omega)]
            exact ⟨rfl, rfl⟩
          · go_ret2
            have h1 : (bs[9].toNat : Int) ≤ 1 := by assumption
            have h2 : ((bs[9].toNat : Int) == 0) = true := by assumption
            have h3 := z_of h2
            rw [HW.out, if_neg (by simp; omega), if_pos ⟨by omega, h3⟩]
            exact ⟨rfl, rfl⟩
          · go_ret2
            have h1 : (bs[9].toNat : Int) ≤ 1 := by assumption
            have h2 : ((bs[9].toNat : Int) == 0) = false := by assumption
            have h3 := nz_of h2
            rw [HW.out, if_neg (by simp; omega), if_neg (by omega), if_pos (by omega)]
            exact ⟨rfl, rfl⟩
        · have h9' : ((k : Int) == 9) = false := by simp; omega
          by_cases h0 : 0 < k
          · have h0' : (0 : Int) < (k : Int) := by omega
            go_wp2
            · go_ret2
              have h2 : ((bs[k].toNat : Int) == 0) = true := by assumption
              rw [HW.out, if_neg (by omega), if_pos ⟨h0, z_of h2⟩]
              exact ⟨rfl, rfl⟩
            · go_ret2
              have h2 : ((bs[k].toNat : Int) == 0) = false := by assumption
              have h3 := nz_of h2
              have h4 : (bs[k].toNat : Int) < 128 := by assumption
              rw [HW.out, if_neg (by omega), if_neg (by omega), if_pos (by omega)]
              exact ⟨rfl, rfl⟩
            · have h2 : ((bs[k].toNat : Int) == 0) = false := by assumption
              have h3 := nz_of h2
              have h4 : 128 ≤ (bs[k].toNat : Int) := by assumption
              go_round
              case rel => exact ⟨k + 1, by omega, by go_num, by rw [HW.out, if_neg (by omega), if_neg (by omega), if_neg (by omega)]⟩
              case measure => simp [intOf]; omega
          · have h0' : ¬ (0 : Int) < (k : Int) := by omega
            go_wp2
            · go_ret2
              have h4 : (bs[k].toNat : Int) < 128 := by assumption
              rw [HW.out, if_neg (by omega), if_neg (by omega), if_pos (by omega)]
              exact ⟨rfl, rfl⟩
            · have h4 : 128 ≤ (bs[k].toNat : Int) := by assumption
              go_round
              case rel => exact ⟨k + 1, by omega, by go_num, by rw [HW.out, if_neg (by omega), if_neg (by omega), if_neg (by omega)]⟩
              case measure => simp [intOf]; omega
      · have hne : ((k : Int) == (bs.length : Int)) = true := by simp; omega
        go_wp2
        go_ret2
        rw [vsize_end hlt HV.out]
        exact ⟨rfl, rfl⟩

theorem add_add (a : Addr) (l j : Nat) (h : 0 < l ∨ a.spot = none) : (a.add l).add j = a.add (l + j) := by
  obtain ⟨b, o, s⟩ := a
  unfold Addr.add
  by_cases hl : l = 0
  · subst hl; simp
  · by_cases hj : j = 0
    · subst hj; simp [hl]
    · simp [hl, hj, Nat.add_assoc]

theorem add_block (a : Addr) (l : Nat) : (a.add l).block = a.block := by unfold Addr.add; split <;> rfl

/-- A piece of a slice of bytes: the value, and what it holds. -/
theorem piece {w : World} {a : Addr} {c : Nat} {bs : List UInt8} (h1 : bs.length ≤ c) (h2 : c ≤ maxLen) (h3 : ∀ j u, bs[j]? = some u → w.cell? (a.add j) = some (bv u)) (l h : Nat) (hl : l ≤ h) (hh : h ≤ bs.length) :
    Bs w (.slice (if c = l then some a else some (a.add l)) (h - l) (c - l)) ((bs.take h).drop l) := by
  have hlen : ((bs.take h).drop l).length = h - l := by simp; omega
  by_cases hc : c = l
  · rw [if_pos hc]
    refine Or.inr ⟨a, c - l, by rw [hlen], by omega, by omega, fun j u hu => ?_⟩
    have : j < ((bs.take h).drop l).length := (List.getElem?_eq_some_iff.1 hu).1
    omega
  · rw [if_neg hc]
    refine Or.inr ⟨a.add l, c - l, by rw [hlen], by omega, by omega, fun j u hu => ?_⟩
    have hj : j < ((bs.take h).drop l).length := (List.getElem?_eq_some_iff.1 hu).1
    rw [List.getElem?_drop, List.getElem?_take, if_pos (by omega)] at hu
    have := h3 (l + j) u hu
    by_cases hl0 : l = 0
    · subst hl0
      simpa [Addr.add] using this
    · rw [add_add a l j (Or.inl (by omega))]
      exact this

theorem slice_from {w : World} {v : Value} {bs : List UInt8} (hb : Bs w v bs) (l : Nat) (hl : l ≤ bs.length) :
    ∃ v2, (∀ w', (Instr.slice 36 v (some (.int .i64 l)) none none).run Try.prog w' = .ok v2 w') ∧ Bs w v2 (bs.drop l) ∧ (∀ g, v2.ownBlock = some g → v.ownBlock = some g) := by
  rcases hb with ⟨rfl, rfl⟩ | ⟨a, c, rfl, h1, h2, h3⟩
  · simp at hl
    subst hl
    refine ⟨.slice none 0 0, fun w' => ?_, Or.inl ⟨rfl, rfl⟩, fun g q => q⟩
    simp [go_sem, Try.underlying36]
  · refine ⟨.slice (if c = l then some a else some (a.add l)) (bs.length - l) (c - l), fun w' => ?_, ?_, fun g q => ?_⟩
    · simp [go_sem, Try.underlying36, hl]
    · have := piece h1 h2 h3 l bs.length hl (Nat.le_refl _)
      rwa [List.take_length] at this
    · split at q
      · exact q
      · simp only [Value.ownBlock, add_block] at q
        exact q

theorem slice_between {w : World} {v : Value} {bs : List UInt8} (hb : Bs w v bs) (l h : Nat) (hl : l ≤ h) (hh : h ≤ bs.length) :
    ∃ v2, (∀ w', (Instr.slice 36 v (some (.int .i64 l)) (some (.int .i64 h)) none).run Try.prog w' = .ok v2 w') ∧ Bs w v2 ((bs.take h).drop l) ∧ (∀ g, v2.ownBlock = some g → v.ownBlock = some g) := by
  rcases hb with ⟨rfl, rfl⟩ | ⟨a, c, rfl, h1, h2, h3⟩
  · simp at hh
    subst hh
    simp at hl
    subst hl
    refine ⟨.slice none 0 0, fun w' => ?_, Or.inl ⟨rfl, rfl⟩, fun g q => q⟩
    simp [go_sem, Try.underlying36]
  · refine ⟨.slice (if c = l then some a else some (a.add l)) (h - l) (c - l), fun w' => ?_, piece h1 h2 h3 l h hl hh, fun g q => ?_⟩
    · have : (h : Int) ≤ (c : Int) := by omega
      simp [go_sem, Try.underlying36, hl, this]
    · split at q
      · exact q
      · simp only [Value.ownBlock, add_block] at q
        exact q

/-- The number in the first k bytes of a Var. -/
def vsum (l : List UInt8) : Nat → Nat
  | 0 => 0
  | k + 1 => vsum l k + (l.getD k 0).toNat % 128 * 128 ^ k

theorem Turn.set1 (w : World) (p j : Nat) (u : Value) : Turn (fun k => k = p) w (w.setCell ⟨p, j, none⟩ u) := (Turn.refl (fun k => k = p) w).setCell (p := ⟨p, j, none⟩) (fun _ => rfl) u

theorem or_step (V c k : Nat) (hV : V < 128 ^ k) (hVb : V < 18446744073709551616) (hc : c < 256) (hfit : V + c % 128 * 128 ^ k < 18446744073709551616) :
    bits .or .u64 (V : Int) (IntKind.u64.wrap (IntKind.u64.wrap (bits .and .u8 (c : Int) 127) * 2 ^ (7 * k))) = ((V + c % 128 * 128 ^ k : Nat) : Int) := by
  have h1 : bits .and .u8 (c : Int) 127 = (c : Int) % 128 := bits_mask .u8 8 (by decide) wraps_u8 7 (by decide) c (by omega) (by omega)
  have e2 : (2 : Int) ^ (7 * k) = ((128 ^ k : Nat) : Int) := by
    rw [Int.pow_mul]
    simp
  have e3 : (c : Int) % 128 = ((c % 128 : Nat) : Int) := by simp
  rw [h1, e3, IntKind.wrap_u64, IntKind.wrap_u64, e2]
  have e4 : ((c % 128 : Nat) : Int) % 18446744073709551616 = ((c % 128 : Nat) : Int) := by omega
  rw [e4, ← Int.natCast_mul]
  have e5 : ((c % 128 * 128 ^ k : Nat) : Int) % 18446744073709551616 = ((c % 128 * 128 ^ k : Nat) : Int) := by omega
  rw [e5, bits_or_u64_nat _ _ hVb (by omega)]
  have e6 : V ||| c % 128 * 128 ^ k = V + c % 128 * 128 ^ k := by
    have e7 : (128 : Nat) ^ k = 2 ^ (7 * k) := by rw [Nat.pow_mul]
    rw [e7] at hV ⊢
    rw [Nat.or_comm, Nat.mul_comm, ← Nat.two_pow_add_eq_or_of_lt hV, Nat.add_comm]
  rw [e6]

theorem getD_drop (bs : List UInt8) (i k : Nat) : (bs.drop i).getD k 0 = bs[i + k]?.getD 0 := by
  simp [List.getD_eq_getElem?_getD, List.getElem?_drop]

theorem vsum_succ (bs : List UInt8) (i k : Nat) : vsum (bs.drop i) (k + 1) = vsum (bs.drop i) k + (bs[i + k]?.getD 0).toNat % 128 * 128 ^ k := by
  rw [vsum, getD_drop]

set_option maxRecDepth 100000 in
set_option maxHeartbeats 1000000 in
theorem number_bad (w : World) (p : Nat) (v : Value) (bs : List UInt8) (i : Nat) (h : Rd w p v bs i 0) (h0 : ((vsize 0 (bs.drop i)).2 != 0) = true) :
    Calls Try.prog 123 #[.pointer (some ⟨p, 0, none⟩)] w fun e w' => e = .returned (.tuple #[.int .u64 0, .int .i64 (vsize 0 (bs.drop i)).2]) ∧ w = w' := by
  obtain ⟨v2, hsl, hb2, _⟩ := slice_from h.own.bs i h.le
  have c1 := h.c1
  have c2 := h.c2
  obtain ⟨ad, ln, cp, rfl⟩ := h.own.form
  go_enter Try.func123, Try.ntmps123
  go_wp2_with (go_at_call 136; refine (varSize_any _ _ _ hb2).mono ?_; rintro e w' ⟨rfl, rfl⟩)
  go_ret2
  exact ⟨rfl, rfl⟩

set_option maxRecDepth 100000 in
set_option maxHeartbeats 1000000 in
theorem number_good (w : World) (p : Nat) (v : Value) (bs : List UInt8) (i s : Nat) (hle : bs.length ≤ 140737488355328) (h : Rd w p v bs i 0) (h0 : vsize 0 (bs.drop i) = (s, 0)) (hs0 : 0 < s) (hs : s ≤ 10) (his : i + s ≤ bs.length) (hsm : ∀ k, k ≤ s → vsum (bs.drop i) k < 18446744073709551616 ∧ vsum (bs.drop i) k < 128 ^ k) :
    Calls Try.prog 123 #[.pointer (some ⟨p, 0, none⟩)] w fun e w' => e = .returned (.tuple #[.int .u64 (vsum (bs.drop i) s), .int .i64 0]) ∧ Rd w' p v bs (i + s) 0 ∧ Turn (fun k => k = p) w w' := by
  obtain ⟨v2, hsl, hb2, _⟩ := slice_from h.own.bs i h.le
  have c1 := h.c1
  have c2 := h.c2
  have H0 : Hid (vsize 0 (bs.drop i) = (s, 0)) := h0
  clear h0
  obtain ⟨b, off, cap, rfl, _, hca⟩ := h.own.bs.at (by omega)
  go_enter Try.func123, Try.ntmps123
  go_wp2_with (go_at_call 136; refine (varSize_any _ _ _ hb2).mono ?_; rintro e w' ⟨rfl, rfl⟩; rw [H0.out])
  go_loop [7, 27] (fun t c => ∃ k : Nat, k ≤ s ∧ c = .int .i64 k ∧ t = .int .u64 (vsum (bs.drop i) k)) (fun _ c => s - (intOf c).toNat)
  case atStart => exact ⟨0, Nat.zero_le _, rfl, rfl⟩
  case round =>
    obtain ⟨k, hk, rfl, rfl⟩ := hrel
    by_cases hlt : k < s
    · have g := hca (i + k) (by omega)
      have hlt' : (k : Int) < (s : Int) := by omega
      clear hsl hb2 hca
      go_wp2
      go_round
      case rel =>
        have q0 := hsm k (by omega)
        have q1 := hsm (k + 1) (by omega)
        rw [vsum_succ] at q1
        exact ⟨k + 1, by omega, by go_num, by rw [vsum_succ, or_step _ _ k q0.2 q0.1 (UInt8.toNat_lt _) q1.1]⟩
      case measure => simp [intOf]; omega
    · have hlt' : ¬ (k : Int) < (s : Int) := by omega
      have f2 := h.f 2
      have hks : k = s := by omega
      have hA := h.setAt (i + s) (by omega)
      have ec : (((i + s : Nat)) : Int) = (i : Int) + (s : Int) := by omega
      rw [ec] at hA
      subst hks
      go_wp2
      go_ret2
      exact ⟨rfl, hA, Turn.set1 _ _ _ _⟩
end Go.Proofs.Ytpfjllkmaogafaa

