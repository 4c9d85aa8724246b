/- 'read' of a Reader that was made, whatever is asked. -/
import Derived.Test.YtfjdojodbhmmaaaW12
import Derived.Test.YtfjdojodbhmmaaaW9
namespace Go.Proofs.Ytfjdojodbhmmaaa
open Go.RowKit
set_option linter.unusedVariables false

/-- A number of so many bytes. -/
def rfix (bs : List UInt8) (i n : Nat) : Nat × Nat × Int := if bs.length - i < n then (0, i, 10) else (lsum (bs.drop i) n, i + n, 0)
def rbool (bs : List UInt8) (i : Nat) : Nat × Nat × Int := if bs.length - i < 1 then (0, i, 10) else if 1 < lsum (bs.drop i) 1 then (0, i, 11) else (lsum (bs.drop i) 1, i + 1, 0)

/-- What a read answers, of a Reader without an error: the number, the bytes, the place, the error. -/
def rget (bs : List UInt8) (i : Nat) (k a b : Int) : Nat × List UInt8 × Nat × Int :=
  if k % 9 = 0 then ((rfix bs i 1).1, [], (rfix bs i 1).2)
  else if k % 9 = 1 then ((rbool bs i).1, [], (rbool bs i).2)
  else if k % 9 = 2 then ((rfix bs i 4).1, [], (rfix bs i 4).2)
  else if k % 9 = 3 then ((rfix bs i 8).1, [], (rfix bs i 8).2)
  else if k % 9 = 4 then ((rvar bs i).1, [], (rvar bs i).2)
  else if k % 9 = 5 then (0, rraw bs i a)
  else if k % 9 = 6 then (0, rbytes bs i a)
  else if k % 9 = 7 then (0, rbytes bs i a)
  else ((rcount bs i a b).1, [], (rcount bs i a b).2)

/-- With an error or without. -/
def rgets (bs : List UInt8) (i : Nat) (e : Int) (k a b : Int) : Nat × List UInt8 × Nat × Int := if e = 0 then rget bs i k a b else (0, [], i, e)

/-- What a read leaves: its answer, the Reader. -/
def Got (w : World) (p : Nat) (v : Value) (bs : List UInt8) (r : Nat × List UInt8 × Nat × Int) (e : Ending) (w' : World) : Prop :=
  ∃ vB, e = .returned (.agg #[.int .u64 r.1, vB]) ∧ Bs w' vB r.2.1 ∧ (∀ g, vB.ownBlock = some g → w.heap.size ≤ g) ∧ Rd w' p v bs r.2.2.1 r.2.2.2 ∧ Turn (fun k => k = p) w w'

theorem nil_bs (w : World) : Bs w (.slice none 0 0) [] := Or.inl ⟨rfl, rfl⟩

theorem Rd.back {w w2 w' : World} {p : Nat} {v : Value} {bs : List UInt8} {i i0 : Nat} {e e0 : Int} (h0 : Rd w p v bs i0 e0) (h : Rd w2 p v bs i e) (l' : Turn (fun j => j = w.heap.size + 1) w2 w') : Rd w' p v bs i e :=
  h.turn l' (fun k q r => by
    have hp := h0.lt
    rcases q with q | q
    · omega
    · have := h0.own.lt q
      omega)

theorem back_p {w w2 w' : World} {p : Nat} {k a b : Int} (hp : p < w.heap.size) (l : Turn (fun i => i = p) (Rw w k a b) w2) (l' : Turn (fun i => i = w.heap.size + 1) w2 w') : Turn (fun i => i = p) w w' :=
  ((Rw.turn w k a b).of_no.trans l (fun _ _ q => q)).trans l' (fun i hi q => by omega)

theorem Rw.size (w : World) (k a b : Int) : (Rw w k a b).heap.size = w.heap.size + 2 := by simp [Rw]

/-- A number was read. -/
theorem got_num {w w2 w' : World} {p : Nat} {v : Value} {bs : List UInt8} {i0 : Nat} {e0 k a b : Int} {r : Nat × Nat × Int} (h0 : Rd w p v bs i0 e0) (h : Rd w2 p v bs r.2.1 r.2.2) (l : Turn (fun i => i = p) (Rw w k a b) w2) (l' : Turn (fun i => i = w.heap.size + 1) w2 w') :
    Got w p v bs (r.1, [], r.2) (.returned (.agg #[.int .u64 r.1, .slice none 0 0])) w' :=
  ⟨_, rfl, nil_bs w', fun g q => (by cases q), h0.back h l', back_p h0.lt l l'⟩

/-- Bytes were read. -/
theorem got_bytes {w w2 w' : World} {p : Nat} {v : Value} {bs : List UInt8} {i0 : Nat} {e0 k a b : Int} {r : List UInt8 × Nat × Int} {vB : Value} (h0 : Rd w p v bs i0 e0) (hb : Bs w2 vB r.1) (hf : ∀ g, vB.ownBlock = some g → w.heap.size + 2 ≤ g) (h : Rd w2 p v bs r.2.1 r.2.2) (l : Turn (fun i => i = p) (Rw w k a b) w2) (l' : Turn (fun i => i = w.heap.size + 1) w2 w') :
    Got w p v bs (0, r) (.returned (.agg #[.int .u64 0, vB])) w' :=
  ⟨vB, rfl, hb.turn l' (fun g q r => by have := hf g q; omega), fun g q => by have := hf g q; omega, h0.back h l', back_p h0.lt l l'⟩

set_option maxRecDepth 100000 in
set_option maxHeartbeats 2000000 in
theorem read5e (w : World) (rv : Value) (pa : Option Addr) (hrv : rv = .pointer pa) (k a b : Int) (S : Nat → Prop) (T : Value → World → Prop) (hS : ∀ i, S i → i < w.heap.size) (hT : ∀ v' w', T v' w' → (∃ ad n c, v' = .slice ad n c) ∧ Turn S (Rw w k a b) w')
    (hc : Calls Try.prog 44 #[rv, .int .i64 a] (Rw w k a b) fun e w' => ∃ v', e = .returned v' ∧ T v' w') (hk : k % 9 = 5) :
    Calls Try.prog 20 #[rv, .agg #[.int .i64 k, .int .i64 a, .int .i64 b]] w fun e w' => ∃ v', e = .returned (.agg #[.int .u64 0, v']) ∧ ∃ w2, T v' w2 ∧ Turn (fun i => i = w.heap.size + 1) w2 w' := by
  subst hrv
  have hkind := fun w => kind_any w k
  rw [hk] at hkind
  clear hk
  go_enter Try.func20, Try.ntmps20
  go_wp2_with (first | (go_at_call 9; refine (hkind _).mono ?_; rintro e w' ⟨rfl, rfl⟩) | (go_at_call 44; refine hc.mono ?_; rintro e w1 ⟨v1, rfl, l1⟩; obtain ⟨⟨ad, n, c, rfl⟩, l2⟩ := hT _ _ l1; obtain ⟨r0, r1, r2, r3⟩ := res_cells l2 hS))
  exact bodyPost_ret (v := .agg #[.int .u64 0, .slice ad n c]) (by simp [results, Try.results20, go_sem, r0, r1]) rfl ⟨_, rfl, w1, l1, (Turn.set1 _ _ _ _).trans (Turn.set1 _ _ _ _) (fun _ _ q => q)⟩

set_option maxRecDepth 100000 in
set_option maxHeartbeats 2000000 in
theorem read6e (w : World) (rv : Value) (pa : Option Addr) (hrv : rv = .pointer pa) (k a b : Int) (S : Nat → Prop) (T : Value → World → Prop) (hS : ∀ i, S i → i < w.heap.size) (hT : ∀ v' w', T v' w' → (∃ ad n c, v' = .slice ad n c) ∧ Turn S (Rw w k a b) w')
    (hc : Calls Try.prog 45 #[rv, .int .i64 a] (Rw w k a b) fun e w' => ∃ v', e = .returned v' ∧ T v' w') (hk : k % 9 = 6) :
    Calls Try.prog 20 #[rv, .agg #[.int .i64 k, .int .i64 a, .int .i64 b]] w fun e w' => ∃ v', e = .returned (.agg #[.int .u64 0, v']) ∧ ∃ w2, T v' w2 ∧ Turn (fun i => i = w.heap.size + 1) w2 w' := by
  subst hrv
  have hkind := fun w => kind_any w k
  rw [hk] at hkind
  clear hk
  go_enter Try.func20, Try.ntmps20
  go_wp2_with (first | (go_at_call 9; refine (hkind _).mono ?_; rintro e w' ⟨rfl, rfl⟩) | (go_at_call 45; refine hc.mono ?_; rintro e w1 ⟨v1, rfl, l1⟩; obtain ⟨⟨ad, n, c, rfl⟩, l2⟩ := hT _ _ l1; obtain ⟨r0, r1, r2, r3⟩ := res_cells l2 hS))
  exact bodyPost_ret (v := .agg #[.int .u64 0, .slice ad n c]) (by simp [results, Try.results20, go_sem, r0, r1]) rfl ⟨_, rfl, w1, l1, (Turn.set1 _ _ _ _).trans (Turn.set1 _ _ _ _) (fun _ _ q => q)⟩

theorem Bytes.form {w : World} {p : Nat} {v : Value} {bs : List UInt8} {r : List UInt8 × Nat × Int} {v' : Value} {w' : World} (h : Bytes w p v bs r v' w') : (∃ ad n c, v' = .slice ad n c) ∧ Turn (fun j => j = p) w w' := ⟨h.1.form, h.2.2.2⟩

theorem got_of {w w2 w' : World} {p : Nat} {v : Value} {bs : List UInt8} {i0 : Nat} {e0 k a b : Int} {r : List UInt8 × Nat × Int} {vB : Value} (h0 : Rd w p v bs i0 e0) (hb : Bytes (Rw w k a b) p v bs r vB w2) (l' : Turn (fun i => i = w.heap.size + 1) w2 w') :
    Got w p v bs (0, r) (.returned (.agg #[.int .u64 0, vB])) w' :=
  got_bytes h0 hb.1.bs (fun g q => by have := hb.2.1 g q; rw [Rw.size] at this; exact this) hb.2.2.1 hb.2.2.2 l'

theorem rcount_lt {bs : List UInt8} {i : Nat} {m l : Int} (hm : m < 9223372036854775808) : (0 : Int) ≤ ((rcount bs i m l).1 : Int) ∧ ((rcount bs i m l).1 : Int) < 9223372036854775808 := by
  unfold rcount
  split
  · simp
  · split
    · simp
    · split
      · simp
      · split
        · simp
        · simp only
          omega

theorem rbytes_le (bs : List UInt8) (i : Nat) (m : Int) : (rbytes bs i m).1.length ≤ bs.length := by
  unfold rbytes
  split
  · simp
  · split
    · simp
    · split
      · simp
      · split
        · simp
        · simp
          omega

theorem read_made (w : World) (p : Nat) (v : Value) (bs : List UInt8) (i : Nat) (k a b : Int) (ha : a < 9223372036854775808) (hb : b < 9223372036854775808) (hle : bs.length ≤ 140737488355328) (h : Rd w p v bs i 0) :
    Calls Try.prog 20 #[.pointer (some ⟨p, 0, none⟩), .agg #[.int .i64 k, .int .i64 a, .int .i64 b]] w (Got w p v bs (rget bs i k a b)) := by
  have hW := h.turn_no (Rw.turn w k a b)
  have hk : k % 9 = 0 ∨ k % 9 = 1 ∨ k % 9 = 2 ∨ k % 9 = 3 ∨ k % 9 = 4 ∨ k % 9 = 5 ∨ k % 9 = 6 ∨ k % 9 = 7 ∨ k % 9 = 8 := by omega
  have hS : ∀ i, i = p → i < w.heap.size := fun i q => by rw [q]; exact h.lt
  have h00 : (0 : Int) ≤ ((0 : Nat) : Int) ∧ ((0 : Nat) : Int) < 256 := by omega
  rcases hk with hk | hk | hk | hk | hk | hk | hk | hk | hk
  · have hr : rget bs i k a b = ((rfix bs i 1).1, [], (rfix bs i 1).2) := by unfold rget; rw [if_pos hk]
    rw [hr]
    unfold rfix
    by_cases h1 : bs.length - i < 1
    · rw [if_pos h1]
      refine (read0 w _ _ rfl k a b (fun j => j = p) _ _ h00 hS (byte_bad _ p v bs i hW h1) hk).mono ?_
      rintro e w' ⟨rfl, w2, k1, l, l'⟩
      exact got_num (r := (0, i, 10)) h k1 l l'
    · rw [if_neg h1]
      have hb1 := lsum_lt (bs.drop i) 1
      refine (read0 w _ _ rfl k a b (fun j => j = p) _ _ (by omega) hS (byte_good _ p v bs i hW (by omega)) hk).mono ?_
      rintro e w' ⟨rfl, w2, k1, l, l'⟩
      exact got_num (r := (_, i + 1, 0)) h k1 l l'
  · have hr : rget bs i k a b = ((rbool bs i).1, [], (rbool bs i).2) := by unfold rget; rw [if_neg (by omega), if_pos hk]
    rw [hr]
    unfold rbool
    by_cases h1 : bs.length - i < 1
    · rw [if_pos h1]
      refine (read1f w _ _ rfl k a b (fun j => j = p) _ hS (bool_bad _ p v bs i hW h1) hk).mono ?_
      rintro e w' ⟨rfl, w2, k1, l, l'⟩
      exact got_num (r := (0, i, 10)) h k1 l l'
    · rw [if_neg h1]
      by_cases h2 : 1 < lsum (bs.drop i) 1
      · rw [if_pos h2]
        refine (read1f w _ _ rfl k a b (fun j => j = p) _ hS (bool_form _ p v bs i hW (by omega) h2) hk).mono ?_
        rintro e w' ⟨rfl, w2, k1, l, l'⟩
        exact got_num (r := (0, i, 11)) h k1 l l'
      · rw [if_neg h2]
        have hg := bool_good _ p v bs i hW (by omega) (by omega)
        by_cases h3 : lsum (bs.drop i) 1 = 1
        · rw [h3] at hg ⊢
          refine (read1t w _ _ rfl k a b (fun j => j = p) _ hS hg hk).mono ?_
          rintro e w' ⟨rfl, w2, k1, l, l'⟩
          exact got_num (r := (1, i + 1, 0)) h k1 l l'
        · have h4 : lsum (bs.drop i) 1 = 0 := by omega
          rw [h4] at hg ⊢
          refine (read1f w _ _ rfl k a b (fun j => j = p) _ hS hg hk).mono ?_
          rintro e w' ⟨rfl, w2, k1, l, l'⟩
          exact got_num (r := (0, i + 1, 0)) h k1 l l'
  · have hr : rget bs i k a b = ((rfix bs i 4).1, [], (rfix bs i 4).2) := by unfold rget; rw [if_neg (by omega), if_neg (by omega), if_pos hk]
    rw [hr]
    unfold rfix
    by_cases h1 : bs.length - i < 4
    · rw [if_pos h1]
      refine (read2 w _ _ rfl k a b (fun j => j = p) _ _ (by omega) hS (u32_bad _ p v bs i hW h1) hk).mono ?_
      rintro e w' ⟨rfl, w2, k1, l, l'⟩
      exact got_num (r := (0, i, 10)) h k1 l l'
    · rw [if_neg h1]
      have hb1 := lsum_lt (bs.drop i) 4
      refine (read2 w _ _ rfl k a b (fun j => j = p) _ _ (by omega) hS (u32_good _ p v bs i hW (by omega)) hk).mono ?_
      rintro e w' ⟨rfl, w2, k1, l, l'⟩
      exact got_num (r := (_, i + 4, 0)) h k1 l l'
  · have hr : rget bs i k a b = ((rfix bs i 8).1, [], (rfix bs i 8).2) := by unfold rget; rw [if_neg (by omega), if_neg (by omega), if_neg (by omega), if_pos hk]
    rw [hr]
    unfold rfix
    by_cases h1 : bs.length - i < 8
    · rw [if_pos h1]
      refine (read3 w _ _ rfl k a b (fun j => j = p) _ _ hS (u64_bad _ p v bs i hW h1) hk).mono ?_
      rintro e w' ⟨rfl, w2, k1, l, l'⟩
      exact got_num (r := (0, i, 10)) h k1 l l'
    · rw [if_neg h1]
      refine (read3 w _ _ rfl k a b (fun j => j = p) _ _ hS (u64_good _ p v bs i hW (by omega)) hk).mono ?_
      rintro e w' ⟨rfl, w2, k1, l, l'⟩
      exact got_num (r := (_, i + 8, 0)) h k1 l l'
  · have hr : rget bs i k a b = ((rvar bs i).1, [], (rvar bs i).2) := by unfold rget; rw [if_neg (by omega), if_neg (by omega), if_neg (by omega), if_neg (by omega), if_pos hk]
    rw [hr]
    refine (read4 w _ _ rfl k a b (fun j => j = p) (fun w' => Rd w' p v bs (rvar bs i).2.1 (rvar bs i).2.2) _ hS (rvar_made _ p v bs i hle hW) hk).mono ?_
    rintro e w' ⟨rfl, w2, k1, l, l'⟩
    exact got_num h k1 l l'
  · have hr : rget bs i k a b = (0, rraw bs i a) := by unfold rget; rw [if_neg (by omega), if_neg (by omega), if_neg (by omega), if_neg (by omega), if_neg (by omega), if_pos hk]
    rw [hr]
    refine (read5e w _ _ rfl k a b (fun j => j = p) _ hS (fun _ _ q => q.form) (rraw_made _ p v bs i a ha hle hW) hk).mono ?_
    rintro e w' ⟨v', rfl, w2, k1, l'⟩
    exact got_of h k1 l'
  · have hr : rget bs i k a b = (0, rbytes bs i a) := by unfold rget; rw [if_neg (by omega), if_neg (by omega), if_neg (by omega), if_neg (by omega), if_neg (by omega), if_neg (by omega), if_pos hk]
    rw [hr]
    refine (read6e w _ _ rfl k a b (fun j => j = p) _ hS (fun _ _ q => q.form) (rbytes_made _ p v bs i a ha hle hW) hk).mono ?_
    rintro e w' ⟨v', rfl, w2, k1, l'⟩
    exact got_of h k1 l'
  · have hr : rget bs i k a b = (0, rbytes bs i a) := by unfold rget; rw [if_neg (by omega), if_neg (by omega), if_neg (by omega), if_neg (by omega), if_neg (by omega), if_neg (by omega), if_neg (by omega), if_pos hk]
    rw [hr]
    have hsz : (⟨(rbytes bs i a).1.toArray⟩ : ByteArray).size ≤ maxLen := by
      have := rbytes_le bs i a
      show (rbytes bs i a).1.toArray.size ≤ maxLen
      simp [maxLen]
      omega
    refine (read7 w _ _ rfl k a b (fun j => j = p) (fun w' => Rd w' p v bs (rbytes bs i a).2.1 (rbytes bs i a).2.2) _ hsz hS (rtext_made _ p v bs i a ha hle hW) hk).mono ?_
    rintro e w' ⟨vB, g, rfl, w2, w3, k1, l, l3, hb, hg, hgs, l'⟩
    have hs2 := l.size
    rw [Rw.size] at hs2
    exact got_bytes h hb (fun g' q => by rw [hg] at q; cases q; omega) (k1.turn_no l3) (l.then_no l3) l'
  · have hr : rget bs i k a b = ((rcount bs i a b).1, [], (rcount bs i a b).2) := by unfold rget; rw [if_neg (by omega), if_neg (by omega), if_neg (by omega), if_neg (by omega), if_neg (by omega), if_neg (by omega), if_neg (by omega), if_neg (by omega)]
    rw [hr]
    refine (read8 w _ _ rfl k a b (fun j => j = p) (fun w' => Rd w' p v bs (rcount bs i a b).2.1 (rcount bs i a b).2.2) _ (rcount_lt ha) hS (rcount_made _ p v bs i a b ha hb hle hW) hk).mono ?_
    rintro e w' ⟨rfl, w2, k1, l, l'⟩
    exact got_num h k1 l l'
end Go.Proofs.Ytfjdojodbhmmaaa
