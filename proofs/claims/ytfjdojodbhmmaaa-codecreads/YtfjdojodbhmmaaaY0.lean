/- 'read' again, with what may be written over. -/
import Derived.Test.YtfjdojodbhmmaaaW14
import Derived.Test.YtfjdojodbhmmaaaZ1
namespace Go.Proofs.Ytfjdojodbhmmaaa
open Go.RowKit
set_option linter.unusedVariables false

/-- Bytes that may be written over. -/
def Fu (w : World) (v : Value) (n : Nat) : Prop := Wb w v n ∨ ∃ xs : List UInt8, Own w 5 v (xs.map bv) ∧ xs.length = n
theorem Fu.nil (w : World) : Fu w (.slice none 0 0) 0 := .inl (.inl ⟨rfl, rfl⟩)
theorem Wb.turn {S : Nat → Prop} {w w' : World} {v : Value} {n : Nat} (h : Wb w v n) (ht : Turn S w w') (hn : ∀ g, v.ownBlock = some g → ¬ S g) : Wb w' v n := by
  rcases h with q | ⟨g, cap, rfl, hgl, h1, h2, h3⟩
  · exact .inl q
  · refine .inr ⟨g, cap, rfl, Nat.lt_of_lt_of_le hgl ht.size, h1, h2, fun j hj => ?_⟩
    obtain ⟨⟨u, hu⟩, hf⟩ := h3 j hj
    exact ⟨⟨u, ht.keep hu (hn g rfl)⟩, by rw [ht.frozen (World.block_lt_of_cell? w _ hu) (hn g rfl)]; exact hf⟩
theorem Fu.turn {S : Nat → Prop} {w w' : World} {v : Value} {n : Nat} (h : Fu w v n) (ht : Turn S w w') (hn : ∀ g, v.ownBlock = some g → ¬ S g) : Fu w' v n := by
  rcases h with q | ⟨xs, q, hx⟩
  · exact .inl (q.turn ht hn)
  · exact .inr ⟨xs, q.turn ht hn, hx⟩
theorem Fu.lt {w : World} {v : Value} {n : Nat} (h : Fu w v n) {g : Nat} (hg : v.ownBlock = some g) : g < w.heap.size := by
  rcases h with q | ⟨xs, q, hx⟩
  · exact q.lt hg
  · exact Own.lt q hg
theorem bytesWorld_wb (w : World) (s : ByteArray) (hm : s.size ≤ maxLen) : Wb (Lib.bytesWorld w 5 s) (.slice (some ⟨w.heap.size, 0, none⟩) s.size (grownCap w s.size 0 5)) s.size := by
  have hge := grownCap_ge w s.size 0 5
  refine .inr ⟨w.heap.size, _, rfl, by rw [Lib.bytesWorld_size]; omega, hge, grownCap_le_maxLen w _ _ _ hm, fun j hj => ?_⟩
  have hn := Lib.bytesWorld_at_new w 5 s
  have hsz : (Lib.bytesCells w 5 s).size = grownCap w s.size 0 5 := by
    simp [Lib.bytesCells]
    have : s.data.size = s.size := rfl
    omega
  refine ⟨?_, ?_⟩
  · rw [cell_of_row _ w.heap.size j _ 5 _ hn, Array.getElem?_eq_getElem (by omega)]
    have : (Lib.bytesCells w 5 s)[j]'(by omega) ∈ Lib.bytesCells w 5 s := by simp
    simp only [Lib.bytesCells, Array.mem_append, Array.mem_map, Array.mem_replicate] at this
    rcases this with ⟨u, _, hu⟩ | ⟨_, hu⟩
    · exact ⟨_, congrArg some hu.symm⟩
    · exact ⟨0, congrArg some hu⟩
  · unfold World.frozen?
    rw [hn]
    simp
    omega
set_option maxRecDepth 100000 in
set_option maxHeartbeats 2000000 in
theorem read7w (w : World) (rv : Value) (pa : Option Addr) (hrv : rv = .pointer pa) (k a b : Int) (S : Nat → Prop) (R : World → Prop) (x : ByteArray) (hx : x.size ≤ maxLen) (hS : ∀ i, S i → i < w.heap.size)
    (hc : Calls Try.prog 46 #[rv, .int .i64 a] (Rw w k a b) fun e w' => e = .returned (.string x) ∧ R w' ∧ Turn S (Rw w k a b) w') (hk : k % 9 = 7) :
    Calls Try.prog 20 #[rv, .agg #[.int .i64 k, .int .i64 a, .int .i64 b]] w fun e w' => ∃ v g, e = .returned (.agg #[.int .u64 0, v]) ∧ ∃ w2 w3, R w2 ∧ Turn S (Rw w k a b) w2 ∧ Turn no w2 w3 ∧ Bs w3 v x.data.toList ∧ Wb w3 v x.size ∧ v.ownBlock = some g ∧ w2.heap.size ≤ g ∧ Turn (fun i => i = w.heap.size + 1) w3 w' := by
  subst hrv
  have hkind := fun w => kind_any w k
  rw [hk] at hkind
  clear hk
  have hcv := fun w' => Lib.run_convert_string_bytes (P := Try.prog) w' 9 25 5 x Try.underlying9 Try.underlying25 Try.underlying5
  go_enter Try.func20, Try.ntmps20
  go_wp2_with (first | (go_at_call 9; refine (hkind _).mono ?_; rintro e w' ⟨rfl, rfl⟩) | (go_at_call 46; refine hc.mono ?_; rintro e w1 ⟨rfl, l1, l2⟩; have l3 := l2.then_no (bytesWorld_turn w1 5 x); obtain ⟨r0, r1, r2, r3⟩ := res_cells l3 hS))
  exact bodyPost_ret (v := .agg #[.int .u64 0, .slice (some ⟨w1.heap.size, 0, none⟩) x.size (grownCap w1 x.size 0 5)]) (by simp [results, Try.results20, go_sem, r0, r1]) rfl ⟨_, w1.heap.size, rfl, w1, _, l1, l2, bytesWorld_turn w1 5 x, bytesWorld_bs w1 x hx, bytesWorld_wb w1 x hx, rfl, Nat.le_refl _, (Turn.set1 _ _ _ _).trans (Turn.set1 _ _ _ _) (fun _ _ q => q)⟩

/-- What a read leaves: its answer, the Reader. -/
def Got2 (w : World) (p : Nat) (v : Value) (bs : List UInt8) (r : Nat × List UInt8 × Nat × Int) (e : Ending) (w' : World) : Prop :=
  ∃ vB, e = .returned (.agg #[.int .u64 r.1, vB]) ∧ Bs w' vB r.2.1 ∧ Fu w' vB r.2.1.length ∧ (∀ g, vB.ownBlock = some g → w.heap.size ≤ g) ∧ Rd w' p v bs r.2.2.1 r.2.2.2 ∧ Turn (fun k => k = p) w w'

/-- A number was read. -/
theorem got2_num {w w2 w' : World} {p : Nat} {v : Value} {bs : List UInt8} {i0 : Nat} {e0 k a b : Int} {r : Nat × Nat × Int} (h0 : Rd w p v bs i0 e0) (h : Rd w2 p v bs r.2.1 r.2.2) (l : Turn (fun i => i = p) (Rw w k a b) w2) (l' : Turn (fun i => i = w.heap.size + 1) w2 w') :
    Got2 w p v bs (r.1, [], r.2) (.returned (.agg #[.int .u64 r.1, .slice none 0 0])) w' :=
  ⟨_, rfl, nil_bs w', Fu.nil w', fun g q => (by cases q), h0.back h l', back_p h0.lt l l'⟩

/-- Bytes were read. -/
theorem got2_bytes {w w2 w' : World} {p : Nat} {v : Value} {bs : List UInt8} {i0 : Nat} {e0 k a b : Int} {r : List UInt8 × Nat × Int} {vB : Value} (h0 : Rd w p v bs i0 e0) (hb : Bs w2 vB r.1) (hfu : Fu w2 vB r.1.length) (hf : ∀ g, vB.ownBlock = some g → w.heap.size + 2 ≤ g) (h : Rd w2 p v bs r.2.1 r.2.2) (l : Turn (fun i => i = p) (Rw w k a b) w2) (l' : Turn (fun i => i = w.heap.size + 1) w2 w') :
    Got2 w p v bs (0, r) (.returned (.agg #[.int .u64 0, vB])) w' :=
  ⟨vB, rfl, hb.turn l' (fun g q r => by have := hf g q; omega), hfu.turn l' (fun g q r => by have := hf g q; omega), fun g q => by have := hf g q; omega, h0.back h l', back_p h0.lt l l'⟩

theorem got2_of {w w2 w' : World} {p : Nat} {v : Value} {bs : List UInt8} {i0 : Nat} {e0 k a b : Int} {r : List UInt8 × Nat × Int} {vB : Value} (h0 : Rd w p v bs i0 e0) (hb : Bytes (Rw w k a b) p v bs r vB w2) (l' : Turn (fun i => i = w.heap.size + 1) w2 w') :
    Got2 w p v bs (0, r) (.returned (.agg #[.int .u64 0, vB])) w' :=
  got2_bytes h0 hb.1.bs (.inr ⟨_, hb.1, rfl⟩) (fun g q => by have := hb.2.1 g q; rw [Rw.size] at this; exact this) hb.2.2.1 hb.2.2.2 l'

theorem read_made2 (w : World) (p : Nat) (v : Value) (bs : List UInt8) (i : Nat) (k a b : Int) (ha : a < 9223372036854775808) (hb : b < 9223372036854775808) (hle : bs.length ≤ 140737488355328) (h : Rd w p v bs i 0) :
    Calls Try.prog 20 #[.pointer (some ⟨p, 0, none⟩), .agg #[.int .i64 k, .int .i64 a, .int .i64 b]] w (Got2 w p v bs (rget bs i k a b)) := by
  have hW := h.turn_no (Rw.turn w k a b)
  have hk : k % 9 = 0 ∨ k % 9 = 1 ∨ k % 9 = 2 ∨ k % 9 = 3 ∨ k % 9 = 4 ∨ k % 9 = 5 ∨ k % 9 = 6 ∨ k % 9 = 7 ∨ k % 9 = 8 := by omega
  have hS : ∀ i, i = p → i < w.heap.size := fun i q => by rw [q]; exact h.lt
  have h00 : (0 : Int) ≤ ((0 : Nat) : Int) ∧ ((0 : Nat) : Int) < 256 := by omega
  rcases hk with hk | hk | hk | hk | hk | hk | hk | hk | hk
  · have hr : rget bs i k a b = ((rfix bs i 1).1, [], (rfix bs i 1).2) := by unfold rget; rw [if_pos hk]
    rw [hr]
    unfold rfix
    by_cases h1 : bs.length - i < 1
    · rw [if_pos h1]
      refine (read0 w _ _ rfl k a b (fun j => j = p) _ _ h00 hS (byte_bad _ p v bs i hW h1) hk).mono ?_
      rintro e w' ⟨rfl, w2, k1, l, l'⟩
      exact got2_num (r := (0, i, 10)) h k1 l l'
    · rw [if_neg h1]
      have hb1 := lsum_lt (bs.drop i) 1
      refine (read0 w _ _ rfl k a b (fun j => j = p) _ _ (by omega) hS (byte_good _ p v bs i hW (by omega)) hk).mono ?_
      rintro e w' ⟨rfl, w2, k1, l, l'⟩
      exact got2_num (r := (_, i + 1, 0)) h k1 l l'
  · have hr : rget bs i k a b = ((rbool bs i).1, [], (rbool bs i).2) := by unfold rget; rw [if_neg (by omega), if_pos hk]
    rw [hr]
    unfold rbool
    by_cases h1 : bs.length - i < 1
    · rw [if_pos h1]
      refine (read1f w _ _ rfl k a b (fun j => j = p) _ hS (bool_bad _ p v bs i hW h1) hk).mono ?_
      rintro e w' ⟨rfl, w2, k1, l, l'⟩
      exact got2_num (r := (0, i, 10)) h k1 l l'
    · rw [if_neg h1]
      by_cases h2 : 1 < lsum (bs.drop i) 1
      · rw [if_pos h2]
        refine (read1f w _ _ rfl k a b (fun j => j = p) _ hS (bool_form _ p v bs i hW (by omega) h2) hk).mono ?_
        rintro e w' ⟨rfl, w2, k1, l, l'⟩
        exact got2_num (r := (0, i, 11)) h k1 l l'
      · rw [if_neg h2]
        have hg := bool_good _ p v bs i hW (by omega) (by omega)
        by_cases h3 : lsum (bs.drop i) 1 = 1
        · rw [h3] at hg ⊢
          refine (read1t w _ _ rfl k a b (fun j => j = p) _ hS hg hk).mono ?_
          rintro e w' ⟨rfl, w2, k1, l, l'⟩
          exact got2_num (r := (1, i + 1, 0)) h k1 l l'
        · have h4 : lsum (bs.drop i) 1 = 0 := by omega
          rw [h4] at hg ⊢
          refine (read1f w _ _ rfl k a b (fun j => j = p) _ hS hg hk).mono ?_
          rintro e w' ⟨rfl, w2, k1, l, l'⟩
          exact got2_num (r := (0, i + 1, 0)) h k1 l l'
  · have hr : rget bs i k a b = ((rfix bs i 4).1, [], (rfix bs i 4).2) := by unfold rget; rw [if_neg (by omega), if_neg (by omega), if_pos hk]
    rw [hr]
    unfold rfix
    by_cases h1 : bs.length - i < 4
    · rw [if_pos h1]
      refine (read2 w _ _ rfl k a b (fun j => j = p) _ _ (by omega) hS (u32_bad _ p v bs i hW h1) hk).mono ?_
      rintro e w' ⟨rfl, w2, k1, l, l'⟩
      exact got2_num (r := (0, i, 10)) h k1 l l'
    · rw [if_neg h1]
      have hb1 := lsum_lt (bs.drop i) 4
      refine (read2 w _ _ rfl k a b (fun j => j = p) _ _ (by omega) hS (u32_good _ p v bs i hW (by omega)) hk).mono ?_
      rintro e w' ⟨rfl, w2, k1, l, l'⟩
      exact got2_num (r := (_, i + 4, 0)) h k1 l l'
  · have hr : rget bs i k a b = ((rfix bs i 8).1, [], (rfix bs i 8).2) := by unfold rget; rw [if_neg (by omega), if_neg (by omega), if_neg (by omega), if_pos hk]
    rw [hr]
    unfold rfix
    by_cases h1 : bs.length - i < 8
    · rw [if_pos h1]
      refine (read3 w _ _ rfl k a b (fun j => j = p) _ _ hS (u64_bad _ p v bs i hW h1) hk).mono ?_
      rintro e w' ⟨rfl, w2, k1, l, l'⟩
      exact got2_num (r := (0, i, 10)) h k1 l l'
    · rw [if_neg h1]
      refine (read3 w _ _ rfl k a b (fun j => j = p) _ _ hS (u64_good _ p v bs i hW (by omega)) hk).mono ?_
      rintro e w' ⟨rfl, w2, k1, l, l'⟩
      exact got2_num (r := (_, i + 8, 0)) h k1 l l'
  · have hr : rget bs i k a b = ((rvar bs i).1, [], (rvar bs i).2) := by unfold rget; rw [if_neg (by omega), if_neg (by omega), if_neg (by omega), if_neg (by omega), if_pos hk]
    rw [hr]
    refine (read4 w _ _ rfl k a b (fun j => j = p) (fun w' => Rd w' p v bs (rvar bs i).2.1 (rvar bs i).2.2) _ hS (rvar_made _ p v bs i hle hW) hk).mono ?_
    rintro e w' ⟨rfl, w2, k1, l, l'⟩
    exact got2_num h k1 l l'
  · have hr : rget bs i k a b = (0, rraw bs i a) := by unfold rget; rw [if_neg (by omega), if_neg (by omega), if_neg (by omega), if_neg (by omega), if_neg (by omega), if_pos hk]
    rw [hr]
    refine (read5e w _ _ rfl k a b (fun j => j = p) _ hS (fun _ _ q => q.form) (rraw_made _ p v bs i a ha hle hW) hk).mono ?_
    rintro e w' ⟨v', rfl, w2, k1, l'⟩
    exact got2_of h k1 l'
  · have hr : rget bs i k a b = (0, rbytes bs i a) := by unfold rget; rw [if_neg (by omega), if_neg (by omega), if_neg (by omega), if_neg (by omega), if_neg (by omega), if_neg (by omega), if_pos hk]
    rw [hr]
    refine (read6e w _ _ rfl k a b (fun j => j = p) _ hS (fun _ _ q => q.form) (rbytes_made _ p v bs i a ha hle hW) hk).mono ?_
    rintro e w' ⟨v', rfl, w2, k1, l'⟩
    exact got2_of h k1 l'
  · have hr : rget bs i k a b = (0, rbytes bs i a) := by unfold rget; rw [if_neg (by omega), if_neg (by omega), if_neg (by omega), if_neg (by omega), if_neg (by omega), if_neg (by omega), if_neg (by omega), if_pos hk]
    rw [hr]
    have hsz : (⟨(rbytes bs i a).1.toArray⟩ : ByteArray).size ≤ maxLen := by
      have := rbytes_le bs i a
      show (rbytes bs i a).1.toArray.size ≤ maxLen
      simp [maxLen]
      omega
    refine (read7w w _ _ rfl k a b (fun j => j = p) (fun w' => Rd w' p v bs (rbytes bs i a).2.1 (rbytes bs i a).2.2) _ hsz hS (rtext_made _ p v bs i a ha hle hW) hk).mono ?_
    rintro e w' ⟨vB, g, rfl, w2, w3, k1, l, l3, hb, hwb, hg, hgs, l'⟩
    have hs2 := l.size
    rw [Rw.size] at hs2
    exact got2_bytes h hb (.inl hwb) (fun g' q => by rw [hg] at q; cases q; omega) (k1.turn_no l3) (l.then_no l3) l'
  · have hr : rget bs i k a b = ((rcount bs i a b).1, [], (rcount bs i a b).2) := by unfold rget; rw [if_neg (by omega), if_neg (by omega), if_neg (by omega), if_neg (by omega), if_neg (by omega), if_neg (by omega), if_neg (by omega), if_neg (by omega)]
    rw [hr]
    refine (read8 w _ _ rfl k a b (fun j => j = p) (fun w' => Rd w' p v bs (rcount bs i a b).2.1 (rcount bs i a b).2.2) _ (rcount_lt ha) hS (rcount_made _ p v bs i a b ha hb hle hW) hk).mono ?_
    rintro e w' ⟨rfl, w2, k1, l, l'⟩
    exact got2_num h k1 l l'
theorem read_errs2 (w : World) (rv : Value) (k a b e0 : Int) (h : Errs w rv e0) (h0 : (e0 != 0) = true) :
    Calls Try.prog 20 #[rv, .agg #[.int .i64 k, .int .i64 a, .int .i64 b]] w fun e w' => ∃ vB, e = .returned (.agg #[.int .u64 0, vB]) ∧ Bs w' vB [] ∧ Fu w' vB 0 ∧ (∀ g, vB.ownBlock = some g → w.heap.size ≤ g) ∧ Turn no w w' := by
  have hE := h.turn_no (Rw.turn w k a b)
  obtain ⟨pa, hpa⟩ := hE.ptr
  have hk : k % 9 = 0 ∨ k % 9 = 1 ∨ k % 9 = 2 ∨ k % 9 = 3 ∨ k % 9 = 4 ∨ k % 9 = 5 ∨ k % 9 = 6 ∨ k % 9 = 7 ∨ k % 9 = 8 := by omega
  have hS : ∀ i, no i → i < w.heap.size := fun _ q => q.elim
  have fin : ∀ {w2 w' : World}, Turn no (Rw w k a b) w2 → Turn (fun i => i = w.heap.size + 1) w2 w' → ∃ vB, Ending.returned (.agg #[.int .u64 0, .slice none 0 0]) = .returned (.agg #[.int .u64 0, vB]) ∧ Bs w' vB [] ∧ Fu w' vB 0 ∧ (∀ g, vB.ownBlock = some g → w.heap.size ≤ g) ∧ Turn no w w' :=
    fun l l' => ⟨_, rfl, nil_bs _, Fu.nil _, fun g q => (by cases q), back_no l l'⟩
  rcases hk with hk | hk | hk | hk | hk | hk | hk | hk | hk
  · refine (read0 w rv pa hpa k a b no (fun _ => True) 0 (by omega) hS ((rbyte_err _ _ e0 hE h0).mono (fun e w' q => ⟨q.1, trivial, q.2⟩)) hk).mono ?_
    rintro e w' ⟨rfl, w2, _, l, l'⟩
    exact fin l l'
  · refine (read1f w rv pa hpa k a b no (fun _ => True) hS ((rbool_err _ _ e0 hE h0).mono (fun e w' q => ⟨q.1, trivial, q.2⟩)) hk).mono ?_
    rintro e w' ⟨rfl, w2, _, l, l'⟩
    exact fin l l'
  · refine (read2 w rv pa hpa k a b no (fun _ => True) 0 (by omega) hS ((ru32_err _ _ e0 hE h0).mono (fun e w' q => ⟨q.1, trivial, q.2⟩)) hk).mono ?_
    rintro e w' ⟨rfl, w2, _, l, l'⟩
    exact fin l l'
  · refine (read3 w rv pa hpa k a b no (fun _ => True) 0 hS ((ru64_err _ _ e0 hE h0).mono (fun e w' q => ⟨q.1, trivial, q.2⟩)) hk).mono ?_
    rintro e w' ⟨rfl, w2, _, l, l'⟩
    exact fin l l'
  · refine (read4 w rv pa hpa k a b no (fun _ => True) 0 hS ((rvar_err _ _ e0 hE h0).mono (fun e w' q => ⟨q.1, trivial, q.2⟩)) hk).mono ?_
    rintro e w' ⟨rfl, w2, _, l, l'⟩
    exact fin l l'
  · refine (read5 w rv pa hpa k a b no (fun _ => True) none 0 0 hS ((rraw_err _ _ _ e0 hE h0).mono (fun e w' q => ⟨q.1, trivial, q.2⟩)) hk).mono ?_
    rintro e w' ⟨rfl, w2, _, l, l'⟩
    exact fin l l'
  · refine (read6 w rv pa hpa k a b no (fun _ => True) none 0 0 hS ((rbytes_err _ _ _ e0 hE h0).mono (fun e w' q => ⟨q.1, trivial, q.2⟩)) hk).mono ?_
    rintro e w' ⟨rfl, w2, _, l, l'⟩
    exact fin l l'
  · refine (read7w w rv pa hpa k a b no (fun _ => True) ByteArray.empty (Nat.zero_le _) hS ((rtext_err _ _ _ e0 hE h0).mono (fun e w' q => ⟨q.1, trivial, q.2⟩)) hk).mono ?_
    rintro e w' ⟨v, g, rfl, w2, w3, _, l, l3, hb, hwb, hg, hgs, l'⟩
    have hs2 := l.size
    rw [Rw.size] at hs2
    exact ⟨_, rfl, hb.turn l' (fun g' q r => by rw [hg] at q; cases q; omega), (Fu.turn (.inl hwb) l' (fun g' q r => by rw [hg] at q; cases q; omega)), fun g' q => by rw [hg] at q; cases q; omega, back_no (l.then_no l3) l'⟩
  · refine (read8 w rv pa hpa k a b no (fun _ => True) 0 (by omega) hS ((rcount_err _ _ _ _ e0 hE h0).mono (fun e w' q => ⟨q.1, trivial, q.2⟩)) hk).mono ?_
    rintro e w' ⟨rfl, w2, _, l, l'⟩
    exact fin l l'

theorem read_any2 (w : World) (p : Nat) (v : Value) (bs : List UInt8) (i : Nat) (e0 : Int) (k a b : Int) (ha : a < 9223372036854775808) (hb : b < 9223372036854775808) (hle : bs.length ≤ 140737488355328) (h : Rd w p v bs i e0) :
    Calls Try.prog 20 #[.pointer (some ⟨p, 0, none⟩), .agg #[.int .i64 k, .int .i64 a, .int .i64 b]] w (Got2 w p v bs (rgets bs i e0 k a b)) := by
  unfold rgets
  by_cases he : e0 = 0
  · subst he
    rw [if_pos rfl]
    exact read_made2 w p v bs i k a b ha hb hle h
  · rw [if_neg he]
    refine (read_errs2 w _ k a b e0 h.errs (by simpa using he)).mono ?_
    rintro e w' ⟨vB, rfl, k1, k0, k2, k3⟩
    exact ⟨vB, rfl, k1, k0, k2, h.turn_no k3, k3.of_no⟩

end Go.Proofs.Ytfjdojodbhmmaaa
