/- Walks: Raw, Bytes, Text and Count of a Reader, through their boxes. -/
import Derived.Test.YtpfjllkmaogafaaW11
namespace Go.Proofs.Ytpfjllkmaogafaa
open Go.RowKit
set_option linter.unusedVariables false

/-- The boxes of a read with one number; with two. -/
def Bx (w : World) (p : Nat) (n : Int) : World := (w.alloc (.cells #[.pointer (some ⟨p, 0, none⟩)] 129)).alloc (.cells #[.int .i64 n] 3)
def Bx2 (w : World) (p : Nat) (m l : Int) : World := ((w.alloc (.cells #[.pointer (some ⟨p, 0, none⟩)] 129)).alloc (.cells #[.int .i64 m] 3)).alloc (.cells #[.int .i64 l] 3)

theorem Bx.turn (w : World) (p : Nat) (n : Int) : Turn no w (Bx w p n) := ((Turn.refl no w).alloc _).alloc _
theorem Bx2.turn (w : World) (p : Nat) (m l : Int) : Turn no w (Bx2 w p m l) := (((Turn.refl no w).alloc _).alloc _).alloc _
theorem Bx.size (w : World) (p : Nat) (n : Int) : (Bx w p n).heap.size = w.heap.size + 2 := by simp [Bx]

theorem Bx.r (w : World) (p : Nat) (n : Int) : (Bx w p n).cell? ⟨w.heap.size, 0, none⟩ = some (.pointer (some ⟨p, 0, none⟩)) := by
  have h : (Bx w p n).heap[w.heap.size]? = some (.cells #[.pointer (some ⟨p, 0, none⟩)] 129 (0, 0)) := by
    unfold Bx
    rw [Below.heap_alloc _ _ _ (by simp)]
    exact heap_alloc_new w _
  rw [cell_of_row _ _ 0 _ 129 (0, 0) h]; rfl
theorem Bx.n (w : World) (p : Nat) (n : Int) : (Bx w p n).cell? ⟨w.heap.size + 1, 0, none⟩ = some (.int .i64 n) := by
  have h : (Bx w p n).heap[w.heap.size + 1]? = some (.cells #[.int .i64 n] 3 (0, 0)) := by
    have := heap_alloc_new (w.alloc (.cells #[.pointer (some ⟨p, 0, none⟩)] 129)) (.cells #[.int .i64 n] 3)
    simpa [Bx] using this
  rw [cell_of_row _ _ 0 _ 3 (0, 0) h]; rfl
theorem Bx2.r (w : World) (p : Nat) (m l : Int) : (Bx2 w p m l).cell? ⟨w.heap.size, 0, none⟩ = some (.pointer (some ⟨p, 0, none⟩)) :=
  ((Turn.refl no (Bx w p m)).alloc (.cells #[.int .i64 l] 3)).keep (Bx.r w p m) (fun q => q)
theorem Bx2.m (w : World) (p : Nat) (m l : Int) : (Bx2 w p m l).cell? ⟨w.heap.size + 1, 0, none⟩ = some (.int .i64 m) :=
  ((Turn.refl no (Bx w p m)).alloc (.cells #[.int .i64 l] 3)).keep (Bx.n w p m) (fun q => q)
theorem Bx2.l (w : World) (p : Nat) (m l : Int) : (Bx2 w p m l).cell? ⟨w.heap.size + 2, 0, none⟩ = some (.int .i64 l) := by
  have h : (Bx2 w p m l).heap[w.heap.size + 2]? = some (.cells #[.int .i64 l] 3 (0, 0)) := by
    have := heap_alloc_new (Bx w p m) (.cells #[.int .i64 l] 3)
    rw [Bx.size] at this
    exact this
  rw [cell_of_row _ _ 0 _ 3 (0, 0) h]; rfl

set_option maxRecDepth 100000 in
set_option maxHeartbeats 1000000 in
theorem raw_of (w : World) (p : Nat) (n : Int) (T : Value → World → Prop)
    (hc : Calls Try.prog 137 #[.pointer (some ⟨p, 0, none⟩), .func (.func 138) #[] #[.pointer (some ⟨w.heap.size + 1, 0, none⟩), .pointer (some ⟨w.heap.size, 0, none⟩)]] (Bx w p n) fun e w' => ∃ v', e = .returned v' ∧ T v' w') :
    Calls Try.prog 124 #[.pointer (some ⟨p, 0, none⟩), .int .i64 n] w fun e w' => ∃ v', e = .returned v' ∧ T v' w' := by
  go_enter Try.func124, Try.ntmps124
  go_wp2_with (go_at_call 137; refine hc.mono ?_; rintro e w' ⟨v', rfl, k1⟩)
  go_ret
  exact ⟨_, rfl, k1⟩

set_option maxRecDepth 100000 in
set_option maxHeartbeats 1000000 in
theorem counted90_of (w : World) (p : Nat) (n : Int) (T : Value → World → Prop)
    (hc : Calls Try.prog 133 #[.pointer (some ⟨p, 0, none⟩), .func (.func 134) #[] #[.pointer (some ⟨w.heap.size, 0, none⟩), .pointer (some ⟨w.heap.size + 1, 0, none⟩)]] (Bx w p n) fun e w' => ∃ v', e = .returned v' ∧ T v' w') :
    Calls Try.prog 89 #[.pointer (some ⟨p, 0, none⟩), .int .i64 n] w fun e w' => ∃ v', e = .returned v' ∧ T v' w' := by
  go_enter Try.func89, Try.ntmps89
  go_wp2_with (first | (go_at_call 133; refine hc.mono ?_; rintro e w' ⟨v', rfl, k1⟩) | go_in)
  go_ret
  exact ⟨_, rfl, k1⟩

/-- What Raw answers: the bytes, the place, the error. -/
def rraw (bs : List UInt8) (i : Nat) (n : Int) : List UInt8 × Nat × Int :=
  if n < 0 then ([], i, 2) else if bs.length - i < n.toNat then ([], i, 10) else ((bs.take (i + n.toNat)).drop i, i + n.toNat, 0)

/-- The same of Bytes and Text. -/
def rbytes (bs : List UInt8) (i : Nat) (m : Int) : List UInt8 × Nat × Int :=
  if m < 0 then ([], i, 2)
  else if (rvar bs i).2.2 ≠ 0 then ([], i, (rvar bs i).2.2)
  else if m < ((rvar bs i).1 : Int) then ([], i, 12)
  else if bs.length - (rvar bs i).2.1 < (rvar bs i).1 then ([], i, 10)
  else ((bs.take ((rvar bs i).2.1 + (rvar bs i).1)).drop (rvar bs i).2.1, (rvar bs i).2.1 + (rvar bs i).1, 0)

/-- The same of Count. -/
def rcount (bs : List UInt8) (i : Nat) (m l : Int) : Nat × Nat × Int :=
  if m < 0 ∨ l < 0 then (0, i, 2)
  else if (rvar bs i).2.2 ≠ 0 then (0, i, (rvar bs i).2.2)
  else if m < ((rvar bs i).1 : Int) then (0, i, 12)
  else if bs.length - (rvar bs i).2.1 < (rvar bs i).1 * l.toNat then (0, i, 10)
  else ((rvar bs i).1, (rvar bs i).2.1, 0)

/-- What a read of bytes leaves behind. -/
def Bytes (w : World) (p : Nat) (v : Value) (bs : List UInt8) (r : List UInt8 × Nat × Int) (v' : Value) (w' : World) : Prop :=
  Own w' 5 v' (r.1.map bv) ∧ (∀ g, v'.ownBlock = some g → w.heap.size ≤ g) ∧ Rd w' p v bs r.2.1 r.2.2 ∧ Turn (fun k => k = p) w w'

theorem turn_bx {w w' : World} {p : Nat} {n : Int} (h : Turn (fun k => k = p) (Bx w p n) w') : Turn (fun k => k = p) w w' := (Bx.turn w p n).of_no.trans h (fun _ _ q => q)

theorem none_bytes {w w' : World} {p : Nat} {n : Int} {v : Value} {bs : List UInt8} {i : Nat} {er : Int} (h : Rd w' p v bs i er) (ht : Turn (fun k => k = p) (Bx w p n) w') : Bytes w p v bs ([], i, er) (.slice none 0 0) w' :=
  ⟨Own.nil _ _, fun g q => (by cases q), h, turn_bx ht⟩

theorem rraw_made (w : World) (p : Nat) (v : Value) (bs : List UInt8) (i : Nat) (n : Int) (hb : n < 9223372036854775808) (hle : bs.length ≤ 140737488355328) (h : Rd w p v bs i 0) :
    Calls Try.prog 124 #[.pointer (some ⟨p, 0, none⟩), .int .i64 n] w fun e w' => ∃ v', e = .returned v' ∧ Bytes w p v bs (rraw bs i n) v' w' := by
  have hW := h.turn_no (Bx.turn w p n)
  have hn := Bx.n w p n
  have hr := Bx.r w p n
  apply raw_of
  unfold rraw
  by_cases h1 : n < 0
  · rw [if_pos h1]
    refine (passed86_none _ p _ _ (read_bad87 _ p v bs i i _ 2 hW rfl (raw1_neg _ p v bs i _ _ n hW hn hr h1))).mono ?_
    rintro e w' ⟨rfl, k1, k2⟩
    exact ⟨_, rfl, none_bytes k1 k2⟩
  · rw [if_neg h1]
    obtain ⟨m, rfl⟩ := Int.eq_ofNat_of_zero_le (show 0 ≤ n by omega)
    rw [Int.toNat_natCast]
    by_cases h2 : bs.length - i < m
    · rw [if_pos h2]
      refine (passed86_none _ p _ _ (read_bad87 _ p v bs i i _ 10 hW rfl (raw1_cut _ p v bs i _ _ m hW hn hr h2 (by omega)))).mono ?_
      rintro e w' ⟨rfl, k1, k2⟩
      exact ⟨_, rfl, none_bytes k1 k2⟩
    · rw [if_neg h2]
      by_cases h3 : m = 0
      · subst h3
        refine (passed86_none _ p _ _ (read_good87 _ p v bs i (i + 0) _ ((0 : Nat) : Int) hW (raw1_good _ p v bs i _ _ 0 hle hW hn hr (by omega)))).mono ?_
        rintro e w' ⟨rfl, k1, k2⟩
        have e1 : (bs.take (i + 0)).drop i = [] := by simp
        rw [e1]
        exact ⟨_, rfl, none_bytes k1 k2⟩
      · have hl := h.le
        refine (passed86_good _ p v bs i m _ hle (by omega) (by omega) (read_good87 _ p v bs i (i + m) _ (m : Int) hW (raw1_good _ p v bs i _ _ m hle hW hn hr (by omega)))).mono ?_
        rintro e w' ⟨v', rfl, k0, k1, k2, k3⟩
        exact ⟨_, rfl, k0, fun g q => by have := k1 g q; rw [Bx.size] at this; omega, k2, turn_bx k3⟩

theorem rvar_cases (bs : List UInt8) (i : Nat) : (∃ s, vsize 0 (bs.drop i) = (s, 0) ∧ rvar bs i = (vsum (bs.drop i) s, i + s, 0)) ∨ (∃ er, (vsize 0 (bs.drop i)).2 = er ∧ (er != 0) = true ∧ rvar bs i = (0, i, er)) := by
  by_cases hq : (vsize 0 (bs.drop i)).2 = 0
  · obtain ⟨s, hs⟩ : ∃ s, vsize 0 (bs.drop i) = (s, 0) := ⟨(vsize 0 (bs.drop i)).1, by rw [← hq]⟩
    exact Or.inl ⟨s, hs, by unfold rvar; rw [hs]; rfl⟩
  · exact Or.inr ⟨_, rfl, by simpa using hq, by unfold rvar; rw [if_neg hq]⟩

theorem rtext_made (w : World) (p : Nat) (v : Value) (bs : List UInt8) (i : Nat) (m : Int) (hb : m < 9223372036854775808) (hle : bs.length ≤ 140737488355328) (h : Rd w p v bs i 0) :
    Calls Try.prog 89 #[.pointer (some ⟨p, 0, none⟩), .int .i64 m] w fun e w' => e = .returned (.string ⟨(rbytes bs i m).1.toArray⟩) ∧ Rd w' p v bs (rbytes bs i m).2.1 (rbytes bs i m).2.2 ∧ Turn (fun k => k = p) w w' := by
  have hW := h.turn_no (Bx.turn w p m)
  have hn := Bx.n w p m
  have hr := Bx.r w p m
  have hne : w.heap.size ≠ p := by have := h.lt; omega
  have hof := counted90_of w p m (fun x w' => x = .string ⟨(rbytes bs i m).1.toArray⟩ ∧ Rd w' p v bs (rbytes bs i m).2.1 (rbytes bs i m).2.2 ∧ Turn (fun k => k = p) w w') ?_
  · refine hof.mono ?_
    rintro e w' ⟨x, rfl, rfl, k1, k2⟩
    exact ⟨rfl, k1, k2⟩
  unfold rbytes
  by_cases h1 : m < 0
  · rw [if_pos h1]
    refine (passed104_none _ p _ _ (read_bad105 _ p v bs i i _ 2 hW rfl (cnt105_neg _ p v bs i _ _ m hW hr hn h1))).mono ?_
    rintro e w' ⟨rfl, k1, k2⟩
    exact ⟨_, rfl, rfl, k1, turn_bx k2⟩
  · rw [if_neg h1]
    rcases rvar_cases bs i with ⟨s, hs, hv⟩ | ⟨er, her, h0, hv⟩
    · obtain ⟨a1, a2, a3, _⟩ := vsize_good _ _ hs (by omega)
      have his : i + s ≤ bs.length := by have := h.le; simp at a3; omega
      rw [hv, if_neg (by simp)]
      by_cases h2 : m < (vsum (bs.drop i) s : Int)
      · rw [if_pos h2]
        refine (passed104_none _ p _ _ (read_bad105 _ p v bs i (i + s) _ 12 hW rfl (cnt105_over _ p v bs i _ _ m s hle hW hr hn (by omega) hb hs h2))).mono ?_
        rintro e w' ⟨rfl, k1, k2⟩
        exact ⟨_, rfl, rfl, k1, turn_bx k2⟩
      · rw [if_neg h2]
        by_cases h3 : bs.length - (i + s) < vsum (bs.drop i) s
        · rw [if_pos h3]
          refine (passed104_none _ p _ _ (read_bad105 _ p v bs i (i + s) _ 10 hW rfl (cnt105_cut _ p v bs i _ _ m s hle hW hr hn hne (by omega) hb hs h2 h3))).mono ?_
          rintro e w' ⟨rfl, k1, k2⟩
          exact ⟨_, rfl, rfl, k1, turn_bx k2⟩
        · rw [if_neg h3]
          have hg := cnt105_good _ p v bs i _ _ m s hle hW hr hn hne (by omega) hb hs h2 (by omega)
          have hl := h.le
          by_cases h4 : vsum (bs.drop i) s = 0
          · rw [h4] at hg ⊢
            refine (passed104_none _ p _ _ (read_good105 _ p v bs i (i + s + 0) _ ((0 : Nat) : Int) hW hg)).mono ?_
            rintro e w' ⟨rfl, k1, k2⟩
            have e1 : (bs.take (i + s + 0)).drop (i + s) = [] := by simp
            rw [e1]
            exact ⟨_, rfl, rfl, k1, turn_bx k2⟩
          · generalize vsum (bs.drop i) s = x at *
            refine (passed104_good _ p v bs (i + s) x _ hle (by omega) (by omega) (read_good105 _ p v bs i (i + s + x) _ (x : Int) hW hg)).mono ?_
            rintro e w' ⟨rfl, k2, k3⟩
            exact ⟨_, rfl, rfl, k2, turn_bx k3⟩
    · rw [hv, if_pos (by simpa using h0)]
      refine (passed104_none _ p _ _ (read_bad105 _ p v bs i i _ er hW h0 (cnt105_bad _ p v bs i _ _ m er hW hr hn (by omega) her h0))).mono ?_
      rintro e w' ⟨rfl, k1, k2⟩
      exact ⟨_, rfl, rfl, k1, turn_bx k2⟩

theorem turn_bx2 {w w' : World} {p : Nat} {m l : Int} (h : Turn (fun k => k = p) (Bx2 w p m l) w') : Turn (fun k => k = p) w w' := (Bx2.turn w p m l).of_no.trans h (fun _ _ q => q)

end Go.Proofs.Ytpfjllkmaogafaa

