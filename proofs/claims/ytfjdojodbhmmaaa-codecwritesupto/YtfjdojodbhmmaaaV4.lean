/- A list of values as it lies in memory; may; value; all. -/
import Derived.Test.YtfjdojodbhmmaaaP2
namespace Go.Proofs.Ytfjdojodbhmmaaa
open Go.RowKit
set_option linter.unusedVariables false

/-- A value that is to be laid down. -/
structure Pt where
  k : Int
  n : Nat
  vb : Value
  B : List UInt8

def mayB (x : Pt) : Bool := decide (x.k % 9 ≠ 8) || decide (x.n < 9223372036854775808)

/-- One value in memory, from an address on. -/
def PtAt (w : World) (a : Addr) (x : Pt) : Prop :=
  w.cell? a = some (.int .i64 x.k) ∧ w.cell? (a.add 1) = some (.int .u64 x.n) ∧ w.cell? (a.add 2) = some x.vb ∧ x.n < 18446744073709551616 ∧ Bs w x.vb x.B

/-- A list of values, as it lies in memory. -/
def Ps (w : World) (v : Value) (ps : List Pt) : Prop :=
  (v = .slice none 0 0 ∧ ps = []) ∨ ∃ a cap, v = .slice (some a) ps.length cap ∧ ps.length ≤ cap ∧ cap ≤ maxLen ∧ ∀ j x, ps[j]? = some x → PtAt w (a.add (j * 3)) x

theorem Ps.slice {w : World} {v : Value} {ps : List Pt} (h : Ps w v ps) : ∃ a cap, v = .slice a ps.length cap := by
  rcases h with ⟨rfl, rfl⟩ | ⟨a, cap, rfl, _⟩
  · exact ⟨none, 0, rfl⟩
  · exact ⟨some a, cap, rfl⟩
theorem Ps.le {w : World} {v : Value} {ps : List Pt} (h : Ps w v ps) : ps.length ≤ maxLen := by
  rcases h with ⟨_, rfl⟩ | ⟨_, _, _, h1, h2, _⟩
  · exact Nat.zero_le _
  · omega
theorem Ps.at {w : World} {v : Value} {ps : List Pt} (h : Ps w v ps) (hp : 0 < ps.length) :
    ∃ b off cap, v = .slice (some ⟨b, off, none⟩) ps.length cap ∧ ps.length ≤ cap ∧ ∀ j x, ps[j]? = some x → PtAt w ⟨b, off + j * 3, none⟩ x := by
  rcases h with ⟨_, rfl⟩ | ⟨⟨b, off, spot⟩, cap, rfl, h1, _, h3⟩
  · simp at hp
  · have hs : spot = none := by
      have := World.cell?_spot (h3 0 ps[0] (by simp [hp])).1
      simpa [Addr.add] using this
    subst hs
    refine ⟨b, off, cap, rfl, h1, fun j g hg => ?_⟩
    have := h3 j g hg
    rwa [Addr.add_lit] at this

theorem PtAt.lit {w : World} {b o : Nat} {x : Pt} (h : PtAt w ⟨b, o, none⟩ x) : w.cell? ⟨b, o, none⟩ = some (.int .i64 x.k) ∧ w.cell? ⟨b, o + 1, none⟩ = some (.int .u64 x.n) ∧ w.cell? ⟨b, o + 2, none⟩ = some x.vb := by
  obtain ⟨h0, h1, h2, _⟩ := h
  rw [Addr.add_lit] at h1 h2
  exact ⟨h0, h1, h2⟩

theorem PtAt.turn_no {w w' : World} {b o : Nat} {x : Pt} (h : PtAt w ⟨b, o, none⟩ x) (t : Turn no w w') : PtAt w' ⟨b, o, none⟩ x := by
  obtain ⟨h0, h1, h2, h3, h4⟩ := h
  exact ⟨t.keep h0 (fun q => q), t.keep h1 (fun q => q), t.keep h2 (fun q => q), h3, h4.turn_no t⟩

theorem Bs.old {w : World} {v : Value} {B : List UInt8} (h : Bs w v B) (hB : B ≠ []) : ∀ g, v.ownBlock = some g → g < w.heap.size := by
  intro g hg
  rcases h with ⟨q, r⟩ | ⟨a, c, rfl, _, _, h3⟩
  · exact (hB r).elim
  · cases hg
    have hp : 0 < B.length := by
      cases B with
      | nil => exact (hB rfl).elim
      | cons => simp
    have := World.block_lt_of_cell? w _ (h3 0 B[0] (by simp [hp]))
    rw [add_block] at this
    exact this

theorem wrap64_small (n : Nat) (h : n < 9223372036854775808) : wrap64 (n : Int) = (n : Int) := by
  unfold wrap64
  omega

set_option maxRecDepth 100000 in
set_option maxHeartbeats 1000000 in
theorem may_any (w : World) (x : Pt) (hn : x.n < 18446744073709551616) (a : Option Addr) (ln c : Nat) (hv : x.vb = .slice a ln c) :
    Calls Try.prog 10 #[.agg #[.int .i64 x.k, .int .u64 x.n, x.vb]] w fun e w' => e = .returned (.bool (mayB x)) ∧ Turn no w w' := by
  obtain ⟨k, n, vb, B⟩ := x
  simp only at hn hv ⊢
  subst hv
  have hkind := fun w => kind_any w k
  unfold mayB
  simp only
  by_cases h8 : k % 9 = 8
  · rw [h8] at hkind ⊢
    by_cases h2 : n < 9223372036854775808
    · have h2' := wrap64_small n h2
      have h3 : (0 : Int) ≤ (n : Int) := by omega
      have h4 : (n : Int) ≤ 9223372036854775807 := by omega
      go_enter Try.func10, Try.ntmps10
      go_wp2_with (go_at_call 9; refine (hkind _).mono ?_; rintro e w' ⟨rfl, rfl⟩)
      go_ret
      exact ⟨by simp [h2], (Turn.refl _ _).alloc _⟩
    · have h2' := wrap64_big n (by omega) hn
      have h3 : decide ((0 : Int) ≤ wrap64 (n : Int)) = false := by simp; omega
      go_enter Try.func10, Try.ntmps10
      go_wp2_with (go_at_call 9; refine (hkind _).mono ?_; rintro e w' ⟨rfl, rfl⟩)
      go_ret
      exact ⟨by simp [h2], (Turn.refl _ _).alloc _⟩
  · have h8' : ((k % 9) != 8) = true := by simpa using h8
    go_enter Try.func10, Try.ntmps10
    go_wp2_with (go_at_call 9; refine (hkind _).mono ?_; rintro e w' ⟨rfl, rfl⟩)
    go_ret
    exact ⟨by simp [h8], (Turn.refl _ _).alloc _⟩

/-- What 'value' answers. -/
def valV (x : Pt) : Value := if x.k % 9 = 5 ∨ x.k % 9 = 6 ∨ x.k % 9 = 7 then x.vb else .slice none 0 0

set_option maxRecDepth 100000 in
set_option maxHeartbeats 2000000 in
theorem value_any (w : World) (x : Pt) (hn : x.n < 18446744073709551616) (a : Option Addr) (ln c : Nat) (hv : x.vb = .slice a ln c) :
    Calls Try.prog 11 #[.agg #[.int .i64 x.k, .int .u64 x.n, x.vb]] w fun e w' => e = .returned (.agg #[.int .u64 (val x.k x.n x.B).1, valV x]) ∧ Turn no w w' := by
  obtain ⟨k, n, vb, B⟩ := x
  simp only at hn hv ⊢
  subst hv
  have hkind := fun w => kind_any w k
  have hk : k % 9 = 0 ∨ k % 9 = 1 ∨ k % 9 = 2 ∨ k % 9 = 3 ∨ k % 9 = 4 ∨ k % 9 = 5 ∨ k % 9 = 6 ∨ k % 9 = 7 ∨ k % 9 = 8 := by omega
  unfold valV
  simp only
  rcases hk with hk | hk | hk | hk | hk | hk | hk | hk | hk
  · have h1 : (val k n B).1 = (n % 256 : Nat) := by unfold val; simp [hk]
    have h2 : (if k % 9 = 5 ∨ k % 9 = 6 ∨ k % 9 = 7 then Value.slice a ln c else .slice none 0 0) = .slice none 0 0 := by simp [hk]
    rw [h1, h2]
    rw [hk] at hkind
    clear h1 h2 hk
    go_enter Try.func11, Try.ntmps11
    go_wp2_with (go_at_call 9; refine (hkind _).mono ?_; rintro e w' ⟨rfl, rfl⟩)
    exact bodyPost_ret (v := .agg #[.int .u64 ((n % 256 : Nat) : Int), .slice none 0 0]) (by simp [results, Try.results11, go_sem]) rfl ⟨rfl, ((Turn.refl no w).alloc _).alloc _⟩
  · have h1 : (val k n B).1 = (n % 2 : Nat) := by unfold val; simp [hk]
    have h2 : (if k % 9 = 5 ∨ k % 9 = 6 ∨ k % 9 = 7 then Value.slice a ln c else .slice none 0 0) = .slice none 0 0 := by simp [hk]
    rw [h1, h2]
    rw [hk] at hkind
    clear h1 h2 hk
    go_enter Try.func11, Try.ntmps11
    go_wp2_with (go_at_call 9; refine (hkind _).mono ?_; rintro e w' ⟨rfl, rfl⟩)
    exact bodyPost_ret (v := .agg #[.int .u64 ((n % 2 : Nat) : Int), .slice none 0 0]) (by simp [results, Try.results11, go_sem]) rfl ⟨rfl, ((Turn.refl no w).alloc _).alloc _⟩
  · have h1 : (val k n B).1 = (n % 4294967296 : Nat) := by unfold val; simp [hk]
    have h2 : (if k % 9 = 5 ∨ k % 9 = 6 ∨ k % 9 = 7 then Value.slice a ln c else .slice none 0 0) = .slice none 0 0 := by simp [hk]
    rw [h1, h2]
    rw [hk] at hkind
    clear h1 h2 hk
    go_enter Try.func11, Try.ntmps11
    go_wp2_with (go_at_call 9; refine (hkind _).mono ?_; rintro e w' ⟨rfl, rfl⟩)
    exact bodyPost_ret (v := .agg #[.int .u64 ((n % 4294967296 : Nat) : Int), .slice none 0 0]) (by simp [results, Try.results11, go_sem]) rfl ⟨rfl, ((Turn.refl no w).alloc _).alloc _⟩
  · have h1 : (val k n B).1 = n := by unfold val; simp [hk]
    have h2 : (if k % 9 = 5 ∨ k % 9 = 6 ∨ k % 9 = 7 then Value.slice a ln c else .slice none 0 0) = .slice none 0 0 := by simp [hk]
    rw [h1, h2]
    rw [hk] at hkind
    clear h1 h2 hk
    go_enter Try.func11, Try.ntmps11
    go_wp2_with (go_at_call 9; refine (hkind _).mono ?_; rintro e w' ⟨rfl, rfl⟩)
    exact bodyPost_ret (v := .agg #[.int .u64 (n : Int), .slice none 0 0]) (by simp [results, Try.results11, go_sem]) rfl ⟨rfl, ((Turn.refl no w).alloc _).alloc _⟩
  · have h1 : (val k n B).1 = n := by unfold val; simp [hk]
    have h2 : (if k % 9 = 5 ∨ k % 9 = 6 ∨ k % 9 = 7 then Value.slice a ln c else .slice none 0 0) = .slice none 0 0 := by simp [hk]
    rw [h1, h2]
    rw [hk] at hkind
    clear h1 h2 hk
    go_enter Try.func11, Try.ntmps11
    go_wp2_with (go_at_call 9; refine (hkind _).mono ?_; rintro e w' ⟨rfl, rfl⟩)
    exact bodyPost_ret (v := .agg #[.int .u64 (n : Int), .slice none 0 0]) (by simp [results, Try.results11, go_sem]) rfl ⟨rfl, ((Turn.refl no w).alloc _).alloc _⟩
  · have h1 : (val k n B).1 = (0 : Nat) := by unfold val; simp [hk]
    have h2 : (if k % 9 = 5 ∨ k % 9 = 6 ∨ k % 9 = 7 then Value.slice a ln c else .slice none 0 0) = .slice a ln c := by simp [hk]
    rw [h1, h2]
    rw [hk] at hkind
    clear h1 h2 hk
    go_enter Try.func11, Try.ntmps11
    go_wp2_with (go_at_call 9; refine (hkind _).mono ?_; rintro e w' ⟨rfl, rfl⟩)
    exact bodyPost_ret (v := .agg #[.int .u64 ((0 : Nat) : Int), .slice a ln c]) (by simp [results, Try.results11, go_sem]) rfl ⟨rfl, ((Turn.refl no w).alloc _).alloc _⟩
  · have h1 : (val k n B).1 = (0 : Nat) := by unfold val; simp [hk]
    have h2 : (if k % 9 = 5 ∨ k % 9 = 6 ∨ k % 9 = 7 then Value.slice a ln c else .slice none 0 0) = .slice a ln c := by simp [hk]
    rw [h1, h2]
    rw [hk] at hkind
    clear h1 h2 hk
    go_enter Try.func11, Try.ntmps11
    go_wp2_with (go_at_call 9; refine (hkind _).mono ?_; rintro e w' ⟨rfl, rfl⟩)
    exact bodyPost_ret (v := .agg #[.int .u64 ((0 : Nat) : Int), .slice a ln c]) (by simp [results, Try.results11, go_sem]) rfl ⟨rfl, ((Turn.refl no w).alloc _).alloc _⟩
  · have h1 : (val k n B).1 = (0 : Nat) := by unfold val; simp [hk]
    have h2 : (if k % 9 = 5 ∨ k % 9 = 6 ∨ k % 9 = 7 then Value.slice a ln c else .slice none 0 0) = .slice a ln c := by simp [hk]
    rw [h1, h2]
    rw [hk] at hkind
    clear h1 h2 hk
    go_enter Try.func11, Try.ntmps11
    go_wp2_with (go_at_call 9; refine (hkind _).mono ?_; rintro e w' ⟨rfl, rfl⟩)
    exact bodyPost_ret (v := .agg #[.int .u64 ((0 : Nat) : Int), .slice a ln c]) (by simp [results, Try.results11, go_sem]) rfl ⟨rfl, ((Turn.refl no w).alloc _).alloc _⟩
  · have h1 : (val k n B).1 = n := by unfold val; simp [hk]
    have h2 : (if k % 9 = 5 ∨ k % 9 = 6 ∨ k % 9 = 7 then Value.slice a ln c else .slice none 0 0) = .slice none 0 0 := by simp [hk]
    rw [h1, h2]
    rw [hk] at hkind
    clear h1 h2 hk
    go_enter Try.func11, Try.ntmps11
    go_wp2_with (go_at_call 9; refine (hkind _).mono ?_; rintro e w' ⟨rfl, rfl⟩)
    exact bodyPost_ret (v := .agg #[.int .u64 (n : Int), .slice none 0 0]) (by simp [results, Try.results11, go_sem]) rfl ⟨rfl, ((Turn.refl no w).alloc _).alloc _⟩

theorem enc_le (k : Int) (n : Nat) (B : List UInt8) : (enc k n B).1.length ≤ B.length + 10 := by
  have hv := varE_le n
  have hv2 := varE_le B.length
  unfold enc
  split
  · simp [leB_length]
  · split
    · simp [leB_length]
    · split
      · simp [leB_length] <;> omega
      · split
        · simp [leB_length] <;> omega
        · split
          · simp only; omega
          · split
            · simp only; omega
            · split
              · simp; omega
              · split
                · simp; omega
                · split
                  · simp only; omega
                  · simp

/-- All that is laid down of a list. -/
def laidAll : List Pt → List UInt8
  | [] => []
  | x :: r => (if mayB x then (enc x.k x.n x.B).1 else []) ++ laidAll r
def roomAll : List Pt → Nat
  | [] => 0
  | x :: r => x.B.length + 10 + roomAll r

theorem laidAll_snoc (l : List Pt) (x : Pt) : laidAll (l ++ [x]) = laidAll l ++ (if mayB x then (enc x.k x.n x.B).1 else []) := by
  induction l with
  | nil => simp [laidAll]
  | cons y r ih => simp only [List.cons_append, laidAll, ih, List.append_assoc]
theorem laidAll_le (l : List Pt) : (laidAll l).length ≤ roomAll l := by
  induction l with
  | nil => simp [laidAll]
  | cons x r ih =>
    have := enc_le x.k x.n x.B
    simp only [laidAll, roomAll, List.length_append]
    split <;> simp <;> omega
theorem room_take (l : List Pt) (k : Nat) (h : k < l.length) : roomAll (l.take k) + l[k].B.length + 10 ≤ roomAll l := by
  induction l generalizing k with
  | nil => simp at h
  | cons x r ih =>
    cases k with
    | zero => simp [roomAll]
    | succ k =>
      have := ih k (by simpa using h)
      simp only [List.take_succ_cons, roomAll, List.getElem_cons_succ]
      omega
theorem mayP_of {x : Pt} (h : mayB x = true) : mayP x.k x.n := by
  unfold mayB at h
  unfold mayP
  simpa using h
end Go.Proofs.Ytfjdojodbhmmaaa
