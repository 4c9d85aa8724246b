/- The document's answers. -/
import Derived.Test.YtfjdojodbhmmaaaY6
namespace Go.Proofs.Ytfjdojodbhmmaaa
open Go.RowKit
set_option linter.unusedVariables false

set_option maxRecDepth 100000 in
set_option maxHeartbeats 2000000 in
theorem told0 (w : World) (rv : Value) (pa : Option Addr) (hrv : rv = .pointer pa) (k a b : Int) (S : Nat → Prop) (R : World → Prop) (x : Int) (hx : 0 ≤ x ∧ x < 256) (hS : ∀ i, S i → i < w.heap.size)
    (hc : Calls Try.prog 69 #[rv] (Rw w k a b) fun e w' => e = .returned (.int .u8 x) ∧ R w' ∧ Turn S (Rw w k a b) w') (hk : k % 9 = 0) :
    Calls Try.prog 33 #[rv, .agg #[.int .i64 k, .int .i64 a, .int .i64 b]] w fun e w' => e = .returned (.agg #[.int .u64 x, .slice none 0 0]) ∧ ∃ w2, R w2 ∧ Turn S (Rw w k a b) w2 ∧ Turn (fun i => i = w.heap.size + 1) w2 w' := by
  subst hrv
  have hkind := fun w => kind_any w k
  rw [hk] at hkind
  clear hk
  obtain ⟨hx0, hx1⟩ := hx
  go_enter Try.func33, Try.ntmps33
  go_wp2_with (first | (go_at_call 9; refine (hkind _).mono ?_; rintro e w' ⟨rfl, rfl⟩) | (go_at_call 69; refine hc.mono ?_; rintro e w1 ⟨rfl, l1, l2⟩; obtain ⟨r0, r1, r2, r3⟩ := res_cells l2 hS))
  exact bodyPost_ret (v := .agg #[.int .u64 x, .slice none 0 0]) (by simp [results, Try.results33, go_sem, r0, r1]) rfl ⟨rfl, w1, l1, l2, (Turn.set1 _ _ _ _).trans (Turn.set1 _ _ _ _) (fun _ _ q => q)⟩
set_option maxRecDepth 100000 in
set_option maxHeartbeats 2000000 in
theorem told1t (w : World) (rv : Value) (pa : Option Addr) (hrv : rv = .pointer pa) (k a b : Int) (S : Nat → Prop) (R : World → Prop)  (hS : ∀ i, S i → i < w.heap.size)
    (hc : Calls Try.prog 70 #[rv] (Rw w k a b) fun e w' => e = .returned (.bool true) ∧ R w' ∧ Turn S (Rw w k a b) w') (hk : k % 9 = 1) :
    Calls Try.prog 33 #[rv, .agg #[.int .i64 k, .int .i64 a, .int .i64 b]] w fun e w' => e = .returned (.agg #[.int .u64 1, .slice none 0 0]) ∧ ∃ w2, R w2 ∧ Turn S (Rw w k a b) w2 ∧ Turn (fun i => i = w.heap.size + 1) w2 w' := by
  subst hrv
  have hkind := fun w => kind_any w k
  rw [hk] at hkind
  clear hk
  go_enter Try.func33, Try.ntmps33
  go_wp2_with (first | (go_at_call 9; refine (hkind _).mono ?_; rintro e w' ⟨rfl, rfl⟩) | (go_at_call 70; refine hc.mono ?_; rintro e w1 ⟨rfl, l1, l2⟩; obtain ⟨r0, r1, r2, r3⟩ := res_cells l2 hS) | go_in)
  exact bodyPost_ret (v := .agg #[.int .u64 1, .slice none 0 0]) (by simp [results, Try.results33, go_sem, r0, r1]) rfl ⟨rfl, w1, l1, l2, (Turn.set1 _ _ _ _).trans (Turn.set1 _ _ _ _) (fun _ _ q => q)⟩
set_option maxRecDepth 100000 in
set_option maxHeartbeats 2000000 in
theorem told1f (w : World) (rv : Value) (pa : Option Addr) (hrv : rv = .pointer pa) (k a b : Int) (S : Nat → Prop) (R : World → Prop)  (hS : ∀ i, S i → i < w.heap.size)
    (hc : Calls Try.prog 70 #[rv] (Rw w k a b) fun e w' => e = .returned (.bool false) ∧ R w' ∧ Turn S (Rw w k a b) w') (hk : k % 9 = 1) :
    Calls Try.prog 33 #[rv, .agg #[.int .i64 k, .int .i64 a, .int .i64 b]] w fun e w' => e = .returned (.agg #[.int .u64 0, .slice none 0 0]) ∧ ∃ w2, R w2 ∧ Turn S (Rw w k a b) w2 ∧ Turn (fun i => i = w.heap.size + 1) w2 w' := by
  subst hrv
  have hkind := fun w => kind_any w k
  rw [hk] at hkind
  clear hk
  go_enter Try.func33, Try.ntmps33
  go_wp2_with (first | (go_at_call 9; refine (hkind _).mono ?_; rintro e w' ⟨rfl, rfl⟩) | (go_at_call 70; refine hc.mono ?_; rintro e w1 ⟨rfl, l1, l2⟩; obtain ⟨r0, r1, r2, r3⟩ := res_cells l2 hS) | go_in)
  exact bodyPost_ret (v := .agg #[.int .u64 0, .slice none 0 0]) (by simp [results, Try.results33, go_sem, r0, r1]) rfl ⟨rfl, w1, l1, l2, (Turn.set1 _ _ _ _).trans (Turn.set1 _ _ _ _) (fun _ _ q => q)⟩
set_option maxRecDepth 100000 in
set_option maxHeartbeats 2000000 in
theorem told2 (w : World) (rv : Value) (pa : Option Addr) (hrv : rv = .pointer pa) (k a b : Int) (S : Nat → Prop) (R : World → Prop) (x : Int) (hx : 0 ≤ x ∧ x < 4294967296) (hS : ∀ i, S i → i < w.heap.size)
    (hc : Calls Try.prog 71 #[rv] (Rw w k a b) fun e w' => e = .returned (.int .u32 x) ∧ R w' ∧ Turn S (Rw w k a b) w') (hk : k % 9 = 2) :
    Calls Try.prog 33 #[rv, .agg #[.int .i64 k, .int .i64 a, .int .i64 b]] w fun e w' => e = .returned (.agg #[.int .u64 x, .slice none 0 0]) ∧ ∃ w2, R w2 ∧ Turn S (Rw w k a b) w2 ∧ Turn (fun i => i = w.heap.size + 1) w2 w' := by
  subst hrv
  have hkind := fun w => kind_any w k
  rw [hk] at hkind
  clear hk
  obtain ⟨hx0, hx1⟩ := hx
  go_enter Try.func33, Try.ntmps33
  go_wp2_with (first | (go_at_call 9; refine (hkind _).mono ?_; rintro e w' ⟨rfl, rfl⟩) | (go_at_call 71; refine hc.mono ?_; rintro e w1 ⟨rfl, l1, l2⟩; obtain ⟨r0, r1, r2, r3⟩ := res_cells l2 hS))
  exact bodyPost_ret (v := .agg #[.int .u64 x, .slice none 0 0]) (by simp [results, Try.results33, go_sem, r0, r1]) rfl ⟨rfl, w1, l1, l2, (Turn.set1 _ _ _ _).trans (Turn.set1 _ _ _ _) (fun _ _ q => q)⟩
set_option maxRecDepth 100000 in
set_option maxHeartbeats 2000000 in
theorem told3 (w : World) (rv : Value) (pa : Option Addr) (hrv : rv = .pointer pa) (k a b : Int) (S : Nat → Prop) (R : World → Prop) (x : Int) (hS : ∀ i, S i → i < w.heap.size)
    (hc : Calls Try.prog 72 #[rv] (Rw w k a b) fun e w' => e = .returned (.int .u64 x) ∧ R w' ∧ Turn S (Rw w k a b) w') (hk : k % 9 = 3) :
    Calls Try.prog 33 #[rv, .agg #[.int .i64 k, .int .i64 a, .int .i64 b]] w fun e w' => e = .returned (.agg #[.int .u64 x, .slice none 0 0]) ∧ ∃ w2, R w2 ∧ Turn S (Rw w k a b) w2 ∧ Turn (fun i => i = w.heap.size + 1) w2 w' := by
  subst hrv
  have hkind := fun w => kind_any w k
  rw [hk] at hkind
  clear hk
  go_enter Try.func33, Try.ntmps33
  go_wp2_with (first | (go_at_call 9; refine (hkind _).mono ?_; rintro e w' ⟨rfl, rfl⟩) | (go_at_call 72; refine hc.mono ?_; rintro e w1 ⟨rfl, l1, l2⟩; obtain ⟨r0, r1, r2, r3⟩ := res_cells l2 hS))
  exact bodyPost_ret (v := .agg #[.int .u64 x, .slice none 0 0]) (by simp [results, Try.results33, go_sem, r0, r1]) rfl ⟨rfl, w1, l1, l2, (Turn.set1 _ _ _ _).trans (Turn.set1 _ _ _ _) (fun _ _ q => q)⟩
set_option maxRecDepth 100000 in
set_option maxHeartbeats 2000000 in
theorem told4 (w : World) (rv : Value) (pa : Option Addr) (hrv : rv = .pointer pa) (k a b : Int) (S : Nat → Prop) (R : World → Prop) (x : Int) (hS : ∀ i, S i → i < w.heap.size)
    (hc : Calls Try.prog 73 #[rv] (Rw w k a b) fun e w' => e = .returned (.int .u64 x) ∧ R w' ∧ Turn S (Rw w k a b) w') (hk : k % 9 = 4) :
    Calls Try.prog 33 #[rv, .agg #[.int .i64 k, .int .i64 a, .int .i64 b]] w fun e w' => e = .returned (.agg #[.int .u64 x, .slice none 0 0]) ∧ ∃ w2, R w2 ∧ Turn S (Rw w k a b) w2 ∧ Turn (fun i => i = w.heap.size + 1) w2 w' := by
  subst hrv
  have hkind := fun w => kind_any w k
  rw [hk] at hkind
  clear hk
  go_enter Try.func33, Try.ntmps33
  go_wp2_with (first | (go_at_call 9; refine (hkind _).mono ?_; rintro e w' ⟨rfl, rfl⟩) | (go_at_call 73; refine hc.mono ?_; rintro e w1 ⟨rfl, l1, l2⟩; obtain ⟨r0, r1, r2, r3⟩ := res_cells l2 hS))
  exact bodyPost_ret (v := .agg #[.int .u64 x, .slice none 0 0]) (by simp [results, Try.results33, go_sem, r0, r1]) rfl ⟨rfl, w1, l1, l2, (Turn.set1 _ _ _ _).trans (Turn.set1 _ _ _ _) (fun _ _ q => q)⟩
set_option maxRecDepth 100000 in
set_option maxHeartbeats 2000000 in
theorem told8 (w : World) (rv : Value) (pa : Option Addr) (hrv : rv = .pointer pa) (k a b : Int) (S : Nat → Prop) (R : World → Prop) (x : Int) (hx : 0 ≤ x ∧ x < 9223372036854775808) (hS : ∀ i, S i → i < w.heap.size)
    (hc : Calls Try.prog 77 #[rv, .int .i64 a, .int .i64 b] (Rw w k a b) fun e w' => e = .returned (.int .i64 x) ∧ R w' ∧ Turn S (Rw w k a b) w') (hk : k % 9 = 8) :
    Calls Try.prog 33 #[rv, .agg #[.int .i64 k, .int .i64 a, .int .i64 b]] w fun e w' => e = .returned (.agg #[.int .u64 x, .slice none 0 0]) ∧ ∃ w2, R w2 ∧ Turn S (Rw w k a b) w2 ∧ Turn (fun i => i = w.heap.size + 1) w2 w' := by
  subst hrv
  have hkind := fun w => kind_any w k
  rw [hk] at hkind
  clear hk
  obtain ⟨hx0, hx1⟩ := hx
  go_enter Try.func33, Try.ntmps33
  go_wp2_with (first | (go_at_call 9; refine (hkind _).mono ?_; rintro e w' ⟨rfl, rfl⟩) | (go_at_call 77; refine hc.mono ?_; rintro e w1 ⟨rfl, l1, l2⟩; obtain ⟨r0, r1, r2, r3⟩ := res_cells l2 hS))
  exact bodyPost_ret (v := .agg #[.int .u64 x, .slice none 0 0]) (by simp [results, Try.results33, go_sem, r0, r1]) rfl ⟨rfl, w1, l1, l2, (Turn.set1 _ _ _ _).trans (Turn.set1 _ _ _ _) (fun _ _ q => q)⟩
set_option maxRecDepth 100000 in
set_option maxHeartbeats 2000000 in
theorem told5e (w : World) (rv : Value) (pa : Option Addr) (hrv : rv = .pointer pa) (k a b : Int) (S : Nat → Prop) (T : Value → World → Prop) (hS : ∀ i, S i → i < w.heap.size) (hT : ∀ v' w', T v' w' → (∃ ad n c, v' = .slice ad n c) ∧ Turn S (Rw w k a b) w')
    (hc : Calls Try.prog 74 #[rv, .int .i64 a] (Rw w k a b) fun e w' => ∃ v', e = .returned v' ∧ T v' w') (hk : k % 9 = 5) :
    Calls Try.prog 33 #[rv, .agg #[.int .i64 k, .int .i64 a, .int .i64 b]] w fun e w' => ∃ v', e = .returned (.agg #[.int .u64 0, v']) ∧ ∃ w2, T v' w2 ∧ Turn (fun i => i = w.heap.size + 1) w2 w' := by
  subst hrv
  have hkind := fun w => kind_any w k
  rw [hk] at hkind
  clear hk
  go_enter Try.func33, Try.ntmps33
  go_wp2_with (first | (go_at_call 9; refine (hkind _).mono ?_; rintro e w' ⟨rfl, rfl⟩) | (go_at_call 74; refine hc.mono ?_; rintro e w1 ⟨v1, rfl, l1⟩; obtain ⟨⟨ad, n, c, rfl⟩, l2⟩ := hT _ _ l1; obtain ⟨r0, r1, r2, r3⟩ := res_cells l2 hS))
  exact bodyPost_ret (v := .agg #[.int .u64 0, .slice ad n c]) (by simp [results, Try.results33, go_sem, r0, r1]) rfl ⟨_, rfl, w1, l1, (Turn.set1 _ _ _ _).trans (Turn.set1 _ _ _ _) (fun _ _ q => q)⟩
set_option maxRecDepth 100000 in
set_option maxHeartbeats 2000000 in
theorem told6e (w : World) (rv : Value) (pa : Option Addr) (hrv : rv = .pointer pa) (k a b : Int) (S : Nat → Prop) (T : Value → World → Prop) (hS : ∀ i, S i → i < w.heap.size) (hT : ∀ v' w', T v' w' → (∃ ad n c, v' = .slice ad n c) ∧ Turn S (Rw w k a b) w')
    (hc : Calls Try.prog 75 #[rv, .int .i64 a] (Rw w k a b) fun e w' => ∃ v', e = .returned v' ∧ T v' w') (hk : k % 9 = 6) :
    Calls Try.prog 33 #[rv, .agg #[.int .i64 k, .int .i64 a, .int .i64 b]] w fun e w' => ∃ v', e = .returned (.agg #[.int .u64 0, v']) ∧ ∃ w2, T v' w2 ∧ Turn (fun i => i = w.heap.size + 1) w2 w' := by
  subst hrv
  have hkind := fun w => kind_any w k
  rw [hk] at hkind
  clear hk
  go_enter Try.func33, Try.ntmps33
  go_wp2_with (first | (go_at_call 9; refine (hkind _).mono ?_; rintro e w' ⟨rfl, rfl⟩) | (go_at_call 75; refine hc.mono ?_; rintro e w1 ⟨v1, rfl, l1⟩; obtain ⟨⟨ad, n, c, rfl⟩, l2⟩ := hT _ _ l1; obtain ⟨r0, r1, r2, r3⟩ := res_cells l2 hS))
  exact bodyPost_ret (v := .agg #[.int .u64 0, .slice ad n c]) (by simp [results, Try.results33, go_sem, r0, r1]) rfl ⟨_, rfl, w1, l1, (Turn.set1 _ _ _ _).trans (Turn.set1 _ _ _ _) (fun _ _ q => q)⟩
set_option maxRecDepth 100000 in
set_option maxHeartbeats 2000000 in
theorem told7 (w : World) (rv : Value) (pa : Option Addr) (hrv : rv = .pointer pa) (k a b : Int) (S : Nat → Prop) (R : World → Prop) (x : ByteArray) (hx : x.size ≤ maxLen) (hS : ∀ i, S i → i < w.heap.size)
    (hc : Calls Try.prog 76 #[rv, .int .i64 a] (Rw w k a b) fun e w' => e = .returned (.string x) ∧ R w' ∧ Turn S (Rw w k a b) w') (hk : k % 9 = 7) :
    Calls Try.prog 33 #[rv, .agg #[.int .i64 k, .int .i64 a, .int .i64 b]] w fun e w' => ∃ v g, e = .returned (.agg #[.int .u64 0, v]) ∧ ∃ w2 w3, R w2 ∧ Turn S (Rw w k a b) w2 ∧ Turn no w2 w3 ∧ Bs w3 v x.data.toList ∧ v.ownBlock = some g ∧ w2.heap.size ≤ g ∧ Turn (fun i => i = w.heap.size + 1) w3 w' := by
  subst hrv
  have hkind := fun w => kind_any w k
  rw [hk] at hkind
  clear hk
  have hcv := fun w' => Lib.run_convert_string_bytes (P := Try.prog) w' 9 25 5 x Try.underlying9 Try.underlying25 Try.underlying5
  go_enter Try.func33, Try.ntmps33
  go_wp2_with (first | (go_at_call 9; refine (hkind _).mono ?_; rintro e w' ⟨rfl, rfl⟩) | (go_at_call 76; refine hc.mono ?_; rintro e w1 ⟨rfl, l1, l2⟩; have l3 := l2.then_no (bytesWorld_turn w1 5 x); obtain ⟨r0, r1, r2, r3⟩ := res_cells l3 hS))
  exact bodyPost_ret (v := .agg #[.int .u64 0, .slice (some ⟨w1.heap.size, 0, none⟩) x.size (grownCap w1 x.size 0 5)]) (by simp [results, Try.results33, go_sem, r0, r1]) rfl ⟨_, w1.heap.size, rfl, w1, _, l1, l2, bytesWorld_turn w1 5 x, bytesWorld_bs w1 x hx, rfl, Nat.le_refl _, (Turn.set1 _ _ _ _).trans (Turn.set1 _ _ _ _) (fun _ _ q => q)⟩

/-- What the document's read leaves. -/
def Told (w : World) (q : Nat) (v : Value) (bs : List UInt8) (r : Nat × List UInt8 × Nat × Int) (e : Ending) (w' : World) : Prop :=
  ∃ vB, e = .returned (.agg #[.int .u64 r.1, vB]) ∧ Bs w' vB r.2.1 ∧ (∀ g, vB.ownBlock = some g → w.heap.size ≤ g) ∧ Rq w' q v bs r.2.2.1 r.2.2.2 ∧ Turn (fun k => k = q) w w'
section
variable {w w2 w' : World} {q : Nat} {v : Value} {bs : List UInt8} {i i0 : Nat} {e e0 k a b : Int}
theorem Rq.back (h0 : Rq w q v bs i0 e0) (h : Rq w2 q v bs i e) (l' : Turn (fun j => j = w.heap.size + 1) w2 w') : Rq w' q v bs i e :=
  h.turn l' (fun k q r => by
    have hp := h0.lt
    rcases q with q | q
    · omega
    · have := h0.own.lt q
      omega)
theorem told_num {r : Nat × Nat × Int} (h0 : Rq w q v bs i0 e0) (h : Rq w2 q v bs r.2.1 r.2.2) (l : Turn (fun i => i = q) (Rw w k a b) w2) (l' : Turn (fun i => i = w.heap.size + 1) w2 w') :
    Told w q v bs (r.1, [], r.2) (.returned (.agg #[.int .u64 r.1, .slice none 0 0])) w' :=
  ⟨_, rfl, nil_bs w', fun g q => (by cases q), h0.back h l', back_p h0.lt l l'⟩
theorem told_bytes {r : List UInt8 × Nat × Int} {vB : Value} (h0 : Rq w q v bs i0 e0) (hb : Bs w2 vB r.1) (hf : ∀ g, vB.ownBlock = some g → w.heap.size + 2 ≤ g) (h : Rq w2 q v bs r.2.1 r.2.2) (l : Turn (fun i => i = q) (Rw w k a b) w2) (l' : Turn (fun i => i = w.heap.size + 1) w2 w') :
    Told w q v bs (0, r) (.returned (.agg #[.int .u64 0, vB])) w' :=
  ⟨vB, rfl, hb.turn l' (fun g q r => by have := hf g q; omega), fun g q => by have := hf g q; omega, h0.back h l', back_p h0.lt l l'⟩
/-- What By says, without the ending. -/
def ByT (w : World) (q : Nat) (v : Value) (bs : List UInt8) (r : List UInt8 × Nat × Int) (v' : Value) (w' : World) : Prop :=
  Own w' 5 v' (r.1.map bv) ∧ (∀ g, v'.ownBlock = some g → w.heap.size ≤ g) ∧ Rq w' q v bs r.2.1 r.2.2 ∧ Turn (fun k => k = q) w w'
theorem ByT.form {r : List UInt8 × Nat × Int} {v' : Value} (h : ByT w q v bs r v' w') : (∃ ad n c, v' = .slice ad n c) ∧ Turn (fun j => j = q) w w' := ⟨h.1.form, h.2.2.2⟩
theorem told_of {r : List UInt8 × Nat × Int} {vB : Value} (h0 : Rq w q v bs i0 e0) (hb : ByT (Rw w k a b) q v bs r vB w2) (l' : Turn (fun i => i = w.heap.size + 1) w2 w') :
    Told w q v bs (0, r) (.returned (.agg #[.int .u64 0, vB])) w' :=
  told_bytes h0 hb.1.bs (fun g q => by have := hb.2.1 g q; rw [Rw.size] at this; exact this) hb.2.2.1 hb.2.2.2 l'
end

theorem told_any (w : World) (q : Nat) (v : Value) (bs : List UInt8) (i : Nat) (e0 : Int) (k a b : Int) (ha : a < 9223372036854775808) (hb : b < 9223372036854775808) (hle : bs.length ≤ 140737488355328) (h : Rq w q v bs i e0) :
    Calls Try.prog 33 #[.pointer (some ⟨q, 0, none⟩), .agg #[.int .i64 k, .int .i64 a, .int .i64 b]] w (Told w q v bs (rgets bs i e0 k a b)) := by
  have hW := h.turn_no (Rw.turn w k a b)
  have hk : k % 9 = 0 ∨ k % 9 = 1 ∨ k % 9 = 2 ∨ k % 9 = 3 ∨ k % 9 = 4 ∨ k % 9 = 5 ∨ k % 9 = 6 ∨ k % 9 = 7 ∨ k % 9 = 8 := by omega
  have hS : ∀ i, i = q → i < w.heap.size := fun i r => by rw [r]; exact h.lt
  unfold rgets
  by_cases he : e0 = 0
  · subst he
    rw [if_pos rfl]
    rcases hk with hk | hk | hk | hk | hk | hk | hk | hk | hk
    · have hr : rget bs i k a b = ((rfix bs i 1).1, [], (rfix bs i 1).2) := by unfold rget; rw [if_pos hk]
      rw [hr]
      unfold rfix
      by_cases h1 : bs.length - i < 1
      · rw [if_pos h1]
        refine (told0 w _ _ rfl k a b (fun j => j = q) (fun w' => Rq w' q v bs i 10) 0 (by omega) hS (byte69_cut hW h1 hle) hk).mono ?_
        rintro e w' ⟨rfl, w2, k1, l, l'⟩
        exact told_num (r := (0, i, 10)) h k1 l l'
      · rw [if_neg h1]
        have hb1 := lsum_lt (bs.drop i) 1
        refine (told0 w _ _ rfl k a b (fun j => j = q) (fun w' => Rq w' q v bs (i + 1) 0) _ (by omega) hS (byte69_ok hW (by have := h.le; omega) hle) hk).mono ?_
        rintro e w' ⟨rfl, w2, k1, l, l'⟩
        exact told_num (r := (_, i + 1, 0)) h k1 l l'
    · have hr : rget bs i k a b = ((rbool bs i).1, [], (rbool bs i).2) := by unfold rget; rw [if_neg (by omega)]; rw [if_pos hk]
      rw [hr]
      unfold rbool
      by_cases h1 : bs.length - i < 1
      · rw [if_pos h1]
        refine (told1f w _ _ rfl k a b (fun j => j = q) (fun w' => Rq w' q v bs i 10) hS (bool70_cut hW h1 hle) hk).mono ?_
        rintro e w' ⟨rfl, w2, k1, l, l'⟩
        exact told_num (r := (0, i, 10)) h k1 l l'
      · rw [if_neg h1]
        have hl1 : i + 1 ≤ bs.length := by have := h.le; omega
        by_cases h2 : 1 < lsum (bs.drop i) 1
        · rw [if_pos h2]
          refine (told1f w _ _ rfl k a b (fun j => j = q) (fun w' => Rq w' q v bs i 11) hS (bool70_form hW hl1 hle h2) hk).mono ?_
          rintro e w' ⟨rfl, w2, k1, l, l'⟩
          exact told_num (r := (0, i, 11)) h k1 l l'
        · rw [if_neg h2]
          have hg := bool70_ok hW hl1 hle h2
          by_cases h3 : lsum (bs.drop i) 1 = 1
          · rw [h3] at hg ⊢
            refine (told1t w _ _ rfl k a b (fun j => j = q) (fun w' => Rq w' q v bs (i + 1) 0) hS hg hk).mono ?_
            rintro e w' ⟨rfl, w2, k1, l, l'⟩
            exact told_num (r := (1, i + 1, 0)) h k1 l l'
          · have h4 : lsum (bs.drop i) 1 = 0 := by omega
            rw [h4] at hg ⊢
            refine (told1f w _ _ rfl k a b (fun j => j = q) (fun w' => Rq w' q v bs (i + 1) 0) hS hg hk).mono ?_
            rintro e w' ⟨rfl, w2, k1, l, l'⟩
            exact told_num (r := (0, i + 1, 0)) h k1 l l'
    · have hr : rget bs i k a b = ((rfix bs i 4).1, [], (rfix bs i 4).2) := by unfold rget; rw [if_neg (by omega)]; rw [if_neg (by omega)]; rw [if_pos hk]
      rw [hr]
      unfold rfix
      by_cases h1 : bs.length - i < 4
      · rw [if_pos h1]
        refine (told2 w _ _ rfl k a b (fun j => j = q) (fun w' => Rq w' q v bs i 10) 0 (by omega) hS (u32_cut hW h1 hle) hk).mono ?_
        rintro e w' ⟨rfl, w2, k1, l, l'⟩
        exact told_num (r := (0, i, 10)) h k1 l l'
      · rw [if_neg h1]
        have hb1 := lsum_lt (bs.drop i) 4
        refine (told2 w _ _ rfl k a b (fun j => j = q) (fun w' => Rq w' q v bs (i + 4) 0) _ (by omega) hS (u32_ok hW (by have := h.le; omega) hle) hk).mono ?_
        rintro e w' ⟨rfl, w2, k1, l, l'⟩
        exact told_num (r := (_, i + 4, 0)) h k1 l l'
    · have hr : rget bs i k a b = ((rfix bs i 8).1, [], (rfix bs i 8).2) := by unfold rget; rw [if_neg (by omega)]; rw [if_neg (by omega)]; rw [if_neg (by omega)]; rw [if_pos hk]
      rw [hr]
      unfold rfix
      by_cases h1 : bs.length - i < 8
      · rw [if_pos h1]
        refine (told3 w _ _ rfl k a b (fun j => j = q) (fun w' => Rq w' q v bs i 10) 0 hS (u64_cut hW h1 hle) hk).mono ?_
        rintro e w' ⟨rfl, w2, k1, l, l'⟩
        exact told_num (r := (0, i, 10)) h k1 l l'
      · rw [if_neg h1]
        have hb1 := lsum_lt (bs.drop i) 8
        refine (told3 w _ _ rfl k a b (fun j => j = q) (fun w' => Rq w' q v bs (i + 8) 0) _ hS (u64_ok hW (by have := h.le; omega) hle) hk).mono ?_
        rintro e w' ⟨rfl, w2, k1, l, l'⟩
        exact told_num (r := (_, i + 8, 0)) h k1 l l'
    · have hr : rget bs i k a b = ((rvar bs i).1, [], (rvar bs i).2) := by unfold rget; rw [if_neg (by omega)]; rw [if_neg (by omega)]; rw [if_neg (by omega)]; rw [if_neg (by omega)]; rw [if_pos hk]
      rw [hr]
      refine (told4 w _ _ rfl k a b (fun j => j = q) (fun w' => Rq w' q v bs (rvar bs i).2.1 (rvar bs i).2.2) _ hS (var73 _ q v bs i hW hle) hk).mono ?_
      rintro e w' ⟨rfl, w2, k1, l, l'⟩
      exact told_num h k1 l l'
    · have hr : rget bs i k a b = (0, rraw bs i a) := by unfold rget; rw [if_neg (by omega)]; rw [if_neg (by omega)]; rw [if_neg (by omega)]; rw [if_neg (by omega)]; rw [if_neg (by omega)]; rw [if_pos hk]
      rw [hr]
      refine (told5e w _ _ rfl k a b (fun j => j = q) (ByT (Rw w k a b) q v bs (rraw bs i a)) hS (fun _ _ q => q.form) (raw74 hW a ha hle) hk).mono ?_
      rintro e w' ⟨v', rfl, w2, k1, l'⟩
      exact told_of h k1 l'
    · have hr : rget bs i k a b = (0, rbytes bs i a) := by unfold rget; rw [if_neg (by omega)]; rw [if_neg (by omega)]; rw [if_neg (by omega)]; rw [if_neg (by omega)]; rw [if_neg (by omega)]; rw [if_neg (by omega)]; rw [if_pos hk]
      rw [hr]
      refine (told6e w _ _ rfl k a b (fun j => j = q) (ByT (Rw w k a b) q v bs (rbytes bs i a)) hS (fun _ _ q => q.form) (bytes75 hW a ha hle) hk).mono ?_
      rintro e w' ⟨v', rfl, w2, k1, l'⟩
      exact told_of h k1 l'
    · have hr : rget bs i k a b = (0, rbytes bs i a) := by unfold rget; rw [if_neg (by omega)]; rw [if_neg (by omega)]; rw [if_neg (by omega)]; rw [if_neg (by omega)]; rw [if_neg (by omega)]; rw [if_neg (by omega)]; rw [if_neg (by omega)]; rw [if_pos hk]
      rw [hr]
      have hsz : (⟨(rbytes bs i a).1.toArray⟩ : ByteArray).size ≤ maxLen := by
        have := rbytes_le bs i a
        show (rbytes bs i a).1.toArray.size ≤ maxLen
        simp [maxLen]
        omega
      refine (told7 w _ _ rfl k a b (fun j => j = q) (fun w' => Rq w' q v bs (rbytes bs i a).2.1 (rbytes bs i a).2.2) _ hsz hS (text76 hW a ha hle) hk).mono ?_
      rintro e w' ⟨vB, g, rfl, w2, w3, k1, l, l3, hbb, hg, hgs, l'⟩
      have hs2 := l.size
      rw [Rw.size] at hs2
      exact told_bytes h hbb (fun g' q => by rw [hg] at q; cases q; omega) (k1.turn_no l3) (l.then_no l3) l'
    · have hr : rget bs i k a b = ((rcount bs i a b).1, [], (rcount bs i a b).2) := by unfold rget; rw [if_neg (by omega)]; rw [if_neg (by omega)]; rw [if_neg (by omega)]; rw [if_neg (by omega)]; rw [if_neg (by omega)]; rw [if_neg (by omega)]; rw [if_neg (by omega)]; rw [if_neg (by omega)]
      rw [hr]
      refine (told8 w _ _ rfl k a b (fun j => j = q) (fun w' => Rq w' q v bs (rcount bs i a b).2.1 (rcount bs i a b).2.2) _ (rcount_lt ha) hS (count77 hW a b ha hb hle) hk).mono ?_
      rintro e w' ⟨rfl, w2, k1, l, l'⟩
      exact told_num h k1 l l'
  · rw [if_neg he]
    have h0 : (e0 != 0) = true := by simpa using he
    rcases hk with hk | hk | hk | hk | hk | hk | hk | hk | hk
    · refine (told0 w _ _ rfl k a b (fun j => j = q) (fun w' => Rq w' q v bs i e0) 0 (by omega) hS (byte69_err e0 h0 hW) hk).mono ?_
      rintro e w' ⟨rfl, w2, k1, l, l'⟩
      exact told_num (r := (0, i, e0)) h k1 l l'
    · refine (told1f w _ _ rfl k a b (fun j => j = q) (fun w' => Rq w' q v bs i e0) hS (bool70_err e0 h0 hW) hk).mono ?_
      rintro e w' ⟨rfl, w2, k1, l, l'⟩
      exact told_num (r := (0, i, e0)) h k1 l l'
    · refine (told2 w _ _ rfl k a b (fun j => j = q) (fun w' => Rq w' q v bs i e0) 0 (by omega) hS (u32_err e0 h0 hW) hk).mono ?_
      rintro e w' ⟨rfl, w2, k1, l, l'⟩
      exact told_num (r := (0, i, e0)) h k1 l l'
    · refine (told3 w _ _ rfl k a b (fun j => j = q) (fun w' => Rq w' q v bs i e0) 0 hS (u64_err e0 h0 hW) hk).mono ?_
      rintro e w' ⟨rfl, w2, k1, l, l'⟩
      exact told_num (r := (0, i, e0)) h k1 l l'
    · refine (told4 w _ _ rfl k a b (fun j => j = q) (fun w' => Rq w' q v bs i e0) 0 hS (var73_err e0 h0 hW) hk).mono ?_
      rintro e w' ⟨rfl, w2, k1, l, l'⟩
      exact told_num (r := (0, i, e0)) h k1 l l'
    · refine (told5e w _ _ rfl k a b (fun j => j = q) (ByT (Rw w k a b) q v bs ([], i, e0)) hS (fun _ _ q => q.form) (raw74_err e0 h0 hW a) hk).mono ?_
      rintro e w' ⟨v', rfl, w2, k1, l'⟩
      exact told_of h k1 l'
    · refine (told6e w _ _ rfl k a b (fun j => j = q) (ByT (Rw w k a b) q v bs ([], i, e0)) hS (fun _ _ q => q.form) (bytes75_err e0 h0 hW a) hk).mono ?_
      rintro e w' ⟨v', rfl, w2, k1, l'⟩
      exact told_of h k1 l'
    · refine (told7 w _ _ rfl k a b (fun j => j = q) (fun w' => Rq w' q v bs i e0) ByteArray.empty (Nat.zero_le _) hS (text76_err e0 h0 hW a) hk).mono ?_
      rintro e w' ⟨vB, g, rfl, w2, w3, k1, l, l3, hbb, hg, hgs, l'⟩
      have hs2 := l.size
      rw [Rw.size] at hs2
      exact told_bytes (r := ([], i, e0)) h hbb (fun g' q => by rw [hg] at q; cases q; omega) (k1.turn_no l3) (l.then_no l3) l'
    · refine (told8 w _ _ rfl k a b (fun j => j = q) (fun w' => Rq w' q v bs i e0) 0 (by omega) hS (count77_err e0 h0 hW a b) hk).mono ?_
      rintro e w' ⟨rfl, w2, k1, l, l'⟩
      exact told_num (r := (0, i, e0)) h k1 l l'
end Go.Proofs.Ytfjdojodbhmmaaa
