/- Walks: lay and read where nothing was made; alive. -/
import Derived.Test.YtfjdojodbhmmaaaW5
import Derived.Lib.ConvBytes
namespace Go.Proofs.Ytfjdojodbhmmaaa
open Go.RowKit

theorem foldl_bytes : ∀ (l : List UInt8) (s : ByteArray), (l.map fun b => (b.toNat : Int)).foldl (fun r n => r.push (UInt8.ofNat n.toNat)) s = ⟨s.data ++ l.toArray⟩
  | [], s => by simp
  | b :: l, s => by
    rw [List.map_cons, List.foldl_cons, foldl_bytes l]
    simp [ByteArray.push]

/-- A slice of bytes turned into a text. -/
theorem bytes_text {w : World} {v : Value} {bs : List UInt8} (hb : Bs w v bs) : (convert 25 9 v).run Try.prog w = .ok (.string ⟨bs.toArray⟩) w := by
  obtain ⟨a, c, hv⟩ := hb.slice
  subst hv
  rw [run_convert_bytes_string w 25 9 5 a bs.length c Try.underlying25 Try.underlying5 Try.underlying9]
  rcases hb with ⟨h, rfl⟩ | ⟨a', c', h, _, _, h3⟩
  · cases h
    simp [Conv.bytesToString]
    rfl
  · cases h
    have hl := run_loadCells_list (P := Try.prog) w a' (bs.map bv) (fun j u hu => by
      rw [List.getElem?_map] at hu
      cases hb : bs[j]? with
      | none => rw [hb] at hu; cases hu
      | some b => rw [hb] at hu; cases hu; exact h3 j b hb)
    have e1 : bs.map bv = (bs.map fun b => (b.toNat : Int)).map (Value.int .u8) := by rw [List.map_map]; rfl
    rw [List.length_map, e1] at hl
    rw [run_bytesToString w a' bs.length c (bs.map fun b => (b.toNat : Int)) hl, foldl_bytes]
    simp

set_option maxRecDepth 100000 in
set_option maxHeartbeats 4000000 in
theorem lay_unmade (w : World) (wv : Value) (k n : Int) (vb : Value) (bs : List UInt8) (h : Unmade w wv) (hb : Bs w vb bs) (hle : bs.length + 3 ≤ 140737488355328) :
    Calls Try.prog 22 #[wv, .agg #[.int .i64 k, .int .u64 n, vb]] w fun e w' => e = .returned (.bool true) ∧ Turn no w w' := by
  have hT0 : Turn no w (w.alloc (.cells #[.int .i64 k, .int .u64 n, vb] 27)) := (Turn.refl _ _).alloc _
  have hF := (h.turn_no hT0).fault
  have hb0 := hb.turn_no hT0
  have hcv := bytes_text hb0
  obtain ⟨pa, rfl⟩ := hF.ptr
  obtain ⟨a, c, rfl⟩ := hb.slice
  have hk : k % 9 = 0 ∨ k % 9 = 1 ∨ k % 9 = 2 ∨ k % 9 = 3 ∨ k % 9 = 4 ∨ k % 9 = 5 ∨ k % 9 = 6 ∨ k % 9 = 7 ∨ k % 9 = 8 := by omega
  have hkind := fun w => kind_any w k
  rcases hk with hk | hk | hk | hk | hk | hk | hk | hk | hk
  · rw [hk] at hkind
    clear hk
    go_enter Try.func22, Try.ntmps22
    go_wp2_with (first | (go_at_call 9; refine (hkind _).mono ?_; rintro e w' ⟨rfl, rfl⟩) | (go_at_call 48; refine (wbyte_err _ _ _ 1 hF rfl).mono ?_; rintro e w' ⟨rfl, rfl⟩))
    go_ret
    exact ⟨rfl, hT0⟩
  · rw [hk] at hkind
    clear hk
    go_enter Try.func22, Try.ntmps22
    go_wp2_with (first | (go_at_call 9; refine (hkind _).mono ?_; rintro e w' ⟨rfl, rfl⟩) | (go_at_call 49; refine (wbool_err _ _ _ 1 hF rfl).mono ?_; rintro e w' ⟨rfl, rfl⟩))
    go_ret
    exact ⟨rfl, hT0⟩
  · rw [hk] at hkind
    clear hk
    go_enter Try.func22, Try.ntmps22
    go_wp2_with (first | (go_at_call 9; refine (hkind _).mono ?_; rintro e w' ⟨rfl, rfl⟩) | (go_at_call 50; refine (wu32_err _ _ _ 1 hF rfl).mono ?_; rintro e w' ⟨rfl, rfl⟩))
    go_ret
    exact ⟨rfl, hT0⟩
  · rw [hk] at hkind
    clear hk
    go_enter Try.func22, Try.ntmps22
    go_wp2_with (first | (go_at_call 9; refine (hkind _).mono ?_; rintro e w' ⟨rfl, rfl⟩) | (go_at_call 51; refine (wu64_err _ _ _ 1 hF rfl).mono ?_; rintro e w' ⟨rfl, rfl⟩))
    go_ret
    exact ⟨rfl, hT0⟩
  · rw [hk] at hkind
    clear hk
    go_enter Try.func22, Try.ntmps22
    go_wp2_with (first | (go_at_call 9; refine (hkind _).mono ?_; rintro e w' ⟨rfl, rfl⟩) | (go_at_call 52; refine (wvar_err _ _ _ 1 hF rfl).mono ?_; rintro e w' ⟨rfl, rfl⟩))
    go_ret
    exact ⟨rfl, hT0⟩
  · rw [hk] at hkind
    clear hk
    go_enter Try.func22, Try.ntmps22
    go_wp2_with (first | (go_at_call 9; refine (hkind _).mono ?_; rintro e w' ⟨rfl, rfl⟩) | (go_at_call 29; refine (lent_any _ _ bs hb0 hle).mono ?_; rintro e w1 ⟨v1, g1, rfl, l1, l2, l3, l4⟩))
    have l4' := l4
    have hF1 := hF.turn l4 (fun _ _ q => q)
    have hb1 := hb0.turn_no l4
    have hc2 : w1.cell? ⟨w.heap.size, 2, none⟩ = some (.slice a bs.length c) := l4.keep (by rw [cell_of_row _ w.heap.size 2 _ 27 (0, 0) (heap_alloc_new w _)]; rfl) (fun q => q)
    have L := l1
    obtain ⟨g', cap', cur', rfl, _⟩ := l1
    clear l4
    go_wp2_with (first | (go_at_call 53; refine (wraw_err _ _ _ 1 hF1 rfl).mono ?_; rintro e w' ⟨rfl, rfl⟩) | (go_at_call 30; refine (left_any _ _ _ bs g1 L l2 hb1 hle).mono ?_; rintro e w2 ⟨rfl, l5⟩))
    go_ret
    exact ⟨rfl, (hT0.then_no l4').trans l5 (fun i hi q => by subst q; simp at l3; omega)⟩
  · rw [hk] at hkind
    clear hk
    go_enter Try.func22, Try.ntmps22
    go_wp2_with (first | (go_at_call 9; refine (hkind _).mono ?_; rintro e w' ⟨rfl, rfl⟩) | (go_at_call 29; refine (lent_any _ _ bs hb0 hle).mono ?_; rintro e w1 ⟨v1, g1, rfl, l1, l2, l3, l4⟩))
    have l4' := l4
    have hF1 := hF.turn l4 (fun _ _ q => q)
    have hb1 := hb0.turn_no l4
    have hc2 : w1.cell? ⟨w.heap.size, 2, none⟩ = some (.slice a bs.length c) := l4.keep (by rw [cell_of_row _ w.heap.size 2 _ 27 (0, 0) (heap_alloc_new w _)]; rfl) (fun q => q)
    have L := l1
    obtain ⟨g', cap', cur', rfl, _⟩ := l1
    clear l4
    go_wp2_with (first | (go_at_call 54; refine (wbytes_err _ _ _ _ _ 1 hF1 rfl).mono ?_; rintro e w' ⟨rfl, rfl⟩) | (go_at_call 30; refine (left_any _ _ _ bs g1 L l2 hb1 hle).mono ?_; rintro e w2 ⟨rfl, l5⟩))
    go_ret
    exact ⟨rfl, (hT0.then_no l4').trans l5 (fun i hi q => by subst q; simp at l3; omega)⟩
  · rw [hk] at hkind
    clear hk
    go_enter Try.func22, Try.ntmps22
    go_wp2_with (first | (go_at_call 9; refine (hkind _).mono ?_; rintro e w' ⟨rfl, rfl⟩) | (go_at_call 55; refine (wtext_err _ _ _ 1 hF rfl).mono ?_; rintro e w' ⟨rfl, rfl⟩))
    go_ret
    exact ⟨rfl, hT0⟩
  · rw [hk] at hkind
    clear hk
    go_enter Try.func22, Try.ntmps22
    go_wp2_with (first | (go_at_call 9; refine (hkind _).mono ?_; rintro e w' ⟨rfl, rfl⟩) | (go_at_call 56; refine (wcount_err _ _ _ 1 hF rfl).mono ?_; rintro e w' ⟨rfl, rfl⟩))
    go_ret
    exact ⟨rfl, hT0⟩
/-- The world ahead of a read's own call: the read and the answer's place are laid. -/
def Rw (w : World) (k a b : Int) : World := (w.alloc (.cells #[.int .i64 k, .int .i64 a, .int .i64 b] 48)).alloc (.cells #[.int .u64 0, .slice none 0 0] 33)

theorem Rw.turn (w : World) (k a b : Int) : Turn no w (Rw w k a b) := ((Turn.refl _ _).alloc _).alloc _

theorem res_cells {S : Nat → Prop} {w w1 : World} {k a b : Int} (h : Turn S (Rw w k a b) w1) (hS : ∀ i, S i → i < w.heap.size) :
    w1.cell? ⟨w.heap.size + 1, 0, none⟩ = some (.int .u64 0) ∧ w1.cell? ⟨w.heap.size + 1, 1, none⟩ = some (.slice none 0 0) ∧ w1.frozen? ⟨w.heap.size + 1, 0, none⟩ = false ∧ w1.frozen? ⟨w.heap.size + 1, 1, none⟩ = false := by
  have h0 : (Rw w k a b).heap[w.heap.size + 1]? = some (.cells #[.int .u64 0, .slice none 0 0] 33) := by
    have := heap_alloc_new (w.alloc (.cells #[.int .i64 k, .int .i64 a, .int .i64 b] 48)) (.cells #[.int .u64 0, .slice none 0 0] 33)
    simpa [Rw] using this
  have h1 := h.obj h0 (fun q => by have := hS _ q; omega)
  exact ⟨by rw [cell_of_row w1 _ 0 _ 33 (0, 0) h1]; rfl, by rw [cell_of_row w1 _ 1 _ 33 (0, 0) h1]; rfl, frozen_of_row w1 _ 0 _ 33 h1, frozen_of_row w1 _ 1 _ 33 h1⟩

set_option maxRecDepth 100000 in
set_option maxHeartbeats 2000000 in
theorem read0 (w : World) (rv : Value) (pa : Option Addr) (hrv : rv = .pointer pa) (k a b : Int) (S : Nat → Prop) (R : World → Prop) (x : Int) (hx : 0 ≤ x ∧ x < 256) (hS : ∀ i, S i → i < w.heap.size)
    (hc : Calls Try.prog 38 #[rv] (Rw w k a b) fun e w' => e = .returned (.int .u8 x) ∧ R w' ∧ Turn S (Rw w k a b) w') (hk : k % 9 = 0) :
    Calls Try.prog 20 #[rv, .agg #[.int .i64 k, .int .i64 a, .int .i64 b]] w fun e w' => e = .returned (.agg #[.int .u64 x, .slice none 0 0]) ∧ ∃ w2, R w2 ∧ Turn S (Rw w k a b) w2 ∧ Turn (fun i => i = w.heap.size + 1) w2 w' := by
  subst hrv
  have hkind := fun w => kind_any w k
  rw [hk] at hkind
  clear hk
  obtain ⟨hx0, hx1⟩ := hx
  go_enter Try.func20, Try.ntmps20
  go_wp2_with (first | (go_at_call 9; refine (hkind _).mono ?_; rintro e w' ⟨rfl, rfl⟩) | (go_at_call 38; refine hc.mono ?_; rintro e w1 ⟨rfl, l1, l2⟩; obtain ⟨r0, r1, r2, r3⟩ := res_cells l2 hS))
  exact bodyPost_ret (v := .agg #[.int .u64 x, .slice none 0 0]) (by simp [results, Try.results20, go_sem, r0, r1]) rfl ⟨rfl, w1, l1, l2, (Turn.set1 _ _ _ _).trans (Turn.set1 _ _ _ _) (fun _ _ q => q)⟩

set_option maxRecDepth 100000 in
set_option maxHeartbeats 2000000 in
theorem read1t (w : World) (rv : Value) (pa : Option Addr) (hrv : rv = .pointer pa) (k a b : Int) (S : Nat → Prop) (R : World → Prop)  (hS : ∀ i, S i → i < w.heap.size)
    (hc : Calls Try.prog 40 #[rv] (Rw w k a b) fun e w' => e = .returned (.bool true) ∧ R w' ∧ Turn S (Rw w k a b) w') (hk : k % 9 = 1) :
    Calls Try.prog 20 #[rv, .agg #[.int .i64 k, .int .i64 a, .int .i64 b]] w fun e w' => e = .returned (.agg #[.int .u64 1, .slice none 0 0]) ∧ ∃ w2, R w2 ∧ Turn S (Rw w k a b) w2 ∧ Turn (fun i => i = w.heap.size + 1) w2 w' := by
  subst hrv
  have hkind := fun w => kind_any w k
  rw [hk] at hkind
  clear hk
  go_enter Try.func20, Try.ntmps20
  go_wp2_with (first | (go_at_call 9; refine (hkind _).mono ?_; rintro e w' ⟨rfl, rfl⟩) | (go_at_call 40; refine hc.mono ?_; rintro e w1 ⟨rfl, l1, l2⟩; obtain ⟨r0, r1, r2, r3⟩ := res_cells l2 hS) | go_in)
  exact bodyPost_ret (v := .agg #[.int .u64 1, .slice none 0 0]) (by simp [results, Try.results20, go_sem, r0, r1]) rfl ⟨rfl, w1, l1, l2, (Turn.set1 _ _ _ _).trans (Turn.set1 _ _ _ _) (fun _ _ q => q)⟩

set_option maxRecDepth 100000 in
set_option maxHeartbeats 2000000 in
theorem read1f (w : World) (rv : Value) (pa : Option Addr) (hrv : rv = .pointer pa) (k a b : Int) (S : Nat → Prop) (R : World → Prop)  (hS : ∀ i, S i → i < w.heap.size)
    (hc : Calls Try.prog 40 #[rv] (Rw w k a b) fun e w' => e = .returned (.bool false) ∧ R w' ∧ Turn S (Rw w k a b) w') (hk : k % 9 = 1) :
    Calls Try.prog 20 #[rv, .agg #[.int .i64 k, .int .i64 a, .int .i64 b]] w fun e w' => e = .returned (.agg #[.int .u64 0, .slice none 0 0]) ∧ ∃ w2, R w2 ∧ Turn S (Rw w k a b) w2 ∧ Turn (fun i => i = w.heap.size + 1) w2 w' := by
  subst hrv
  have hkind := fun w => kind_any w k
  rw [hk] at hkind
  clear hk
  go_enter Try.func20, Try.ntmps20
  go_wp2_with (first | (go_at_call 9; refine (hkind _).mono ?_; rintro e w' ⟨rfl, rfl⟩) | (go_at_call 40; refine hc.mono ?_; rintro e w1 ⟨rfl, l1, l2⟩; obtain ⟨r0, r1, r2, r3⟩ := res_cells l2 hS) | go_in)
  exact bodyPost_ret (v := .agg #[.int .u64 0, .slice none 0 0]) (by simp [results, Try.results20, go_sem, r0, r1]) rfl ⟨rfl, w1, l1, l2, (Turn.set1 _ _ _ _).trans (Turn.set1 _ _ _ _) (fun _ _ q => q)⟩

set_option maxRecDepth 100000 in
set_option maxHeartbeats 2000000 in
theorem read2 (w : World) (rv : Value) (pa : Option Addr) (hrv : rv = .pointer pa) (k a b : Int) (S : Nat → Prop) (R : World → Prop) (x : Int) (hx : 0 ≤ x ∧ x < 4294967296) (hS : ∀ i, S i → i < w.heap.size)
    (hc : Calls Try.prog 41 #[rv] (Rw w k a b) fun e w' => e = .returned (.int .u32 x) ∧ R w' ∧ Turn S (Rw w k a b) w') (hk : k % 9 = 2) :
    Calls Try.prog 20 #[rv, .agg #[.int .i64 k, .int .i64 a, .int .i64 b]] w fun e w' => e = .returned (.agg #[.int .u64 x, .slice none 0 0]) ∧ ∃ w2, R w2 ∧ Turn S (Rw w k a b) w2 ∧ Turn (fun i => i = w.heap.size + 1) w2 w' := by
  subst hrv
  have hkind := fun w => kind_any w k
  rw [hk] at hkind
  clear hk
  obtain ⟨hx0, hx1⟩ := hx
  go_enter Try.func20, Try.ntmps20
  go_wp2_with (first | (go_at_call 9; refine (hkind _).mono ?_; rintro e w' ⟨rfl, rfl⟩) | (go_at_call 41; refine hc.mono ?_; rintro e w1 ⟨rfl, l1, l2⟩; obtain ⟨r0, r1, r2, r3⟩ := res_cells l2 hS))
  exact bodyPost_ret (v := .agg #[.int .u64 x, .slice none 0 0]) (by simp [results, Try.results20, go_sem, r0, r1]) rfl ⟨rfl, w1, l1, l2, (Turn.set1 _ _ _ _).trans (Turn.set1 _ _ _ _) (fun _ _ q => q)⟩

set_option maxRecDepth 100000 in
set_option maxHeartbeats 2000000 in
theorem read3 (w : World) (rv : Value) (pa : Option Addr) (hrv : rv = .pointer pa) (k a b : Int) (S : Nat → Prop) (R : World → Prop) (x : Int) (hS : ∀ i, S i → i < w.heap.size)
    (hc : Calls Try.prog 42 #[rv] (Rw w k a b) fun e w' => e = .returned (.int .u64 x) ∧ R w' ∧ Turn S (Rw w k a b) w') (hk : k % 9 = 3) :
    Calls Try.prog 20 #[rv, .agg #[.int .i64 k, .int .i64 a, .int .i64 b]] w fun e w' => e = .returned (.agg #[.int .u64 x, .slice none 0 0]) ∧ ∃ w2, R w2 ∧ Turn S (Rw w k a b) w2 ∧ Turn (fun i => i = w.heap.size + 1) w2 w' := by
  subst hrv
  have hkind := fun w => kind_any w k
  rw [hk] at hkind
  clear hk
  go_enter Try.func20, Try.ntmps20
  go_wp2_with (first | (go_at_call 9; refine (hkind _).mono ?_; rintro e w' ⟨rfl, rfl⟩) | (go_at_call 42; refine hc.mono ?_; rintro e w1 ⟨rfl, l1, l2⟩; obtain ⟨r0, r1, r2, r3⟩ := res_cells l2 hS))
  exact bodyPost_ret (v := .agg #[.int .u64 x, .slice none 0 0]) (by simp [results, Try.results20, go_sem, r0, r1]) rfl ⟨rfl, w1, l1, l2, (Turn.set1 _ _ _ _).trans (Turn.set1 _ _ _ _) (fun _ _ q => q)⟩

set_option maxRecDepth 100000 in
set_option maxHeartbeats 2000000 in
theorem read4 (w : World) (rv : Value) (pa : Option Addr) (hrv : rv = .pointer pa) (k a b : Int) (S : Nat → Prop) (R : World → Prop) (x : Int) (hS : ∀ i, S i → i < w.heap.size)
    (hc : Calls Try.prog 43 #[rv] (Rw w k a b) fun e w' => e = .returned (.int .u64 x) ∧ R w' ∧ Turn S (Rw w k a b) w') (hk : k % 9 = 4) :
    Calls Try.prog 20 #[rv, .agg #[.int .i64 k, .int .i64 a, .int .i64 b]] w fun e w' => e = .returned (.agg #[.int .u64 x, .slice none 0 0]) ∧ ∃ w2, R w2 ∧ Turn S (Rw w k a b) w2 ∧ Turn (fun i => i = w.heap.size + 1) w2 w' := by
  subst hrv
  have hkind := fun w => kind_any w k
  rw [hk] at hkind
  clear hk
  go_enter Try.func20, Try.ntmps20
  go_wp2_with (first | (go_at_call 9; refine (hkind _).mono ?_; rintro e w' ⟨rfl, rfl⟩) | (go_at_call 43; refine hc.mono ?_; rintro e w1 ⟨rfl, l1, l2⟩; obtain ⟨r0, r1, r2, r3⟩ := res_cells l2 hS))
  exact bodyPost_ret (v := .agg #[.int .u64 x, .slice none 0 0]) (by simp [results, Try.results20, go_sem, r0, r1]) rfl ⟨rfl, w1, l1, l2, (Turn.set1 _ _ _ _).trans (Turn.set1 _ _ _ _) (fun _ _ q => q)⟩

set_option maxRecDepth 100000 in
set_option maxHeartbeats 2000000 in
theorem read5 (w : World) (rv : Value) (pa : Option Addr) (hrv : rv = .pointer pa) (k a b : Int) (S : Nat → Prop) (R : World → Prop) (ad : Option Addr) (n c : Nat) (hS : ∀ i, S i → i < w.heap.size)
    (hc : Calls Try.prog 44 #[rv, .int .i64 a] (Rw w k a b) fun e w' => e = .returned (.slice ad n c) ∧ R w' ∧ Turn S (Rw w k a b) w') (hk : k % 9 = 5) :
    Calls Try.prog 20 #[rv, .agg #[.int .i64 k, .int .i64 a, .int .i64 b]] w fun e w' => e = .returned (.agg #[.int .u64 0, .slice ad n c]) ∧ ∃ w2, R w2 ∧ Turn S (Rw w k a b) w2 ∧ Turn (fun i => i = w.heap.size + 1) w2 w' := by
  subst hrv
  have hkind := fun w => kind_any w k
  rw [hk] at hkind
  clear hk
  go_enter Try.func20, Try.ntmps20
  go_wp2_with (first | (go_at_call 9; refine (hkind _).mono ?_; rintro e w' ⟨rfl, rfl⟩) | (go_at_call 44; refine hc.mono ?_; rintro e w1 ⟨rfl, l1, l2⟩; obtain ⟨r0, r1, r2, r3⟩ := res_cells l2 hS))
  exact bodyPost_ret (v := .agg #[.int .u64 0, .slice ad n c]) (by simp [results, Try.results20, go_sem, r0, r1]) rfl ⟨rfl, w1, l1, l2, (Turn.set1 _ _ _ _).trans (Turn.set1 _ _ _ _) (fun _ _ q => q)⟩

set_option maxRecDepth 100000 in
set_option maxHeartbeats 2000000 in
theorem read6 (w : World) (rv : Value) (pa : Option Addr) (hrv : rv = .pointer pa) (k a b : Int) (S : Nat → Prop) (R : World → Prop) (ad : Option Addr) (n c : Nat) (hS : ∀ i, S i → i < w.heap.size)
    (hc : Calls Try.prog 45 #[rv, .int .i64 a] (Rw w k a b) fun e w' => e = .returned (.slice ad n c) ∧ R w' ∧ Turn S (Rw w k a b) w') (hk : k % 9 = 6) :
    Calls Try.prog 20 #[rv, .agg #[.int .i64 k, .int .i64 a, .int .i64 b]] w fun e w' => e = .returned (.agg #[.int .u64 0, .slice ad n c]) ∧ ∃ w2, R w2 ∧ Turn S (Rw w k a b) w2 ∧ Turn (fun i => i = w.heap.size + 1) w2 w' := by
  subst hrv
  have hkind := fun w => kind_any w k
  rw [hk] at hkind
  clear hk
  go_enter Try.func20, Try.ntmps20
  go_wp2_with (first | (go_at_call 9; refine (hkind _).mono ?_; rintro e w' ⟨rfl, rfl⟩) | (go_at_call 45; refine hc.mono ?_; rintro e w1 ⟨rfl, l1, l2⟩; obtain ⟨r0, r1, r2, r3⟩ := res_cells l2 hS))
  exact bodyPost_ret (v := .agg #[.int .u64 0, .slice ad n c]) (by simp [results, Try.results20, go_sem, r0, r1]) rfl ⟨rfl, w1, l1, l2, (Turn.set1 _ _ _ _).trans (Turn.set1 _ _ _ _) (fun _ _ q => q)⟩

set_option maxRecDepth 100000 in
set_option maxHeartbeats 2000000 in
theorem read8 (w : World) (rv : Value) (pa : Option Addr) (hrv : rv = .pointer pa) (k a b : Int) (S : Nat → Prop) (R : World → Prop) (x : Int) (hx : 0 ≤ x ∧ x < 9223372036854775808) (hS : ∀ i, S i → i < w.heap.size)
    (hc : Calls Try.prog 47 #[rv, .int .i64 a, .int .i64 b] (Rw w k a b) fun e w' => e = .returned (.int .i64 x) ∧ R w' ∧ Turn S (Rw w k a b) w') (hk : k % 9 = 8) :
    Calls Try.prog 20 #[rv, .agg #[.int .i64 k, .int .i64 a, .int .i64 b]] w fun e w' => e = .returned (.agg #[.int .u64 x, .slice none 0 0]) ∧ ∃ w2, R w2 ∧ Turn S (Rw w k a b) w2 ∧ Turn (fun i => i = w.heap.size + 1) w2 w' := by
  subst hrv
  have hkind := fun w => kind_any w k
  rw [hk] at hkind
  clear hk
  obtain ⟨hx0, hx1⟩ := hx
  go_enter Try.func20, Try.ntmps20
  go_wp2_with (first | (go_at_call 9; refine (hkind _).mono ?_; rintro e w' ⟨rfl, rfl⟩) | (go_at_call 47; refine hc.mono ?_; rintro e w1 ⟨rfl, l1, l2⟩; obtain ⟨r0, r1, r2, r3⟩ := res_cells l2 hS))
  exact bodyPost_ret (v := .agg #[.int .u64 x, .slice none 0 0]) (by simp [results, Try.results20, go_sem, r0, r1]) rfl ⟨rfl, w1, l1, l2, (Turn.set1 _ _ _ _).trans (Turn.set1 _ _ _ _) (fun _ _ q => q)⟩


theorem bytesWorld_turn (w : World) (e : TypeId) (s : ByteArray) : Turn no w (Lib.bytesWorld w e s) :=
  ⟨rfl, rfl, rfl, by rw [Lib.bytesWorld_size]; omega, fun k hk _ => Lib.bytesWorld_at_old w e s k hk⟩

theorem bytesWorld_bs (w : World) (s : ByteArray) (hm : s.size ≤ maxLen) : Bs (Lib.bytesWorld w 5 s) (.slice (some ⟨w.heap.size, 0, none⟩) s.size (grownCap w s.size 0 5)) s.data.toList := by
  have hl : s.data.toList.length = s.size := by rw [Array.length_toList]; rfl
  refine Or.inr ⟨⟨w.heap.size, 0, none⟩, _, by rw [hl], by rw [hl]; exact grownCap_ge w _ _ _, grownCap_le_maxLen w _ _ _ hm, fun j u hu => ?_⟩
  have hj : j < s.data.toList.length := (List.getElem?_eq_some_iff.1 hu).1
  rw [Addr.add_lit, Nat.zero_add, Lib.bytesWorld_cell w 5 s j (by omega), List.getD_eq_getElem?_getD, hu]
  rfl

set_option maxRecDepth 100000 in
set_option maxHeartbeats 2000000 in
theorem read7 (w : World) (rv : Value) (pa : Option Addr) (hrv : rv = .pointer pa) (k a b : Int) (S : Nat → Prop) (R : World → Prop) (x : ByteArray) (hx : x.size ≤ maxLen) (hS : ∀ i, S i → i < w.heap.size)
    (hc : Calls Try.prog 46 #[rv, .int .i64 a] (Rw w k a b) fun e w' => e = .returned (.string x) ∧ R w' ∧ Turn S (Rw w k a b) w') (hk : k % 9 = 7) :
    Calls Try.prog 20 #[rv, .agg #[.int .i64 k, .int .i64 a, .int .i64 b]] w fun e w' => ∃ v g, e = .returned (.agg #[.int .u64 0, v]) ∧ ∃ w2 w3, R w2 ∧ Turn S (Rw w k a b) w2 ∧ Turn no w2 w3 ∧ Bs w3 v x.data.toList ∧ v.ownBlock = some g ∧ w2.heap.size ≤ g ∧ Turn (fun i => i = w.heap.size + 1) w3 w' := by
  subst hrv
  have hkind := fun w => kind_any w k
  rw [hk] at hkind
  clear hk
  have hcv := fun w' => Lib.run_convert_string_bytes (P := Try.prog) w' 9 25 5 x Try.underlying9 Try.underlying25 Try.underlying5
  go_enter Try.func20, Try.ntmps20
  go_wp2_with (first | (go_at_call 9; refine (hkind _).mono ?_; rintro e w' ⟨rfl, rfl⟩) | (go_at_call 46; refine hc.mono ?_; rintro e w1 ⟨rfl, l1, l2⟩; have l3 := l2.then_no (bytesWorld_turn w1 5 x); obtain ⟨r0, r1, r2, r3⟩ := res_cells l3 hS))
  exact bodyPost_ret (v := .agg #[.int .u64 0, .slice (some ⟨w1.heap.size, 0, none⟩) x.size (grownCap w1 x.size 0 5)]) (by simp [results, Try.results20, go_sem, r0, r1]) rfl ⟨_, w1.heap.size, rfl, w1, _, l1, l2, bytesWorld_turn w1 5 x, bytesWorld_bs w1 x hx, rfl, Nat.le_refl _, (Turn.set1 _ _ _ _).trans (Turn.set1 _ _ _ _) (fun _ _ q => q)⟩

end Go.Proofs.Ytfjdojodbhmmaaa
