/- The document's Out; paper. -/
import Derived.Test.YtfjdojodbhmmaaaX2
namespace Go.Proofs.Ytfjdojodbhmmaaa
open Go.RowKit
set_option linter.unusedVariables false

theorem fr_empty (w : World) : Fr w (w.alloc (.cells #[] 5)) (.slice (some ⟨w.heap.size, 0, none⟩) 0 0) [] :=
  ⟨own_empty w 5, fun g q => (by simp [Value.ownBlock] at q; omega), (Turn.refl _ _).alloc _⟩
theorem fr_one (w : World) (b : UInt8) : Fr w (w.alloc (.cells #[bv b] 5)) (.slice (some ⟨w.heap.size, 0, none⟩) 1 1) [b] :=
  ⟨Own.of (xs := [bv b]) (cap := 1) (heap_alloc_new w _) (by simp) (by simp [maxLen]) (by simp) (by simp), fun g q => (by simp [Value.ownBlock] at q; omega), (Turn.refl _ _).alloc _⟩
set_option maxRecDepth 100000 in
theorem rout65 (w : World) (q : Nat) (v : Value) (bs : List UInt8) (h : Rx w q v bs 0) (hle : bs.length ≤ 140737488355328) :
    Calls Try.prog 65 #[.pointer (some ⟨q, 0, none⟩)] w fun e w' => ∃ v', e = .returned (.tuple #[v', .int .i64 0]) ∧ Fr w w' v' bs := by
  have c1 := h.c1
  have c0 := h.c0
  obtain ⟨N, hN⟩ : ∃ N, bs.length = N := ⟨_, rfl⟩
  have hsr := fun W (t : Turn no w W) => ((h.own.turn_no t).bs).src (P := Try.prog) Try.underlying25
  obtain ⟨av, nv, cv, rfl⟩ := h.own.form
  rw [hN] at hsr hle
  have Hsr := shutX hsr
  have c0' : (w.alloc (.cells #[] 5)).cell? ⟨q, 0, none⟩ = some (.slice av nv cv) := ((Turn.refl no w).alloc _).keep c0 (fun q => q)
  clear hsr hN h
  go_enter Try.func65, Try.ntmps65
  go_wp2_with (at_builtin; refine wpList_append_src rfl (.tmp 13) (.tmp 17) rfl Try.underlying25 Try.info5 rfl _ [] rfl (own_empty w 5) _ N (bs.map bv) rfl (Hsr.out _ ((Turn.refl _ _).alloc _)) ?b ?m ?_)
  case b => first | omega | (simp; omega)
  case m => first | (unfold maxLen; omega) | (simp [maxLen]; omega)
  intro v1 w1 o1 g1 _
  have F1 := (fr_empty w).append (ys := bs) (Turn.refl _ _) o1 g1
  obtain ⟨ad, ln, cp, rfl⟩ := o1.form
  go_wp2_with fail
  go_ret2
  exact ⟨_, rfl, by simpa using F1⟩
theorem rout65_err (w : World) (q : Nat) (v : Value) (bs : List UInt8) (e0 : Int) (h0 : (e0 != 0) = true) (h : Rx w q v bs e0) :
    Calls Try.prog 65 #[.pointer (some ⟨q, 0, none⟩)] w fun e w' => e = .returned (.tuple #[.slice none 0 0, .int .i64 e0]) ∧ Turn no w w' := by
  have c1 := h.c1
  go_enter Try.func65, Try.ntmps65
  go_wp2_with fail
  go_region
  all_goals (go_wp2_with fail; go_ret2; exact ⟨rfl, by first | exact Turn.refl _ _ | exact (Turn.refl no w).drew⟩)

/-- A value laid down by the document. -/
theorem enc_0' {k : Int} {n : Nat} {B : List UInt8} (hk : k % 9 = 0) : enc k n B = (leB (n % 256) 1, 0) := by unfold enc; rw [if_pos hk]
theorem enc_1' {k : Int} {n : Nat} {B : List UInt8} (hk : k % 9 = 1) : enc k n B = (leB (n % 2) 1, 0) := by unfold enc; rw [if_neg (by omega)]; rw [if_pos hk]
theorem enc_2' {k : Int} {n : Nat} {B : List UInt8} (hk : k % 9 = 2) : enc k n B = (leB (n % 4294967296) 4, 0) := by unfold enc; rw [if_neg (by omega)]; rw [if_neg (by omega)]; rw [if_pos hk]
theorem enc_3' {k : Int} {n : Nat} {B : List UInt8} (hk : k % 9 = 3) : enc k n B = (leB n 8, 0) := by unfold enc; rw [if_neg (by omega)]; rw [if_neg (by omega)]; rw [if_neg (by omega)]; rw [if_pos hk]
theorem enc_4' {k : Int} {n : Nat} {B : List UInt8} (hk : k % 9 = 4) : enc k n B = (varE n, 0) := by unfold enc; rw [if_neg (by omega)]; rw [if_neg (by omega)]; rw [if_neg (by omega)]; rw [if_neg (by omega)]; rw [if_pos hk]
theorem enc_5' {k : Int} {n : Nat} {B : List UInt8} (hk : k % 9 = 5) : enc k n B = (B, 0) := by unfold enc; rw [if_neg (by omega)]; rw [if_neg (by omega)]; rw [if_neg (by omega)]; rw [if_neg (by omega)]; rw [if_neg (by omega)]; rw [if_pos hk]
theorem enc_6' {k : Int} {n : Nat} {B : List UInt8} (hk : k % 9 = 6) : enc k n B = (varE B.length ++ B, 0) := by unfold enc; rw [if_neg (by omega)]; rw [if_neg (by omega)]; rw [if_neg (by omega)]; rw [if_neg (by omega)]; rw [if_neg (by omega)]; rw [if_neg (by omega)]; rw [if_pos hk]
theorem enc_7' {k : Int} {n : Nat} {B : List UInt8} (hk : k % 9 = 7) : enc k n B = (varE B.length ++ B, 0) := by unfold enc; rw [if_neg (by omega)]; rw [if_neg (by omega)]; rw [if_neg (by omega)]; rw [if_neg (by omega)]; rw [if_neg (by omega)]; rw [if_neg (by omega)]; rw [if_neg (by omega)]; rw [if_pos hk]
theorem enc_8' {k : Int} {n : Nat} {B : List UInt8} (hk : k % 9 = 8) : enc k n B = if n < 9223372036854775808 then (varE n, 0) else ([], 2) := by unfold enc; rw [if_neg (by omega)]; rw [if_neg (by omega)]; rw [if_neg (by omega)]; rw [if_neg (by omega)]; rw [if_neg (by omega)]; rw [if_neg (by omega)]; rw [if_neg (by omega)]; rw [if_neg (by omega)]; 
set_option maxRecDepth 100000 in
set_option maxHeartbeats 4000000 in
theorem paper_made_0 (w : World) (q : Nat) (v : Value) (bs : List UInt8) (k : Int) (n : Nat) (hn : n < 18446744073709551616) (vb : Value) (B : List UInt8) (h : Rx w q v bs 0) (hb : Bs w vb B) (hle : bs.length + B.length + 30 ≤ 140737488355328) (hk : k % 9 = 0) :
    Calls Try.prog 23 #[.pointer (some ⟨q, 0, none⟩), .agg #[.int .i64 k, .int .u64 n, vb]] w fun e w' => e = .returned (.tuple #[]) ∧ RLaid w q v (bs ++ (enc k n B).1) (enc k n B).2 w' := by
  have hT0 : Turn no w (Pw w k n vb) := (Turn.refl _ _).alloc _
  have hW := h.turn_no hT0
  have hb0 := hb.turn_no hT0
  have hcv := bytes_text hb0
  obtain ⟨a, c, rfl⟩ := hb.slice
  have hvl := varE_le n
  have hvB := varE_le B.length
  have Hh := shutX (And.intro hW hT0)
  have HB := shutX hb0
  clear h hW hT0 hb0 hb
  unfold Pw at hcv Hh HB
  have hkind := fun w => kind_any w k
  rw [enc_0' hk]
  obtain ⟨m, hm⟩ : ∃ m, n % 256 = m := ⟨_, rfl⟩
  have hm2 : m < 256 := by omega
  have hz : (n : Int) % 256 = (m : Int) := by omega
  rw [hm, show leB m 1 = [UInt8.ofNat m] by simp [leB]]
  have F := fr_one (w.alloc (.cells #[.int .i64 k, .int .u64 n, .slice a B.length c] 27)) (UInt8.ofNat m)
  rw [show bv (UInt8.ofNat m) = .int .u8 m by unfold bv; rw [← u64_byte m hm2], show (w.alloc (.cells #[.int .i64 k, .int .u64 n, .slice a B.length c] 27)).heap.size = w.heap.size + 1 by simp] at F
  obtain ⟨X, hX⟩ : ∃ X, [UInt8.ofNat m] = X := ⟨_, rfl⟩
  have hXl : X.length = 1 := by rw [← hX]; rfl
  rw [hX] at F ⊢
  clear hX hm
  rw [hk] at hkind
  clear hk
  go_enter Try.func23, Try.ntmps23
  go_wp2_with (first | (go_at_call 9; refine (hkind _).mono ?_; rintro e w' ⟨rfl, rfl⟩) | (go_at_call 57; refine (put57 _ q v bs (Hh.out.1.turn_no (F.turn)) _ X (F.own.bs) (by first | omega | (simp; omega))).mono ?_; rintro e w2 ⟨rfl, R⟩))
  go_end0
  exact ⟨rfl, R.pre (bs := bs) (e := 0) (Hh.out.2.then_no (F.turn))⟩
set_option maxRecDepth 100000 in
set_option maxHeartbeats 4000000 in
theorem paper_made_1 (w : World) (q : Nat) (v : Value) (bs : List UInt8) (k : Int) (n : Nat) (hn : n < 18446744073709551616) (vb : Value) (B : List UInt8) (h : Rx w q v bs 0) (hb : Bs w vb B) (hle : bs.length + B.length + 30 ≤ 140737488355328) (hk : k % 9 = 1) :
    Calls Try.prog 23 #[.pointer (some ⟨q, 0, none⟩), .agg #[.int .i64 k, .int .u64 n, vb]] w fun e w' => e = .returned (.tuple #[]) ∧ RLaid w q v (bs ++ (enc k n B).1) (enc k n B).2 w' := by
  have hT0 : Turn no w (Pw w k n vb) := (Turn.refl _ _).alloc _
  have hW := h.turn_no hT0
  have hb0 := hb.turn_no hT0
  have hcv := bytes_text hb0
  obtain ⟨a, c, rfl⟩ := hb.slice
  have hvl := varE_le n
  have hvB := varE_le B.length
  have Hh := shutX (And.intro hW hT0)
  have HB := shutX hb0
  clear h hW hT0 hb0 hb
  unfold Pw at hcv Hh HB
  have hkind := fun w => kind_any w k
  rw [enc_1' hk]
  by_cases h2 : n % 2 = 1
  · have h2' : ((n : Int) % 2 == 1) = true := by simp; omega
    rw [show n % 2 = 1 by omega]
    rw [hk] at hkind
    clear hk
    go_enter Try.func23, Try.ntmps23
    go_wp2_with (first | (go_at_call 9; refine (hkind _).mono ?_; rintro e w' ⟨rfl, rfl⟩) | (go_at_call 58; refine (rbool_t _).mono ?_; rintro e w1 ⟨vx, rfl, F⟩; obtain ⟨ad, ln, cp, rfl⟩ := F.form) | (go_at_call 57; refine (put57 _ q v bs (Hh.out.1.turn_no (F.turn)) _ (leB 1 1) (F.own.bs) (by simp [leB_length]; omega)).mono ?_; rintro e w2 ⟨rfl, R⟩))
    go_end0
    exact ⟨rfl, R.pre (bs := bs) (e := 0) (Hh.out.2.then_no (F.turn))⟩
  · have h2' : ((n : Int) % 2 == 1) = false := by simp; omega
    rw [show n % 2 = 0 by omega]
    rw [hk] at hkind
    clear hk
    go_enter Try.func23, Try.ntmps23
    go_wp2_with (first | (go_at_call 9; refine (hkind _).mono ?_; rintro e w' ⟨rfl, rfl⟩) | (go_at_call 58; refine (rbool_f _).mono ?_; rintro e w1 ⟨vx, rfl, F⟩; obtain ⟨ad, ln, cp, rfl⟩ := F.form) | (go_at_call 57; refine (put57 _ q v bs (Hh.out.1.turn_no (F.turn)) _ (leB 0 1) (F.own.bs) (by simp [leB_length]; omega)).mono ?_; rintro e w2 ⟨rfl, R⟩))
    go_end0
    exact ⟨rfl, R.pre (bs := bs) (e := 0) (Hh.out.2.then_no (F.turn))⟩
set_option maxRecDepth 100000 in
set_option maxHeartbeats 4000000 in
theorem paper_made_2 (w : World) (q : Nat) (v : Value) (bs : List UInt8) (k : Int) (n : Nat) (hn : n < 18446744073709551616) (vb : Value) (B : List UInt8) (h : Rx w q v bs 0) (hb : Bs w vb B) (hle : bs.length + B.length + 30 ≤ 140737488355328) (hk : k % 9 = 2) :
    Calls Try.prog 23 #[.pointer (some ⟨q, 0, none⟩), .agg #[.int .i64 k, .int .u64 n, vb]] w fun e w' => e = .returned (.tuple #[]) ∧ RLaid w q v (bs ++ (enc k n B).1) (enc k n B).2 w' := by
  have hT0 : Turn no w (Pw w k n vb) := (Turn.refl _ _).alloc _
  have hW := h.turn_no hT0
  have hb0 := hb.turn_no hT0
  have hcv := bytes_text hb0
  obtain ⟨a, c, rfl⟩ := hb.slice
  have hvl := varE_le n
  have hvB := varE_le B.length
  have Hh := shutX (And.intro hW hT0)
  have HB := shutX hb0
  clear h hW hT0 hb0 hb
  unfold Pw at hcv Hh HB
  have hkind := fun w => kind_any w k
  rw [enc_2' hk]
  obtain ⟨m, hm⟩ : ∃ m, n % 4294967296 = m := ⟨_, rfl⟩
  have hm2 : m < 4294967296 := by omega
  have hz : (n : Int) % 4294967296 = (m : Int) := by omega
  rw [hm]
  clear hm
  rw [hk] at hkind
  clear hk
  go_enter Try.func23, Try.ntmps23
  go_wp2_with (first | (go_at_call 9; refine (hkind _).mono ?_; rintro e w' ⟨rfl, rfl⟩) | (go_at_call 59; refine (ru32 _ m hm2).mono ?_; rintro e w1 ⟨vx, rfl, F⟩; obtain ⟨ad, ln, cp, rfl⟩ := F.form) | (go_at_call 57; refine (put57 _ q v bs (Hh.out.1.turn_no (F.turn)) _ (leB m 4) (F.own.bs) (by simp [leB_length]; omega)).mono ?_; rintro e w2 ⟨rfl, R⟩))
  go_end0
  exact ⟨rfl, R.pre (bs := bs) (e := 0) (Hh.out.2.then_no (F.turn))⟩
set_option maxRecDepth 100000 in
set_option maxHeartbeats 4000000 in
theorem paper_made_3 (w : World) (q : Nat) (v : Value) (bs : List UInt8) (k : Int) (n : Nat) (hn : n < 18446744073709551616) (vb : Value) (B : List UInt8) (h : Rx w q v bs 0) (hb : Bs w vb B) (hle : bs.length + B.length + 30 ≤ 140737488355328) (hk : k % 9 = 3) :
    Calls Try.prog 23 #[.pointer (some ⟨q, 0, none⟩), .agg #[.int .i64 k, .int .u64 n, vb]] w fun e w' => e = .returned (.tuple #[]) ∧ RLaid w q v (bs ++ (enc k n B).1) (enc k n B).2 w' := by
  have hT0 : Turn no w (Pw w k n vb) := (Turn.refl _ _).alloc _
  have hW := h.turn_no hT0
  have hb0 := hb.turn_no hT0
  have hcv := bytes_text hb0
  obtain ⟨a, c, rfl⟩ := hb.slice
  have hvl := varE_le n
  have hvB := varE_le B.length
  have Hh := shutX (And.intro hW hT0)
  have HB := shutX hb0
  clear h hW hT0 hb0 hb
  unfold Pw at hcv Hh HB
  have hkind := fun w => kind_any w k
  rw [enc_3' hk]
  have hz := hn
  rw [hk] at hkind
  clear hk
  go_enter Try.func23, Try.ntmps23
  go_wp2_with (first | (go_at_call 9; refine (hkind _).mono ?_; rintro e w' ⟨rfl, rfl⟩) | (go_at_call 60; refine (ru64 _ n hn).mono ?_; rintro e w1 ⟨vx, rfl, F⟩; obtain ⟨ad, ln, cp, rfl⟩ := F.form) | (go_at_call 57; refine (put57 _ q v bs (Hh.out.1.turn_no (F.turn)) _ (leB n 8) (F.own.bs) (by simp [leB_length]; omega)).mono ?_; rintro e w2 ⟨rfl, R⟩))
  go_end0
  exact ⟨rfl, R.pre (bs := bs) (e := 0) (Hh.out.2.then_no (F.turn))⟩
set_option maxRecDepth 100000 in
set_option maxHeartbeats 4000000 in
theorem paper_made_4 (w : World) (q : Nat) (v : Value) (bs : List UInt8) (k : Int) (n : Nat) (hn : n < 18446744073709551616) (vb : Value) (B : List UInt8) (h : Rx w q v bs 0) (hb : Bs w vb B) (hle : bs.length + B.length + 30 ≤ 140737488355328) (hk : k % 9 = 4) :
    Calls Try.prog 23 #[.pointer (some ⟨q, 0, none⟩), .agg #[.int .i64 k, .int .u64 n, vb]] w fun e w' => e = .returned (.tuple #[]) ∧ RLaid w q v (bs ++ (enc k n B).1) (enc k n B).2 w' := by
  have hT0 : Turn no w (Pw w k n vb) := (Turn.refl _ _).alloc _
  have hW := h.turn_no hT0
  have hb0 := hb.turn_no hT0
  have hcv := bytes_text hb0
  obtain ⟨a, c, rfl⟩ := hb.slice
  have hvl := varE_le n
  have hvB := varE_le B.length
  have Hh := shutX (And.intro hW hT0)
  have HB := shutX hb0
  clear h hW hT0 hb0 hb
  unfold Pw at hcv Hh HB
  have hkind := fun w => kind_any w k
  rw [enc_4' hk]
  have hz := hn
  rw [hk] at hkind
  clear hk
  go_enter Try.func23, Try.ntmps23
  go_wp2_with (first | (go_at_call 9; refine (hkind _).mono ?_; rintro e w' ⟨rfl, rfl⟩) | (go_at_call 61; refine (rvar61 _ n hn).mono ?_; rintro e w1 ⟨vx, rfl, F⟩; obtain ⟨ad, ln, cp, rfl⟩ := F.form) | (go_at_call 57; refine (put57 _ q v bs (Hh.out.1.turn_no (F.turn)) _ (varE n) (F.own.bs) (by first | omega | (simp; omega))).mono ?_; rintro e w2 ⟨rfl, R⟩))
  go_end0
  exact ⟨rfl, R.pre (bs := bs) (e := 0) (Hh.out.2.then_no (F.turn))⟩
set_option maxRecDepth 100000 in
set_option maxHeartbeats 4000000 in
theorem paper_made_5 (w : World) (q : Nat) (v : Value) (bs : List UInt8) (k : Int) (n : Nat) (hn : n < 18446744073709551616) (vb : Value) (B : List UInt8) (h : Rx w q v bs 0) (hb : Bs w vb B) (hle : bs.length + B.length + 30 ≤ 140737488355328) (hk : k % 9 = 5) :
    Calls Try.prog 23 #[.pointer (some ⟨q, 0, none⟩), .agg #[.int .i64 k, .int .u64 n, vb]] w fun e w' => e = .returned (.tuple #[]) ∧ RLaid w q v (bs ++ (enc k n B).1) (enc k n B).2 w' := by
  have hT0 : Turn no w (Pw w k n vb) := (Turn.refl _ _).alloc _
  have hW := h.turn_no hT0
  have hb0 := hb.turn_no hT0
  have hcv := bytes_text hb0
  obtain ⟨a, c, rfl⟩ := hb.slice
  have hvl := varE_le n
  have hvB := varE_le B.length
  have Hh := shutX (And.intro hW hT0)
  have HB := shutX hb0
  clear h hW hT0 hb0 hb
  unfold Pw at hcv Hh HB
  have hkind := fun w => kind_any w k
  rw [enc_5' hk]
  have hz := hn
  rw [hk] at hkind
  clear hk
  go_enter Try.func23, Try.ntmps23
  go_wp2_with (first | (go_at_call 9; refine (hkind _).mono ?_; rintro e w' ⟨rfl, rfl⟩) | (go_at_call 57; refine (put57 _ q v bs (Hh.out.1.turn_no (Turn.refl no _)) _ B (HB.out) (by first | omega | (simp; omega))).mono ?_; rintro e w2 ⟨rfl, R⟩))
  go_end0
  exact ⟨rfl, R.pre (bs := bs) (e := 0) (Hh.out.2.then_no (Turn.refl no _))⟩
set_option maxRecDepth 100000 in
set_option maxHeartbeats 4000000 in
theorem paper_made_6 (w : World) (q : Nat) (v : Value) (bs : List UInt8) (k : Int) (n : Nat) (hn : n < 18446744073709551616) (vb : Value) (B : List UInt8) (h : Rx w q v bs 0) (hb : Bs w vb B) (hle : bs.length + B.length + 30 ≤ 140737488355328) (hk : k % 9 = 6) :
    Calls Try.prog 23 #[.pointer (some ⟨q, 0, none⟩), .agg #[.int .i64 k, .int .u64 n, vb]] w fun e w' => e = .returned (.tuple #[]) ∧ RLaid w q v (bs ++ (enc k n B).1) (enc k n B).2 w' := by
  have hT0 : Turn no w (Pw w k n vb) := (Turn.refl _ _).alloc _
  have hW := h.turn_no hT0
  have hb0 := hb.turn_no hT0
  have hcv := bytes_text hb0
  obtain ⟨a, c, rfl⟩ := hb.slice
  have hvl := varE_le n
  have hvB := varE_le B.length
  have Hh := shutX (And.intro hW hT0)
  have HB := shutX hb0
  clear h hW hT0 hb0 hb
  unfold Pw at hcv Hh HB
  have hkind := fun w => kind_any w k
  rw [enc_6' hk]
  have hz := hn
  rw [hk] at hkind
  clear hk
  go_enter Try.func23, Try.ntmps23
  go_wp2_with (first | (go_at_call 9; refine (hkind _).mono ?_; rintro e w' ⟨rfl, rfl⟩) | (go_at_call 62; refine (rbytes62 _ _ B HB.out (by omega)).mono ?_; rintro e w1 ⟨vx, rfl, F⟩; obtain ⟨ad, ln, cp, rfl⟩ := F.form) | (go_at_call 57; refine (put57 _ q v bs (Hh.out.1.turn_no (F.turn)) _ (varE B.length ++ B) (F.own.bs) (by first | omega | (simp; omega))).mono ?_; rintro e w2 ⟨rfl, R⟩))
  go_end0
  exact ⟨rfl, R.pre (bs := bs) (e := 0) (Hh.out.2.then_no (F.turn))⟩
set_option maxRecDepth 100000 in
set_option maxHeartbeats 4000000 in
theorem paper_made_7 (w : World) (q : Nat) (v : Value) (bs : List UInt8) (k : Int) (n : Nat) (hn : n < 18446744073709551616) (vb : Value) (B : List UInt8) (h : Rx w q v bs 0) (hb : Bs w vb B) (hle : bs.length + B.length + 30 ≤ 140737488355328) (hk : k % 9 = 7) :
    Calls Try.prog 23 #[.pointer (some ⟨q, 0, none⟩), .agg #[.int .i64 k, .int .u64 n, vb]] w fun e w' => e = .returned (.tuple #[]) ∧ RLaid w q v (bs ++ (enc k n B).1) (enc k n B).2 w' := by
  have hT0 : Turn no w (Pw w k n vb) := (Turn.refl _ _).alloc _
  have hW := h.turn_no hT0
  have hb0 := hb.turn_no hT0
  have hcv := bytes_text hb0
  obtain ⟨a, c, rfl⟩ := hb.slice
  have hvl := varE_le n
  have hvB := varE_le B.length
  have Hh := shutX (And.intro hW hT0)
  have HB := shutX hb0
  clear h hW hT0 hb0 hb
  unfold Pw at hcv Hh HB
  have hkind := fun w => kind_any w k
  rw [enc_7' hk]
  have hz := hn
  rw [hk] at hkind
  clear hk
  go_enter Try.func23, Try.ntmps23
  go_wp2_with (first | (go_at_call 9; refine (hkind _).mono ?_; rintro e w' ⟨rfl, rfl⟩) | (go_at_call 63; refine (rtext63 _ B (by omega)).mono ?_; rintro e w1 ⟨vx, rfl, F⟩; obtain ⟨ad, ln, cp, rfl⟩ := F.form) | (go_at_call 57; refine (put57 _ q v bs (Hh.out.1.turn_no (F.turn)) _ (varE B.length ++ B) (F.own.bs) (by first | omega | (simp; omega))).mono ?_; rintro e w2 ⟨rfl, R⟩))
  go_end0
  exact ⟨rfl, R.pre (bs := bs) (e := 0) (Hh.out.2.then_no (F.turn))⟩
set_option maxRecDepth 100000 in
set_option maxHeartbeats 4000000 in
theorem paper_made_8 (w : World) (q : Nat) (v : Value) (bs : List UInt8) (k : Int) (n : Nat) (hn : n < 18446744073709551616) (vb : Value) (B : List UInt8) (h : Rx w q v bs 0) (hb : Bs w vb B) (hle : bs.length + B.length + 30 ≤ 140737488355328) (hk : k % 9 = 8) :
    Calls Try.prog 23 #[.pointer (some ⟨q, 0, none⟩), .agg #[.int .i64 k, .int .u64 n, vb]] w fun e w' => e = .returned (.tuple #[]) ∧ RLaid w q v (bs ++ (enc k n B).1) (enc k n B).2 w' := by
  have hT0 : Turn no w (Pw w k n vb) := (Turn.refl _ _).alloc _
  have hW := h.turn_no hT0
  have hb0 := hb.turn_no hT0
  have hcv := bytes_text hb0
  obtain ⟨a, c, rfl⟩ := hb.slice
  have hvl := varE_le n
  have hvB := varE_le B.length
  have Hh := shutX (And.intro hW hT0)
  have HB := shutX hb0
  clear h hW hT0 hb0 hb
  unfold Pw at hcv Hh HB
  have hkind := fun w => kind_any w k
  by_cases hs : n < 9223372036854775808
  · rw [enc_8' hk, if_pos hs]
    have hw : wrap64 (n : Int) = (n : Int) := by unfold wrap64; omega
    rw [hk] at hkind
    clear hk
    go_enter Try.func23, Try.ntmps23
    go_wp2_with (first | (go_at_call 9; refine (hkind _).mono ?_; rintro e w' ⟨rfl, rfl⟩) | (go_at_call 64; refine (rcount64 _ q v bs Hh.out.1 n hs (by omega)).mono ?_; rintro e w2 ⟨rfl, R⟩))
    go_end0
    exact ⟨rfl, R.pre (bs := bs) (e := 0) Hh.out.2⟩
  · rw [enc_8' hk, if_neg hs, List.append_nil]
    have hw := wrap64_big n (by omega) hn
    rw [hk] at hkind
    clear hk
    go_enter Try.func23, Try.ntmps23
    go_wp2_with (first | (go_at_call 9; refine (hkind _).mono ?_; rintro e w' ⟨rfl, rfl⟩) | (go_at_call 64; refine (rcount64_neg _ q v bs Hh.out.1 _ hw).mono ?_; rintro e w2 ⟨rfl, R⟩))
    go_end0
    exact ⟨rfl, R.pre (bs := bs) (e := 0) Hh.out.2⟩
theorem paper_made (w : World) (q : Nat) (v : Value) (bs : List UInt8) (k : Int) (n : Nat) (hn : n < 18446744073709551616) (vb : Value) (B : List UInt8) (h : Rx w q v bs 0) (hb : Bs w vb B) (hle : bs.length + B.length + 30 ≤ 140737488355328) :
    Calls Try.prog 23 #[.pointer (some ⟨q, 0, none⟩), .agg #[.int .i64 k, .int .u64 n, vb]] w fun e w' => e = .returned (.tuple #[]) ∧ RLaid w q v (bs ++ (enc k n B).1) (enc k n B).2 w' := by
  have hk : k % 9 = 0 ∨ k % 9 = 1 ∨ k % 9 = 2 ∨ k % 9 = 3 ∨ k % 9 = 4 ∨ k % 9 = 5 ∨ k % 9 = 6 ∨ k % 9 = 7 ∨ k % 9 = 8 := by omega
  rcases hk with hk | hk | hk | hk | hk | hk | hk | hk | hk
  · exact paper_made_0 w q v bs k n hn vb B h hb hle hk
  · exact paper_made_1 w q v bs k n hn vb B h hb hle hk
  · exact paper_made_2 w q v bs k n hn vb B h hb hle hk
  · exact paper_made_3 w q v bs k n hn vb B h hb hle hk
  · exact paper_made_4 w q v bs k n hn vb B h hb hle hk
  · exact paper_made_5 w q v bs k n hn vb B h hb hle hk
  · exact paper_made_6 w q v bs k n hn vb B h hb hle hk
  · exact paper_made_7 w q v bs k n hn vb B h hb hle hk
  · exact paper_made_8 w q v bs k n hn vb B h hb hle hk
set_option maxRecDepth 100000 in
set_option maxHeartbeats 4000000 in
theorem paper_err_0 (w : World) (q : Nat) (v : Value) (bs : List UInt8) (e0 : Int) (h0 : (e0 == 0) = false) (h1 : (e0 != 0) = true) (k : Int) (n : Nat) (hn : n < 18446744073709551616) (vb : Value) (B : List UInt8) (h : Rx w q v bs e0) (hb : Bs w vb B) (hle : bs.length + B.length + 30 ≤ 140737488355328) (hk : k % 9 = 0) :
    Calls Try.prog 23 #[.pointer (some ⟨q, 0, none⟩), .agg #[.int .i64 k, .int .u64 n, vb]] w fun e w' => e = .returned (.tuple #[]) ∧ Turn no w w' := by
  have hT0 : Turn no w (Pw w k n vb) := (Turn.refl _ _).alloc _
  have hW := h.turn_no hT0
  have hb0 := hb.turn_no hT0
  have hcv := bytes_text hb0
  obtain ⟨a, c, rfl⟩ := hb.slice
  have hvl := varE_le n
  have hvB := varE_le B.length
  have Hh := shutX (And.intro hW hT0)
  have HB := shutX hb0
  clear h hW hT0 hb0 hb
  unfold Pw at hcv Hh HB
  have hkind := fun w => kind_any w k
  obtain ⟨m, hm⟩ : ∃ m, n % 256 = m := ⟨_, rfl⟩
  have hm2 : m < 256 := by omega
  have hz : (n : Int) % 256 = (m : Int) := by omega
  have F := fr_one (w.alloc (.cells #[.int .i64 k, .int .u64 n, .slice a B.length c] 27)) (UInt8.ofNat m)
  rw [show bv (UInt8.ofNat m) = .int .u8 m by unfold bv; rw [← u64_byte m hm2], show (w.alloc (.cells #[.int .i64 k, .int .u64 n, .slice a B.length c] 27)).heap.size = w.heap.size + 1 by simp] at F
  obtain ⟨X, hX⟩ : ∃ X, [UInt8.ofNat m] = X := ⟨_, rfl⟩
  have hXl : X.length = 1 := by rw [← hX]; rfl
  rw [hX] at F
  clear hX hm
  rw [hk] at hkind
  clear hk
  go_enter Try.func23, Try.ntmps23
  go_wp2_with (first | (go_at_call 9; refine (hkind _).mono ?_; rintro e w' ⟨rfl, rfl⟩) | (go_at_call 57; refine (put57_err _ q v bs e0 h0 (Hh.out.1.turn_no (F.turn)) _ _ _).mono ?_; rintro e w2 ⟨rfl, e2⟩; subst e2))
  go_end0
  exact ⟨rfl, Hh.out.2.then_no (F.turn)⟩
set_option maxRecDepth 100000 in
set_option maxHeartbeats 4000000 in
theorem paper_err_1 (w : World) (q : Nat) (v : Value) (bs : List UInt8) (e0 : Int) (h0 : (e0 == 0) = false) (h1 : (e0 != 0) = true) (k : Int) (n : Nat) (hn : n < 18446744073709551616) (vb : Value) (B : List UInt8) (h : Rx w q v bs e0) (hb : Bs w vb B) (hle : bs.length + B.length + 30 ≤ 140737488355328) (hk : k % 9 = 1) :
    Calls Try.prog 23 #[.pointer (some ⟨q, 0, none⟩), .agg #[.int .i64 k, .int .u64 n, vb]] w fun e w' => e = .returned (.tuple #[]) ∧ Turn no w w' := by
  have hT0 : Turn no w (Pw w k n vb) := (Turn.refl _ _).alloc _
  have hW := h.turn_no hT0
  have hb0 := hb.turn_no hT0
  have hcv := bytes_text hb0
  obtain ⟨a, c, rfl⟩ := hb.slice
  have hvl := varE_le n
  have hvB := varE_le B.length
  have Hh := shutX (And.intro hW hT0)
  have HB := shutX hb0
  clear h hW hT0 hb0 hb
  unfold Pw at hcv Hh HB
  have hkind := fun w => kind_any w k
  by_cases h2 : n % 2 = 1
  · have h2' : ((n : Int) % 2 == 1) = true := by simp; omega
    rw [hk] at hkind
    clear hk
    go_enter Try.func23, Try.ntmps23
    go_wp2_with (first | (go_at_call 9; refine (hkind _).mono ?_; rintro e w' ⟨rfl, rfl⟩) | (go_at_call 58; refine (rbool_t _).mono ?_; rintro e w1 ⟨vx, rfl, F⟩; obtain ⟨ad, ln, cp, rfl⟩ := F.form) | (go_at_call 57; refine (put57_err _ q v bs e0 h0 (Hh.out.1.turn_no (F.turn)) _ _ _).mono ?_; rintro e w2 ⟨rfl, e2⟩; subst e2))
    go_end0
    exact ⟨rfl, Hh.out.2.then_no (F.turn)⟩
  · have h2' : ((n : Int) % 2 == 1) = false := by simp; omega
    rw [hk] at hkind
    clear hk
    go_enter Try.func23, Try.ntmps23
    go_wp2_with (first | (go_at_call 9; refine (hkind _).mono ?_; rintro e w' ⟨rfl, rfl⟩) | (go_at_call 58; refine (rbool_f _).mono ?_; rintro e w1 ⟨vx, rfl, F⟩; obtain ⟨ad, ln, cp, rfl⟩ := F.form) | (go_at_call 57; refine (put57_err _ q v bs e0 h0 (Hh.out.1.turn_no (F.turn)) _ _ _).mono ?_; rintro e w2 ⟨rfl, e2⟩; subst e2))
    go_end0
    exact ⟨rfl, Hh.out.2.then_no (F.turn)⟩
set_option maxRecDepth 100000 in
set_option maxHeartbeats 4000000 in
theorem paper_err_2 (w : World) (q : Nat) (v : Value) (bs : List UInt8) (e0 : Int) (h0 : (e0 == 0) = false) (h1 : (e0 != 0) = true) (k : Int) (n : Nat) (hn : n < 18446744073709551616) (vb : Value) (B : List UInt8) (h : Rx w q v bs e0) (hb : Bs w vb B) (hle : bs.length + B.length + 30 ≤ 140737488355328) (hk : k % 9 = 2) :
    Calls Try.prog 23 #[.pointer (some ⟨q, 0, none⟩), .agg #[.int .i64 k, .int .u64 n, vb]] w fun e w' => e = .returned (.tuple #[]) ∧ Turn no w w' := by
  have hT0 : Turn no w (Pw w k n vb) := (Turn.refl _ _).alloc _
  have hW := h.turn_no hT0
  have hb0 := hb.turn_no hT0
  have hcv := bytes_text hb0
  obtain ⟨a, c, rfl⟩ := hb.slice
  have hvl := varE_le n
  have hvB := varE_le B.length
  have Hh := shutX (And.intro hW hT0)
  have HB := shutX hb0
  clear h hW hT0 hb0 hb
  unfold Pw at hcv Hh HB
  have hkind := fun w => kind_any w k
  obtain ⟨m, hm⟩ : ∃ m, n % 4294967296 = m := ⟨_, rfl⟩
  have hm2 : m < 4294967296 := by omega
  have hz : (n : Int) % 4294967296 = (m : Int) := by omega
  clear hm
  rw [hk] at hkind
  clear hk
  go_enter Try.func23, Try.ntmps23
  go_wp2_with (first | (go_at_call 9; refine (hkind _).mono ?_; rintro e w' ⟨rfl, rfl⟩) | (go_at_call 59; refine (ru32 _ m hm2).mono ?_; rintro e w1 ⟨vx, rfl, F⟩; obtain ⟨ad, ln, cp, rfl⟩ := F.form) | (go_at_call 57; refine (put57_err _ q v bs e0 h0 (Hh.out.1.turn_no (F.turn)) _ _ _).mono ?_; rintro e w2 ⟨rfl, e2⟩; subst e2))
  go_end0
  exact ⟨rfl, Hh.out.2.then_no (F.turn)⟩
set_option maxRecDepth 100000 in
set_option maxHeartbeats 4000000 in
theorem paper_err_3 (w : World) (q : Nat) (v : Value) (bs : List UInt8) (e0 : Int) (h0 : (e0 == 0) = false) (h1 : (e0 != 0) = true) (k : Int) (n : Nat) (hn : n < 18446744073709551616) (vb : Value) (B : List UInt8) (h : Rx w q v bs e0) (hb : Bs w vb B) (hle : bs.length + B.length + 30 ≤ 140737488355328) (hk : k % 9 = 3) :
    Calls Try.prog 23 #[.pointer (some ⟨q, 0, none⟩), .agg #[.int .i64 k, .int .u64 n, vb]] w fun e w' => e = .returned (.tuple #[]) ∧ Turn no w w' := by
  have hT0 : Turn no w (Pw w k n vb) := (Turn.refl _ _).alloc _
  have hW := h.turn_no hT0
  have hb0 := hb.turn_no hT0
  have hcv := bytes_text hb0
  obtain ⟨a, c, rfl⟩ := hb.slice
  have hvl := varE_le n
  have hvB := varE_le B.length
  have Hh := shutX (And.intro hW hT0)
  have HB := shutX hb0
  clear h hW hT0 hb0 hb
  unfold Pw at hcv Hh HB
  have hkind := fun w => kind_any w k
  have hz := hn
  rw [hk] at hkind
  clear hk
  go_enter Try.func23, Try.ntmps23
  go_wp2_with (first | (go_at_call 9; refine (hkind _).mono ?_; rintro e w' ⟨rfl, rfl⟩) | (go_at_call 60; refine (ru64 _ n hn).mono ?_; rintro e w1 ⟨vx, rfl, F⟩; obtain ⟨ad, ln, cp, rfl⟩ := F.form) | (go_at_call 57; refine (put57_err _ q v bs e0 h0 (Hh.out.1.turn_no (F.turn)) _ _ _).mono ?_; rintro e w2 ⟨rfl, e2⟩; subst e2))
  go_end0
  exact ⟨rfl, Hh.out.2.then_no (F.turn)⟩
set_option maxRecDepth 100000 in
set_option maxHeartbeats 4000000 in
theorem paper_err_4 (w : World) (q : Nat) (v : Value) (bs : List UInt8) (e0 : Int) (h0 : (e0 == 0) = false) (h1 : (e0 != 0) = true) (k : Int) (n : Nat) (hn : n < 18446744073709551616) (vb : Value) (B : List UInt8) (h : Rx w q v bs e0) (hb : Bs w vb B) (hle : bs.length + B.length + 30 ≤ 140737488355328) (hk : k % 9 = 4) :
    Calls Try.prog 23 #[.pointer (some ⟨q, 0, none⟩), .agg #[.int .i64 k, .int .u64 n, vb]] w fun e w' => e = .returned (.tuple #[]) ∧ Turn no w w' := by
  have hT0 : Turn no w (Pw w k n vb) := (Turn.refl _ _).alloc _
  have hW := h.turn_no hT0
  have hb0 := hb.turn_no hT0
  have hcv := bytes_text hb0
  obtain ⟨a, c, rfl⟩ := hb.slice
  have hvl := varE_le n
  have hvB := varE_le B.length
  have Hh := shutX (And.intro hW hT0)
  have HB := shutX hb0
  clear h hW hT0 hb0 hb
  unfold Pw at hcv Hh HB
  have hkind := fun w => kind_any w k
  have hz := hn
  rw [hk] at hkind
  clear hk
  go_enter Try.func23, Try.ntmps23
  go_wp2_with (first | (go_at_call 9; refine (hkind _).mono ?_; rintro e w' ⟨rfl, rfl⟩) | (go_at_call 61; refine (rvar61 _ n hn).mono ?_; rintro e w1 ⟨vx, rfl, F⟩; obtain ⟨ad, ln, cp, rfl⟩ := F.form) | (go_at_call 57; refine (put57_err _ q v bs e0 h0 (Hh.out.1.turn_no (F.turn)) _ _ _).mono ?_; rintro e w2 ⟨rfl, e2⟩; subst e2))
  go_end0
  exact ⟨rfl, Hh.out.2.then_no (F.turn)⟩
set_option maxRecDepth 100000 in
set_option maxHeartbeats 4000000 in
theorem paper_err_5 (w : World) (q : Nat) (v : Value) (bs : List UInt8) (e0 : Int) (h0 : (e0 == 0) = false) (h1 : (e0 != 0) = true) (k : Int) (n : Nat) (hn : n < 18446744073709551616) (vb : Value) (B : List UInt8) (h : Rx w q v bs e0) (hb : Bs w vb B) (hle : bs.length + B.length + 30 ≤ 140737488355328) (hk : k % 9 = 5) :
    Calls Try.prog 23 #[.pointer (some ⟨q, 0, none⟩), .agg #[.int .i64 k, .int .u64 n, vb]] w fun e w' => e = .returned (.tuple #[]) ∧ Turn no w w' := by
  have hT0 : Turn no w (Pw w k n vb) := (Turn.refl _ _).alloc _
  have hW := h.turn_no hT0
  have hb0 := hb.turn_no hT0
  have hcv := bytes_text hb0
  obtain ⟨a, c, rfl⟩ := hb.slice
  have hvl := varE_le n
  have hvB := varE_le B.length
  have Hh := shutX (And.intro hW hT0)
  have HB := shutX hb0
  clear h hW hT0 hb0 hb
  unfold Pw at hcv Hh HB
  have hkind := fun w => kind_any w k
  have hz := hn
  rw [hk] at hkind
  clear hk
  go_enter Try.func23, Try.ntmps23
  go_wp2_with (first | (go_at_call 9; refine (hkind _).mono ?_; rintro e w' ⟨rfl, rfl⟩) | (go_at_call 57; refine (put57_err _ q v bs e0 h0 (Hh.out.1.turn_no (Turn.refl no _)) _ _ _).mono ?_; rintro e w2 ⟨rfl, e2⟩; subst e2))
  go_end0
  exact ⟨rfl, Hh.out.2.then_no (Turn.refl no _)⟩
set_option maxRecDepth 100000 in
set_option maxHeartbeats 4000000 in
theorem paper_err_6 (w : World) (q : Nat) (v : Value) (bs : List UInt8) (e0 : Int) (h0 : (e0 == 0) = false) (h1 : (e0 != 0) = true) (k : Int) (n : Nat) (hn : n < 18446744073709551616) (vb : Value) (B : List UInt8) (h : Rx w q v bs e0) (hb : Bs w vb B) (hle : bs.length + B.length + 30 ≤ 140737488355328) (hk : k % 9 = 6) :
    Calls Try.prog 23 #[.pointer (some ⟨q, 0, none⟩), .agg #[.int .i64 k, .int .u64 n, vb]] w fun e w' => e = .returned (.tuple #[]) ∧ Turn no w w' := by
  have hT0 : Turn no w (Pw w k n vb) := (Turn.refl _ _).alloc _
  have hW := h.turn_no hT0
  have hb0 := hb.turn_no hT0
  have hcv := bytes_text hb0
  obtain ⟨a, c, rfl⟩ := hb.slice
  have hvl := varE_le n
  have hvB := varE_le B.length
  have Hh := shutX (And.intro hW hT0)
  have HB := shutX hb0
  clear h hW hT0 hb0 hb
  unfold Pw at hcv Hh HB
  have hkind := fun w => kind_any w k
  have hz := hn
  rw [hk] at hkind
  clear hk
  go_enter Try.func23, Try.ntmps23
  go_wp2_with (first | (go_at_call 9; refine (hkind _).mono ?_; rintro e w' ⟨rfl, rfl⟩) | (go_at_call 62; refine (rbytes62 _ _ B HB.out (by omega)).mono ?_; rintro e w1 ⟨vx, rfl, F⟩; obtain ⟨ad, ln, cp, rfl⟩ := F.form) | (go_at_call 57; refine (put57_err _ q v bs e0 h0 (Hh.out.1.turn_no (F.turn)) _ _ _).mono ?_; rintro e w2 ⟨rfl, e2⟩; subst e2))
  go_end0
  exact ⟨rfl, Hh.out.2.then_no (F.turn)⟩
set_option maxRecDepth 100000 in
set_option maxHeartbeats 4000000 in
theorem paper_err_7 (w : World) (q : Nat) (v : Value) (bs : List UInt8) (e0 : Int) (h0 : (e0 == 0) = false) (h1 : (e0 != 0) = true) (k : Int) (n : Nat) (hn : n < 18446744073709551616) (vb : Value) (B : List UInt8) (h : Rx w q v bs e0) (hb : Bs w vb B) (hle : bs.length + B.length + 30 ≤ 140737488355328) (hk : k % 9 = 7) :
    Calls Try.prog 23 #[.pointer (some ⟨q, 0, none⟩), .agg #[.int .i64 k, .int .u64 n, vb]] w fun e w' => e = .returned (.tuple #[]) ∧ Turn no w w' := by
  have hT0 : Turn no w (Pw w k n vb) := (Turn.refl _ _).alloc _
  have hW := h.turn_no hT0
  have hb0 := hb.turn_no hT0
  have hcv := bytes_text hb0
  obtain ⟨a, c, rfl⟩ := hb.slice
  have hvl := varE_le n
  have hvB := varE_le B.length
  have Hh := shutX (And.intro hW hT0)
  have HB := shutX hb0
  clear h hW hT0 hb0 hb
  unfold Pw at hcv Hh HB
  have hkind := fun w => kind_any w k
  have hz := hn
  rw [hk] at hkind
  clear hk
  go_enter Try.func23, Try.ntmps23
  go_wp2_with (first | (go_at_call 9; refine (hkind _).mono ?_; rintro e w' ⟨rfl, rfl⟩) | (go_at_call 63; refine (rtext63 _ B (by omega)).mono ?_; rintro e w1 ⟨vx, rfl, F⟩; obtain ⟨ad, ln, cp, rfl⟩ := F.form) | (go_at_call 57; refine (put57_err _ q v bs e0 h0 (Hh.out.1.turn_no (F.turn)) _ _ _).mono ?_; rintro e w2 ⟨rfl, e2⟩; subst e2))
  go_end0
  exact ⟨rfl, Hh.out.2.then_no (F.turn)⟩
set_option maxRecDepth 100000 in
set_option maxHeartbeats 4000000 in
theorem paper_err_8 (w : World) (q : Nat) (v : Value) (bs : List UInt8) (e0 : Int) (h0 : (e0 == 0) = false) (h1 : (e0 != 0) = true) (k : Int) (n : Nat) (hn : n < 18446744073709551616) (vb : Value) (B : List UInt8) (h : Rx w q v bs e0) (hb : Bs w vb B) (hle : bs.length + B.length + 30 ≤ 140737488355328) (hk : k % 9 = 8) :
    Calls Try.prog 23 #[.pointer (some ⟨q, 0, none⟩), .agg #[.int .i64 k, .int .u64 n, vb]] w fun e w' => e = .returned (.tuple #[]) ∧ Turn no w w' := by
  have hT0 : Turn no w (Pw w k n vb) := (Turn.refl _ _).alloc _
  have hW := h.turn_no hT0
  have hb0 := hb.turn_no hT0
  have hcv := bytes_text hb0
  obtain ⟨a, c, rfl⟩ := hb.slice
  have hvl := varE_le n
  have hvB := varE_le B.length
  have Hh := shutX (And.intro hW hT0)
  have HB := shutX hb0
  clear h hW hT0 hb0 hb
  unfold Pw at hcv Hh HB
  have hkind := fun w => kind_any w k
  rw [hk] at hkind
  clear hk
  go_enter Try.func23, Try.ntmps23
  go_wp2_with (first | (go_at_call 9; refine (hkind _).mono ?_; rintro e w' ⟨rfl, rfl⟩) | (go_at_call 64; refine (rcount64_err _ q v bs e0 h1 Hh.out.1 _).mono ?_; rintro e w2 ⟨rfl, e2⟩; subst e2))
  go_end0
  exact ⟨rfl, Hh.out.2⟩
theorem paper_err (w : World) (q : Nat) (v : Value) (bs : List UInt8) (e0 : Int) (h0 : (e0 == 0) = false) (h1 : (e0 != 0) = true) (k : Int) (n : Nat) (hn : n < 18446744073709551616) (vb : Value) (B : List UInt8) (h : Rx w q v bs e0) (hb : Bs w vb B) (hle : bs.length + B.length + 30 ≤ 140737488355328) :
    Calls Try.prog 23 #[.pointer (some ⟨q, 0, none⟩), .agg #[.int .i64 k, .int .u64 n, vb]] w fun e w' => e = .returned (.tuple #[]) ∧ Turn no w w' := by
  have hk : k % 9 = 0 ∨ k % 9 = 1 ∨ k % 9 = 2 ∨ k % 9 = 3 ∨ k % 9 = 4 ∨ k % 9 = 5 ∨ k % 9 = 6 ∨ k % 9 = 7 ∨ k % 9 = 8 := by omega
  rcases hk with hk | hk | hk | hk | hk | hk | hk | hk | hk
  · exact paper_err_0 w q v bs e0 h0 h1 k n hn vb B h hb hle hk
  · exact paper_err_1 w q v bs e0 h0 h1 k n hn vb B h hb hle hk
  · exact paper_err_2 w q v bs e0 h0 h1 k n hn vb B h hb hle hk
  · exact paper_err_3 w q v bs e0 h0 h1 k n hn vb B h hb hle hk
  · exact paper_err_4 w q v bs e0 h0 h1 k n hn vb B h hb hle hk
  · exact paper_err_5 w q v bs e0 h0 h1 k n hn vb B h hb hle hk
  · exact paper_err_6 w q v bs e0 h0 h1 k n hn vb B h hb hle hk
  · exact paper_err_7 w q v bs e0 h0 h1 k n hn vb B h hb hle hk
  · exact paper_err_8 w q v bs e0 h0 h1 k n hn vb B h hb hle hk
end Go.Proofs.Ytfjdojodbhmmaaa
