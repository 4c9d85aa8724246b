/- The document's reads: Byte, Bool, U32, U64, Raw. -/
import Derived.Test.YtfjdojodbhmmaaaY2
import Derived.Test.YtfjdojodbhmmaaaY3
namespace Go.Proofs.Ytfjdojodbhmmaaa
open Go.RowKit
set_option linter.unusedVariables false

theorem lsum_take (l : List UInt8) (n : Nat) : ∀ k, k ≤ n → lsum (l.take n) k = lsum l k
  | 0, _ => rfl
  | k + 1, h => by
    rw [lsum, lsum, lsum_take l n k (by omega)]
    have : (l.take n).getD k 0 = l.getD k 0 := by
      rw [List.getD_eq_getElem?_getD, List.getD_eq_getElem?_getD, List.getElem?_take, if_pos (by omega)]
    rw [this]
theorem lnum_cut (bs : List UInt8) (i n : Nat) (h : i + n ≤ bs.length) : lnum ((bs.take (i + n)).drop i) = lsum (bs.drop i) n := by
  have e : (bs.take (i + n)).drop i = (bs.drop i).take n := by rw [List.drop_take, Nat.add_sub_cancel_left]
  rw [e, lnum_lsum, List.length_take, List.length_drop, Nat.min_eq_left (by omega), lsum_take _ _ _ (Nat.le_refl _)]
theorem cut_len (bs : List UInt8) (i n : Nat) (h : i + n ≤ bs.length) : ((bs.take (i + n)).drop i).length = n := by simp; omega
section
variable {w : World} {q : Nat} {v : Value} {bs : List UInt8} {i : Nat}
/-- What a number's read leaves. -/
def Nu (w : World) (q : Nat) (v : Value) (bs : List UInt8) (x : Value) (i : Nat) (er : Int) (e : Ending) (w' : World) : Prop := e = .returned x ∧ Rq w' q v bs i er ∧ Turn (fun k => k = q) w w'
theorem byte69_err (e0 : Int) (h0 : (e0 != 0) = true) (h : Rq w q v bs i e0) : Calls Try.prog 69 #[.pointer (some ⟨q, 0, none⟩)] w (Nu w q v bs (.int .u8 0) i e0) := by
  have C := take100_err w q v bs i e0 h0 h 1
  go_enter Try.func69, Try.ntmps69
  go_wp2_with (go_at_call 100; refine C.mono ?_; rintro e w1 ⟨rfl, rfl⟩)
  go_ret
  exact ⟨rfl, h, Turn.refl _ _⟩
theorem byte69_cut (h : Rq w q v bs i 0) (hn : bs.length - i < 1) (hle : bs.length ≤ 140737488355328) : Calls Try.prog 69 #[.pointer (some ⟨q, 0, none⟩)] w (Nu w q v bs (.int .u8 0) i 10) := by
  have C : Calls Try.prog 100 #[.pointer (some ⟨q, 0, none⟩), .int .i64 1] w _ := take100_cut w q v bs i h 1 hn hle (by omega)
  go_enter Try.func69, Try.ntmps69
  go_wp2_with (go_at_call 100; refine C.mono ?_; rintro e w1 ⟨rfl, k1, k2⟩)
  go_ret
  exact ⟨rfl, k1, k2⟩
theorem byte69_ok (h : Rq w q v bs i 0) (hn : i + 1 ≤ bs.length) (hle : bs.length ≤ 140737488355328) : Calls Try.prog 69 #[.pointer (some ⟨q, 0, none⟩)] w (Nu w q v bs (.int .u8 (lsum (bs.drop i) 1)) (i + 1) 0) := by
  have C : Calls Try.prog 100 #[.pointer (some ⟨q, 0, none⟩), .int .i64 1] w _ := take100_ok w q v bs i h 1 hn hle
  rw [← lnum_cut bs i 1 hn]
  have hl := cut_len bs i 1 hn
  obtain ⟨x, hx⟩ := List.length_eq_one_iff.1 hl
  rw [hx] at C ⊢
  have HL := shutX (show lnum [x] = x.toNat by simp [lnum])
  clear hl hx
  go_enter Try.func69, Try.ntmps69
  go_wp2_with (go_at_call 100; refine C.mono ?_; rintro e w1 ⟨v1, rfl, o1, n1, k1, k2⟩; obtain ⟨a1, cap1, rfl, ha⟩ := o1.len; obtain ⟨g1, rfl⟩ := ha (by simp); have cx : w1.cell? ⟨g1, 0, none⟩ = some (.int .u8 x.toNat) := o1.cell 0 (bv x) rfl; simp only [List.map_cons, List.map_nil, List.length_singleton])
  go_ret
  rw [HL.out]
  exact ⟨rfl, k1, k2⟩
theorem bool70_err (e0 : Int) (h0 : (e0 != 0) = true) (h : Rq w q v bs i e0) : Calls Try.prog 70 #[.pointer (some ⟨q, 0, none⟩)] w (Nu w q v bs (.bool false) i e0) := by
  have C := take100_err w q v bs i e0 h0 h 1
  go_enter Try.func70, Try.ntmps70
  go_wp2_with (go_at_call 100; refine C.mono ?_; rintro e w1 ⟨rfl, rfl⟩)
  go_ret
  exact ⟨rfl, h, Turn.refl _ _⟩
theorem bool70_cut (h : Rq w q v bs i 0) (hn : bs.length - i < 1) (hle : bs.length ≤ 140737488355328) : Calls Try.prog 70 #[.pointer (some ⟨q, 0, none⟩)] w (Nu w q v bs (.bool false) i 10) := by
  have C : Calls Try.prog 100 #[.pointer (some ⟨q, 0, none⟩), .int .i64 1] w _ := take100_cut w q v bs i h 1 hn hle (by omega)
  go_enter Try.func70, Try.ntmps70
  go_wp2_with (go_at_call 100; refine C.mono ?_; rintro e w1 ⟨rfl, k1, k2⟩)
  go_ret
  exact ⟨rfl, k1, k2⟩
theorem bool70_form (h : Rq w q v bs i 0) (hn : i + 1 ≤ bs.length) (hle : bs.length ≤ 140737488355328) (h1 : 1 < lsum (bs.drop i) 1) : Calls Try.prog 70 #[.pointer (some ⟨q, 0, none⟩)] w (Nu w q v bs (.bool false) i 11) := by
  have C : Calls Try.prog 100 #[.pointer (some ⟨q, 0, none⟩), .int .i64 1] w _ := take100_ok w q v bs i h 1 hn hle
  rw [← lnum_cut bs i 1 hn] at h1
  have hl := cut_len bs i 1 hn
  obtain ⟨x, hx⟩ := List.length_eq_one_iff.1 hl
  rw [hx] at C h1
  have h1 : (1 : Int) < (x.toNat : Int) := by simp [lnum] at h1; omega
  have hii := h.le
  clear hl hx
  go_enter Try.func70, Try.ntmps70
  go_wp2_with (go_at_call 100; refine C.mono ?_; rintro e w1 ⟨v1, rfl, o1, n1, k1, k2⟩; obtain ⟨a1, cap1, rfl, ha⟩ := o1.len; obtain ⟨g1, rfl⟩ := ha (by simp); have cx : w1.cell? ⟨g1, 0, none⟩ = some (.int .u8 x.toNat) := o1.cell 0 (bv x) rfl; have d1 := k1.c1; have d2 := k1.c2; have f1 := k1.f 1; have f2 := k1.f 2; simp only [Int.natCast_add, Int.natCast_one] at d1; simp only [List.map_cons, List.map_nil, List.length_singleton])
  go_ret
  have R := (k1.at1 i hii).at2 11
  exact ⟨rfl, R, (k2.trans (set_turn w1 q 1 _) (fun _ _ q => q)).trans (set_turn _ q 2 _) (fun _ _ q => q)⟩
theorem bool70_ok (h : Rq w q v bs i 0) (hn : i + 1 ≤ bs.length) (hle : bs.length ≤ 140737488355328) (h1 : ¬ 1 < lsum (bs.drop i) 1) : Calls Try.prog 70 #[.pointer (some ⟨q, 0, none⟩)] w (Nu w q v bs (.bool (decide (lsum (bs.drop i) 1 = 1))) (i + 1) 0) := by
  have C : Calls Try.prog 100 #[.pointer (some ⟨q, 0, none⟩), .int .i64 1] w _ := take100_ok w q v bs i h 1 hn hle
  rw [← lnum_cut bs i 1 hn] at h1 ⊢
  have hl := cut_len bs i 1 hn
  obtain ⟨x, hx⟩ := List.length_eq_one_iff.1 hl
  rw [hx] at C h1 ⊢
  have HL := shutX (show lnum [x] = x.toNat by simp [lnum])
  have h1 : ¬ (1 : Int) < (x.toNat : Int) := by simp [lnum] at h1; omega
  clear hl hx
  go_enter Try.func70, Try.ntmps70
  go_wp2_with (go_at_call 100; refine C.mono ?_; rintro e w1 ⟨v1, rfl, o1, n1, k1, k2⟩; obtain ⟨a1, cap1, rfl, ha⟩ := o1.len; obtain ⟨g1, rfl⟩ := ha (by simp); have cx : w1.cell? ⟨g1, 0, none⟩ = some (.int .u8 x.toNat) := o1.cell 0 (bv x) rfl; simp only [List.map_cons, List.map_nil, List.length_singleton])
  go_ret
  rw [HL.out]
  have e : ((x.toNat : Int) == 1) = decide (x.toNat = 1) := by
    rw [Bool.eq_iff_iff]
    simp
    omega
  rw [← e]
  exact ⟨rfl, k1, k2⟩
theorem u32_err (e0 : Int) (h0 : (e0 != 0) = true) (h : Rq w q v bs i e0) : Calls Try.prog 71 #[.pointer (some ⟨q, 0, none⟩)] w (Nu w q v bs (.int .u32 0) i e0) := by
  have C := take100_err w q v bs i e0 h0 h 4
  have C2 : Calls Try.prog 101 #[.slice none 0 0] w _ := number101 w (.slice none 0 0) [] (nil_bs w) (by simp)
  simp only [lnum, Int.natCast_zero] at C2
  go_enter Try.func71, Try.ntmps71
  go_wp2_with (first | (go_at_call 100; refine C.mono ?_; rintro e w1 ⟨rfl, rfl⟩) | (go_at_call 101; refine C2.mono ?_; rintro e w1 ⟨rfl, rfl⟩))
  go_ret
  exact ⟨rfl, h, Turn.refl _ _⟩
theorem u32_cut (h : Rq w q v bs i 0) (hn : bs.length - i < 4) (hle : bs.length ≤ 140737488355328) : Calls Try.prog 71 #[.pointer (some ⟨q, 0, none⟩)] w (Nu w q v bs (.int .u32 0) i 10) := by
  have C : Calls Try.prog 100 #[.pointer (some ⟨q, 0, none⟩), .int .i64 4] w _ := take100_cut w q v bs i h 4 hn hle (by omega)
  have C2 := fun w => number101 w (.slice none 0 0) [] (nil_bs w) (by simp)
  simp only [lnum, Int.natCast_zero] at C2
  go_enter Try.func71, Try.ntmps71
  go_wp2_with (first | (go_at_call 100; refine C.mono ?_; rintro e w1 ⟨rfl, k1, k2⟩) | (go_at_call 101; refine (C2 _).mono ?_; rintro e w1 ⟨rfl, rfl⟩))
  go_ret
  exact ⟨rfl, k1, k2⟩
theorem u32_ok (h : Rq w q v bs i 0) (hn : i + 4 ≤ bs.length) (hle : bs.length ≤ 140737488355328) : Calls Try.prog 71 #[.pointer (some ⟨q, 0, none⟩)] w (Nu w q v bs (.int .u32 (lsum (bs.drop i) 4)) (i + 4) 0) := by
  have C : Calls Try.prog 100 #[.pointer (some ⟨q, 0, none⟩), .int .i64 4] w _ := take100_ok w q v bs i h 4 hn hle
  have hlt := lsum_lt (bs.drop i) 4
  rw [← lnum_cut bs i 4 hn] at hlt ⊢
  have hl := cut_len bs i 4 hn
  generalize (bs.take (i + 4)).drop i = X at *
  have C2 := fun w v b => number101 w v X b (by omega)
  generalize lnum X = x at *
  have hx : (x : Int) < 4294967296 := by omega
  go_enter Try.func71, Try.ntmps71
  go_wp2_with (first | (go_at_call 100; refine C.mono ?_; rintro e w1 ⟨v1, rfl, o1, n1, k1, k2⟩; obtain ⟨a1, l1, cap1, rfl⟩ := o1.form) | (go_at_call 101; refine (C2 _ _ o1.bs).mono ?_; rintro e w1 ⟨rfl, rfl⟩))
  go_ret
  exact ⟨rfl, k1, k2⟩
theorem u64_err (e0 : Int) (h0 : (e0 != 0) = true) (h : Rq w q v bs i e0) : Calls Try.prog 72 #[.pointer (some ⟨q, 0, none⟩)] w (Nu w q v bs (.int .u64 0) i e0) := by
  have C := take100_err w q v bs i e0 h0 h 8
  have C2 : Calls Try.prog 101 #[.slice none 0 0] w _ := number101 w (.slice none 0 0) [] (nil_bs w) (by simp)
  simp only [lnum, Int.natCast_zero] at C2
  go_enter Try.func72, Try.ntmps72
  go_wp2_with (first | (go_at_call 100; refine C.mono ?_; rintro e w1 ⟨rfl, rfl⟩) | (go_at_call 101; refine C2.mono ?_; rintro e w1 ⟨rfl, rfl⟩))
  go_ret
  exact ⟨rfl, h, Turn.refl _ _⟩
theorem u64_cut (h : Rq w q v bs i 0) (hn : bs.length - i < 8) (hle : bs.length ≤ 140737488355328) : Calls Try.prog 72 #[.pointer (some ⟨q, 0, none⟩)] w (Nu w q v bs (.int .u64 0) i 10) := by
  have C : Calls Try.prog 100 #[.pointer (some ⟨q, 0, none⟩), .int .i64 8] w _ := take100_cut w q v bs i h 8 hn hle (by omega)
  have C2 := fun w => number101 w (.slice none 0 0) [] (nil_bs w) (by simp)
  simp only [lnum, Int.natCast_zero] at C2
  go_enter Try.func72, Try.ntmps72
  go_wp2_with (first | (go_at_call 100; refine C.mono ?_; rintro e w1 ⟨rfl, k1, k2⟩) | (go_at_call 101; refine (C2 _).mono ?_; rintro e w1 ⟨rfl, rfl⟩))
  go_ret
  exact ⟨rfl, k1, k2⟩
theorem u64_ok (h : Rq w q v bs i 0) (hn : i + 8 ≤ bs.length) (hle : bs.length ≤ 140737488355328) : Calls Try.prog 72 #[.pointer (some ⟨q, 0, none⟩)] w (Nu w q v bs (.int .u64 (lsum (bs.drop i) 8)) (i + 8) 0) := by
  have C : Calls Try.prog 100 #[.pointer (some ⟨q, 0, none⟩), .int .i64 8] w _ := take100_ok w q v bs i h 8 hn hle
  rw [← lnum_cut bs i 8 hn]
  have hl := cut_len bs i 8 hn
  generalize (bs.take (i + 8)).drop i = X at *
  have C2 := fun w v b => number101 w v X b (by omega)
  generalize lnum X = x at *
  go_enter Try.func72, Try.ntmps72
  go_wp2_with (first | (go_at_call 100; refine C.mono ?_; rintro e w1 ⟨v1, rfl, o1, n1, k1, k2⟩; obtain ⟨a1, l1, cap1, rfl⟩ := o1.form) | (go_at_call 101; refine (C2 _ _ o1.bs).mono ?_; rintro e w1 ⟨rfl, rfl⟩))
  go_ret
  exact ⟨rfl, k1, k2⟩
theorem var73_err (e0 : Int) (h0 : (e0 != 0) = true) (h : Rq w q v bs i e0) : Calls Try.prog 73 #[.pointer (some ⟨q, 0, none⟩)] w (Nu w q v bs (.int .u64 0) i e0) := by
  have c2 := h.c2
  go_enter Try.func73, Try.ntmps73
  go_wp2_with fail
  go_ret
  exact ⟨rfl, h, Turn.refl _ _⟩
end
end Go.Proofs.Ytfjdojodbhmmaaa
