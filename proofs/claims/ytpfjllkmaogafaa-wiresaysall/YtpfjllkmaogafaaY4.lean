/- The document's reads: Byte, Bool, U32, U64, Raw. -/
import Derived.Test.YtpfjllkmaogafaaY2
import Derived.Test.YtpfjllkmaogafaaY3
namespace Go.Proofs.Ytpfjllkmaogafaa
open Go.RowKit
set_option linter.unusedVariables false

theorem lsum_take (l : List UInt8) (n : Nat) : ∀ k, k ≤ n → lsum (l.take n) k = lsum l k
  | 0, _ => rfl
  | k + 1, h => by
    rw [lsum, lsum, lsum_take l n k (by omega)]
    have : (l.take n).getD k 0 = l.getD k 0 := by
      rw [List.getD_eq_getElem?_getD, List.getD_eq_getElem?_getD, List.getElem?_take, if_pos (by omega)]
    rw [this]
theorem lnum_cut (bs : List UInt8) (i n : Nat) (h : i + n ≤ bs.length) : lnum ((bs.take (i + n)).drop i) = lsum (bs.drop i) n := by
  have e : (bs.take (i + n)).drop i = (bs.drop i).take n := by rw [List.drop_take, Nat.add_sub_cancel_left]
  rw [e, lnum_lsum, List.length_take, List.length_drop, Nat.min_eq_left (by omega), lsum_take _ _ _ (Nat.le_refl _)]
theorem cut_len (bs : List UInt8) (i n : Nat) (h : i + n ≤ bs.length) : ((bs.take (i + n)).drop i).length = n := by simp; omega
section
variable {w : World} {q : Nat} {v : Value} {bs : List UInt8} {i : Nat}
/-- What a number's read leaves. -/
def Nu (w : World) (q : Nat) (v : Value) (bs : List UInt8) (x : Value) (i : Nat) (er : Int) (e : Ending) (w' : World) : Prop := e = .returned x ∧ Rq w' q v bs i er ∧ Turn (fun k => k = q) w w'
theorem byte69_err (e0 : Int) (h0 : (e0 != 0) = true) (h : Rq w q v bs i e0) : Calls Try.prog 99 #[.pointer (some ⟨q, 0, none⟩)] w (Nu w q v bs (.int .u8 0) i e0) := by
  have C := take100_err w q v bs i e0 h0 h 1
  go_enter Try.func99, Try.ntmps99
  go_wp2_with (go_at_call 125; refine C.mono ?_; rintro e w1 ⟨rfl, rfl⟩)
  go_ret
  exact ⟨rfl, h, Turn.refl _ _⟩
theorem byte69_cut (h : Rq w q v bs i 0) (hn : bs.length - i < 1) (hle : bs.length ≤ 140737488355328) : Calls Try.prog 99 #[.pointer (some ⟨q, 0, none⟩)] w (Nu w q v bs (.int .u8 0) i 10) := by
  have C : Calls Try.prog 125 #[.pointer (some ⟨q, 0, none⟩), .int .i64 1] w _ := take100_cut w q v bs i h 1 hn hle (by omega)
  go_enter Try.func99, Try.ntmps99
  go_wp2_with (go_at_call 125; refine C.mono ?_; rintro e w1 ⟨rfl, k1, k2⟩)
  go_ret
  exact ⟨rfl, k1, k2⟩
theorem byte69_ok (h : Rq w q v bs i 0) (hn : i + 1 ≤ bs.length) (hle : bs.length ≤ 140737488355328) : Calls Try.prog 99 #[.pointer (some ⟨q, 0, none⟩)] w (Nu w q v bs (.int .u8 (lsum (bs.drop i) 1)) (i + 1) 0) := by
  have C : Calls Try.prog 125 #[.pointer (some ⟨q, 0, none⟩), .int .i64 1] w _ := take100_ok w q v bs i h 1 hn hle
  rw [← lnum_cut bs i 1 hn]
  have hl := cut_len bs i 1 hn
  obtain ⟨x, hx⟩ := List.length_eq_one_iff.1 hl
  rw [hx] at C ⊢
  have HL := shutX (show lnum [x] = x.toNat by simp [lnum])
  clear hl hx
  go_enter Try.func99, Try.ntmps99
  go_wp2_with (go_at_call 125; refine C.mono ?_; rintro e w1 ⟨v1, rfl, o1, n1, k1, k2⟩; obtain ⟨a1, cap1, rfl, ha⟩ := o1.len; obtain ⟨g1, rfl⟩ := ha (by simp); have cx : w1.cell? ⟨g1, 0, none⟩ = some (.int .u8 x.toNat) := o1.cell 0 (bv x) rfl; simp only [List.map_cons, List.map_nil, List.length_singleton])
  go_ret
  rw [HL.out]
  exact ⟨rfl, k1, k2⟩
theorem var73_err (e0 : Int) (h0 : (e0 != 0) = true) (h : Rq w q v bs i e0) : Calls Try.prog 101 #[.pointer (some ⟨q, 0, none⟩)] w (Nu w q v bs (.int .u64 0) i e0) := by
  have c2 := h.c2
  go_enter Try.func101, Try.ntmps101
  go_wp2_with fail
  go_ret
  exact ⟨rfl, h, Turn.refl _ _⟩
end
end Go.Proofs.Ytpfjllkmaogafaa

