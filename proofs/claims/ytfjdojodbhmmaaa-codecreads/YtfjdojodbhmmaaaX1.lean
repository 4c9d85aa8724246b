/- The document's forms: fixed, Var, Bool, Bytes, Text. -/
import Derived.Test.YtfjdojodbhmmaaaV3
namespace Go.Proofs.Ytfjdojodbhmmaaa
open Go.RowKit
set_option linter.unusedVariables false

structure Shut (p : Prop) : Prop where
  out : p
theorem shutX {p : Prop} (h : p) : Shut p := ⟨h⟩
/-- Bytes in new memory. -/
structure Fr (w w' : World) (v : Value) (xs : List UInt8) : Prop where
  own : Own w' 5 v (xs.map bv)
  new : ∀ g, v.ownBlock = some g → w.heap.size ≤ g
  turn : Turn no w w'
theorem Fr.nil (w : World) : Fr w w (.slice none 0 0) [] := ⟨Own.nil _ _, fun g q => (by cases q), Turn.refl _ _⟩
theorem Fr.append {w wr wa w1 : World} {v v' : Value} {xs ys : List UInt8} (h : Fr w wr v xs) (ha : Turn no wr wa) (ho : Own w1 5 v' (xs.map bv ++ ys.map bv)) (hg : Grew wa w1 v v') : Fr w w1 v' (xs ++ ys) :=
  ⟨by rw [List.map_append]; exact ho, hg.fresh h.new (by have := h.turn.size; have := ha.size; omega), (h.turn.then_no ha).fresh hg h.new⟩
theorem Fr.form {w w' : World} {v : Value} {xs : List UInt8} (h : Fr w w' v xs) : ∃ a n cap, v = .slice a n cap := h.own.form
theorem Fr.pre {w w0 w' : World} {v : Value} {xs : List UInt8} (h : Fr w0 w' v xs) (t : Turn no w w0) : Fr w w' v xs :=
  ⟨h.own, fun g hg => Nat.le_trans t.size (h.new g hg), t.then_no h.turn⟩

theorem low_byte (m : Nat) : ((m : Int) % 256) % 256 = ((UInt8.ofNat m).toNat : Int) := by
  simp
theorem low_byte1 (m : Nat) : ((m : Int) % 256) = ((UInt8.ofNat m).toNat : Int) := by
  simp

set_option maxRecDepth 100000 in
theorem rfixed99 (w : World) (n k : Nat) (hn : n < 18446744073709551616) (hk : k ≤ 8) :
    Calls Try.prog 99 #[.int .u64 n, .int .i64 k] w fun e w' => ∃ v, e = .returned v ∧ Fr w w' v (leB n k) := by
  go_enter Try.func99, Try.ntmps99
  go_wp2_with fail
  go_loopw [0, 5, 6] (fun m v i wr => ∃ (j x : Nat), j ≤ k ∧ x = n / 256 ^ j ∧ m = .int .u64 x ∧ i = .int .i64 j ∧ Fr w wr v (leB n j)) (fun _ _ i _ => k - (intOf i).toNat)
  case atStart => exact ⟨0, n, by omega, by simp, rfl, rfl, Fr.nil w⟩
  case round =>
    obtain ⟨j, x, hj, hx, rfl, rfl, F⟩ := hrel
    have hx2 : x < 18446744073709551616 := by rw [hx]; exact Nat.lt_of_le_of_lt (Nat.div_le_self _ _) hn
    have Hx := shutX hx
    clear hx
    by_cases hlt : j < k
    · have hlt' : (j : Int) < (k : Int) := by omega
      have hbl : (leB n j).length = j := leB_length n j
      obtain ⟨L, hL⟩ : ∃ L, leB n j = L := ⟨_, rfl⟩
      rw [hL] at F hbl
      go_wp2_with (at_builtin; refine wpList_append_src rfl (.tmp 12) (.tmp 16) rfl Try.underlying25 Try.info5 rfl _ (L.map bv) rfl (F.own.turn_no ((Turn.refl _ _).alloc _)) _ 1 (List.map bv [UInt8.ofNat x]) rfl ?src ?b ?m ?_)
      case src => exact src_byte Try.underlying25 _ _ _ (by first | exact low_byte x | exact low_byte1 x)
      case b => simp; omega
      case m => simp [maxLen]; omega
      intro v1 w1 o1 g1 _
      have o1 : Own w1 5 v1 (L.map bv ++ List.map bv [UInt8.ofNat x]) := by simpa using o1
      have F1 := F.append ((Turn.refl _ _).alloc _) o1 g1
      obtain ⟨ad, ln, cp, rfl⟩ := o1.form
      clear o1 g1 F
      go_wp2_with fail
      refine ⟨⟨j + 1, x / 256, by omega, ?_, by simp, by simp, ?_⟩, ?_⟩
      · rw [Hx.out, Nat.pow_succ, Nat.div_div_eq_div_mul]
      · rw [leB_succ, ← Hx.out, hL]
        exact F1
      · simp only [intOf]; omega
    · obtain rfl : j = k := by omega
      have hlt' : ¬ (j : Int) < (j : Int) := by omega
      obtain ⟨ad, ln, cp, rfl⟩ := F.form
      go_wp2_with fail
      go_ret
      exact ⟨_, rfl, F⟩

set_option maxRecDepth 100000 in
theorem rvar61 (w : World) (n : Nat) (hn : n < 18446744073709551616) :
    Calls Try.prog 61 #[.int .u64 n] w fun e w' => ∃ v, e = .returned v ∧ Fr w w' v (varE n) := by
  go_enter Try.func61, Try.ntmps61
  go_wp2_with fail
  go_loopw [0, 3] (fun i v wr => ∃ (f m : Nat) (pre : List UInt8), m < 128 ^ (f + 1) ∧ pre.length + f = 9 ∧ i = .int .u64 m ∧ m < 18446744073709551616 ∧ pre ++ varF (f + 1) m = varE n ∧ Fr w wr v pre) (fun i _ _ => (intOf i).toNat)
  case atStart => exact ⟨9, n, [], by omega, rfl, rfl, hn, rfl, Fr.nil w⟩
  case round =>
    obtain ⟨f, m, pre, hf, hpl, rfl, hm, hpre, F⟩ := hrel
    have HP := shutX hpre
    have HF := shutX hf
    have hpl' : pre.length ≤ 9 := by omega
    have HL := shutX hpl
    clear hpre hf hpl
    by_cases hlt : 127 < m
    · have hlt' : (128 : Int) ≤ (m : Int) := by omega
      go_wp2_with (at_builtin; refine wpList_append_src rfl (.tmp 6) (.tmp 11) rfl Try.underlying25 Try.info5 rfl _ (pre.map bv) rfl (F.own.turn_no ((Turn.refl _ _).alloc _)) _ 1 (List.map bv [UInt8.ofNat (m % 128 + 128)]) rfl ?src ?b ?m ?_)
      case src => exact src_byte Try.underlying25 _ _ _ (by simp; omega)
      case b => simp; omega
      case m => simp [maxLen]; omega
      intro v1 w1 o1 g1 _
      have o1 : Own w1 5 v1 (pre.map bv ++ List.map bv [UInt8.ofNat (m % 128 + 128)]) := by simpa using o1
      have F1 := F.append ((Turn.refl _ _).alloc _) o1 g1
      obtain ⟨ad, ln, cp, rfl⟩ := o1.form
      clear o1 g1 F
      go_wp2_with fail
      refine ⟨?_, ?_⟩
      · obtain ⟨f', rfl, k1, k2⟩ := var_step HP.out hlt HF.out
        have hl := HL.out
        exact ⟨f', m / 128, pre ++ [UInt8.ofNat (m % 128 + 128)], k1, by simp; omega, by simp, by omega, k2, F1⟩
      · simp [intOf]; omega
    · have hlt' : ¬ (128 : Int) ≤ (m : Int) := by omega
      go_wp2_with (at_builtin; refine wpList_append_src rfl (.tmp 15) (.tmp 18) rfl Try.underlying25 Try.info5 rfl _ (pre.map bv) rfl (F.own.turn_no ((Turn.refl _ _).alloc _)) _ 1 (List.map bv [UInt8.ofNat m]) rfl ?src2 ?b2 ?m2 ?_)
      case src2 => exact src_byte Try.underlying25 _ _ _ (by first | exact u64_byte m (by omega) | exact low_byte1 m)
      case b2 => first | omega | (simp; omega)
      case m2 => first | (unfold maxLen; omega) | (simp [maxLen]; omega)
      intro v1 w1 o1 g1 _
      have o1 : Own w1 5 v1 (pre.map bv ++ List.map bv [UInt8.ofNat m]) := by simpa using o1
      have F1 := F.append ((Turn.refl _ _).alloc _) o1 g1
      obtain ⟨ad, ln, cp, rfl⟩ := o1.form
      clear o1 g1 F
      go_wp2_with fail
      go_ret
      rw [var_last HP.out hlt] at F1
      exact ⟨_, rfl, F1⟩

theorem rbool_t (w : World) : Calls Try.prog 58 #[.bool true] w fun e w' => ∃ v, e = .returned v ∧ Fr w w' v (leB 1 1) := by
  go_enter Try.func58, Try.ntmps58
  go_wp2_with fail
  go_ret
  exact ⟨_, rfl, Own.of (xs := [bv 1]) (cap := 1) (heap_alloc_new w _) (by simp) (by simp [maxLen]) (by simp) (by simp [bv]), fun g q => (by simp [Value.ownBlock] at q; omega), (Turn.refl _ _).alloc _⟩
theorem rbool_f (w : World) : Calls Try.prog 58 #[.bool false] w fun e w' => ∃ v, e = .returned v ∧ Fr w w' v (leB 0 1) := by
  go_enter Try.func58, Try.ntmps58
  go_wp2_with fail
  go_ret
  exact ⟨_, rfl, Own.of (xs := [bv 0]) (cap := 1) (heap_alloc_new w _) (by simp) (by simp [maxLen]) (by simp) (by simp [bv]), fun g q => (by simp [Value.ownBlock] at q; omega), (Turn.refl _ _).alloc _⟩
theorem ru32 (w : World) (n : Nat) (hn : n < 4294967296) : Calls Try.prog 59 #[.int .u32 n] w fun e w' => ∃ v, e = .returned v ∧ Fr w w' v (leB n 4) := by
  have c := rfixed99 w n 4 (by omega) (by omega)
  have hn' : (n : Int) < 4294967296 := by omega
  go_enter Try.func59, Try.ntmps59
  go_wp2_with (go_at_call 99; refine c.mono ?_; rintro e w1 ⟨v, rfl, F⟩; obtain ⟨ad, ln, cp, rfl⟩ := F.form)
  go_ret
  exact ⟨_, rfl, F⟩
theorem ru64 (w : World) (n : Nat) (hn : n < 18446744073709551616) : Calls Try.prog 60 #[.int .u64 n] w fun e w' => ∃ v, e = .returned v ∧ Fr w w' v (leB n 8) := by
  have c := rfixed99 w n 8 (by omega) (by omega)
  go_enter Try.func60, Try.ntmps60
  go_wp2_with (go_at_call 99; refine c.mono ?_; rintro e w1 ⟨v, rfl, F⟩; obtain ⟨ad, ln, cp, rfl⟩ := F.form)
  go_ret
  exact ⟨_, rfl, F⟩
set_option maxRecDepth 100000 in
theorem rbytes62 (w : World) (vb : Value) (B : List UInt8) (hb : Bs w vb B) (hle : B.length + 20 ≤ 140737488355328) : Calls Try.prog 62 #[vb] w fun e w' => ∃ v, e = .returned v ∧ Fr w w' v (varE B.length ++ B) := by
  obtain ⟨a, c, rfl⟩ := hb.slice
  have cv := rvar61 w B.length (by omega)
  obtain ⟨N, hN⟩ : ∃ N, B.length = N := ⟨_, rfl⟩
  have hvl := varE_le B.length
  have hsr := fun W (t : Turn no w W) => (hb.turn_no t).src (P := Try.prog) Try.underlying25
  rw [hN] at hsr cv hle hvl ⊢
  have Hsr := shutX hsr
  have HN := shutX hN
  clear hsr hN hb
  have hN63 : (N : Int) < 18446744073709551616 := by omega
  generalize varE N = E at *
  go_enter Try.func62, Try.ntmps62
  go_wp2_with (first | (go_at_call 61; refine cv.mono ?_; rintro e w1 ⟨v, rfl, F⟩; obtain ⟨ad, ln, cp, rfl⟩ := F.form) | (at_builtin; refine wpList_append_src rfl (.tmp 6) (.tmp 7) rfl Try.underlying25 Try.info5 rfl _ (E.map bv) rfl F.own _ N (B.map bv) rfl (Hsr.out _ F.turn) ?b ?m ?_; rotate_left 2; intro v1 w1' o1 g1 _))
  case b => first | omega | (simp; omega)
  case m => first | (unfold maxLen; omega) | (simp [maxLen]; omega)
  have F1 := F.append (Turn.refl _ _) o1 g1
  obtain ⟨ad, ln, cp, rfl⟩ := o1.form
  go_wp2_with fail
  go_ret
  exact ⟨_, rfl, F1⟩
end Go.Proofs.Ytfjdojodbhmmaaa
