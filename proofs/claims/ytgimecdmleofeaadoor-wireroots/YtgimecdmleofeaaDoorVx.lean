/- Texts in one. -/
import Derived.Test.YtgimecdmleofeaaDoorV2
/- 'lay' on a Writer that was made, with an error or without. -/
namespace Go.Proofs.YtgimecdmleofeaaDoor
open Go.RowKit
set_option linter.unusedVariables false

/-- What a value lays down: its bytes, the error. -/
def enc (k : Int) (n : Nat) (B : List UInt8) : List UInt8 × Int :=
  if k % 9 = 0 then (leB (n % 256) 1, 0)
  else if k % 9 = 1 then (leB (n % 2) 1, 0)
  else if k % 9 = 2 then (leB (n % 4294967296) 4, 0)
  else if k % 9 = 3 then (leB n 8, 0)
  else if k % 9 = 4 then (varE n, 0)
  else if k % 9 = 5 then (B, 0)
  else if k % 9 = 6 then (varE B.length ++ B, 0)
  else if k % 9 = 7 then (varE B.length ++ B, 0)
  else if n < 9223372036854775808 then (varE n, 0) else ([], 2)

/-- A Writer's state behind a value. -/
def wput (bs : List UInt8) (e : Int) (k : Int) (n : Nat) (B : List UInt8) : List UInt8 × Int := if e = 0 then (bs ++ (enc k n B).1, (enc k n B).2) else (bs, e)

theorem Bs.turn' {S : Nat → Prop} {w w' : World} {v : Value} {bs : List UInt8} (h : Bs w v bs) (ht : Turn S w w') (hn : bs ≠ [] → ∀ g, v.ownBlock = some g → ¬ S g) : Bs w' v bs := by
  by_cases hb : bs = []
  · subst hb
    rcases h with q | ⟨a, cap, q, h1, h2, _⟩
    · exact Or.inl q
    · exact Or.inr ⟨a, cap, q, h1, h2, fun j u hu => (by simp at hu)⟩
  · exact h.turn ht (hn hb)

theorem wrap64_big (n : Nat) (h1 : 9223372036854775808 ≤ n) (h2 : n < 18446744073709551616) : wrap64 (n : Int) < 0 := by
  unfold wrap64
  omega

def Pw (w : World) (k : Int) (n : Nat) (vb : Value) : World := w.alloc (.cells #[.int .i64 k, .int .u64 n, vb] 27)

theorem laid_back {w w' : World} {p : Nat} {v : Value} {bs bs' : List UInt8} {e e' : Int} {k : Int} {n : Nat} {vb : Value} (h0 : Wr w p v bs e) (h : Laid (Pw w k n vb) p v bs' e' w') : Laid w p v bs' e' w' := by
  obtain ⟨v', h1, h2, h3⟩ := h
  refine ⟨v', h1, ((Turn.refl no w).alloc _).of_no.trans h2 (fun _ _ q => q), ?_⟩
  rcases h3 with q | ⟨g, q, r⟩
  · exact Or.inl q
  · exact Or.inr ⟨g, q, by simp [Pw] at r; omega⟩

end Go.Proofs.YtgimecdmleofeaaDoor



/- The document's forms: fixed, Var, Bool, Bytes, Text. -/
namespace Go.Proofs.YtgimecdmleofeaaDoor
open Go.RowKit
set_option linter.unusedVariables false

structure Shut (p : Prop) : Prop where
  out : p
theorem shutX {p : Prop} (h : p) : Shut p := ⟨h⟩
/-- Bytes in new memory. -/
structure Fr (w w' : World) (v : Value) (xs : List UInt8) : Prop where
  own : Own w' 5 v (xs.map bv)
  new : ∀ g, v.ownBlock = some g → w.heap.size ≤ g
  turn : Turn no w w'
theorem Fr.nil (w : World) : Fr w w (.slice none 0 0) [] := ⟨Own.nil _ _, fun g q => (by cases q), Turn.refl _ _⟩
theorem Fr.append {w wr wa w1 : World} {v v' : Value} {xs ys : List UInt8} (h : Fr w wr v xs) (ha : Turn no wr wa) (ho : Own w1 5 v' (xs.map bv ++ ys.map bv)) (hg : Grew wa w1 v v') : Fr w w1 v' (xs ++ ys) :=
  ⟨by rw [List.map_append]; exact ho, hg.fresh h.new (by have := h.turn.size; have := ha.size; omega), (h.turn.then_no ha).fresh hg h.new⟩
theorem Fr.form {w w' : World} {v : Value} {xs : List UInt8} (h : Fr w w' v xs) : ∃ a n cap, v = .slice a n cap := h.own.form
theorem Fr.pre {w w0 w' : World} {v : Value} {xs : List UInt8} (h : Fr w0 w' v xs) (t : Turn no w w0) : Fr w w' v xs :=
  ⟨h.own, fun g hg => Nat.le_trans t.size (h.new g hg), t.then_no h.turn⟩

theorem low_byte (m : Nat) : ((m : Int) % 256) % 256 = ((UInt8.ofNat m).toNat : Int) := by
  simp
theorem low_byte1 (m : Nat) : ((m : Int) % 256) = ((UInt8.ofNat m).toNat : Int) := by
  simp

set_option maxRecDepth 100000 in
theorem rvar61 (w : World) (n : Nat) (hn : n < 18446744073709551616) :
    Calls Tryd.prog 99 #[.int .u64 n] w fun e w' => ∃ v, e = .returned v ∧ Fr w w' v (varE n) := by
  go_enter Tryd.func99, Tryd.ntmps99
  go_wp2_with fail
  go_loopw [0, 3] (fun i v wr => ∃ (f m : Nat) (pre : List UInt8), m < 128 ^ (f + 1) ∧ pre.length + f = 9 ∧ i = .int .u64 m ∧ m < 18446744073709551616 ∧ pre ++ varF (f + 1) m = varE n ∧ Fr w wr v pre) (fun i _ _ => (intOf i).toNat)
  case atStart => exact ⟨9, n, [], by omega, rfl, rfl, hn, rfl, Fr.nil w⟩
  case round =>
    obtain ⟨f, m, pre, hf, hpl, rfl, hm, hpre, F⟩ := hrel
    have HP := shutX hpre
    have HF := shutX hf
    have hpl' : pre.length ≤ 9 := by omega
    have HL := shutX hpl
    clear hpre hf hpl
    by_cases hlt : 127 < m
    · have hlt' : (128 : Int) ≤ (m : Int) := by omega
      go_wp2_with (at_builtin; refine wpList_append_src rfl (.tmp 6) (.tmp 11) rfl Tryd.underlying70 Tryd.info5 rfl _ (pre.map bv) rfl (F.own.turn_no ((Turn.refl _ _).alloc _)) _ 1 (List.map bv [UInt8.ofNat (m % 128 + 128)]) rfl ?src ?b ?m ?_)
      case src => exact src_byte Tryd.underlying70 _ _ _ (by simp; omega)
      case b => simp; omega
      case m => simp [maxLen]; omega
      intro v1 w1 o1 g1 _
      have o1 : Own w1 5 v1 (pre.map bv ++ List.map bv [UInt8.ofNat (m % 128 + 128)]) := by simpa using o1
      have F1 := F.append ((Turn.refl _ _).alloc _) o1 g1
      obtain ⟨ad, ln, cp, rfl⟩ := o1.form
      clear o1 g1 F
      go_wp2_with fail
      refine ⟨?_, ?_⟩
      · obtain ⟨f', rfl, k1, k2⟩ := var_step HP.out hlt HF.out
        have hl := HL.out
        exact ⟨f', m / 128, pre ++ [UInt8.ofNat (m % 128 + 128)], k1, by simp; omega, by simp, by omega, k2, F1⟩
      · simp [intOf]; omega
    · have hlt' : ¬ (128 : Int) ≤ (m : Int) := by omega
      go_wp2_with (at_builtin; refine wpList_append_src rfl (.tmp 15) (.tmp 18) rfl Tryd.underlying70 Tryd.info5 rfl _ (pre.map bv) rfl (F.own.turn_no ((Turn.refl _ _).alloc _)) _ 1 (List.map bv [UInt8.ofNat m]) rfl ?src2 ?b2 ?m2 ?_)
      case src2 => exact src_byte Tryd.underlying70 _ _ _ (by first | exact u64_byte m (by omega) | exact low_byte1 m)
      case b2 => first | omega | (simp; omega)
      case m2 => first | (unfold maxLen; omega) | (simp [maxLen]; omega)
      intro v1 w1 o1 g1 _
      have o1 : Own w1 5 v1 (pre.map bv ++ List.map bv [UInt8.ofNat m]) := by simpa using o1
      have F1 := F.append ((Turn.refl _ _).alloc _) o1 g1
      obtain ⟨ad, ln, cp, rfl⟩ := o1.form
      clear o1 g1 F
      go_wp2_with fail
      go_ret
      rw [var_last HP.out hlt] at F1
      exact ⟨_, rfl, F1⟩

end Go.Proofs.YtgimecdmleofeaaDoor


