/- A writer, call behind call; layTx. -/
import Derived.Test.YtpfjllkmaogafaaT1
import Derived.Test.YtpfjllkmaogafaaV2
import Derived.Deep.RegionLaw
import Derived.Deep.CutRange
import Derived.Deep.QuietTactic
import Derived.BigQuiet
namespace Go.Proofs.Ytpfjllkmaogafaa
open Go.RowKit
set_option linter.unusedVariables false

section
variable {w0 W W' : World} {p : Nat} {v v1 : Value} {bs bs' : List UInt8}
theorem Laid.trans {e e' : Int} (h : Wr W p v1 bs e) (t : Turn (wfoot p v) w0 W) (n : Near w0 v v1) (k : Laid W p v1 bs' e' W') : Laid w0 p v bs' e' W' := by
  obtain ⟨v2, k1, k2, k3⟩ := k
  exact ⟨v2, k1, near_turn t n k2, near_near t.size n k3⟩
theorem step62 (L : Laid w0 p v bs 0 W) (n : Nat) (hn : n < 18446744073709551616) (hle : bs.length + 10 ≤ 140737488355328) : Calls Try.prog 62 #[.pointer (some ⟨p, 0, none⟩), .int .u64 n] W fun e w' => e = .returned (.tuple #[]) ∧ Laid w0 p v (bs ++ varE n) 0 w' := by
  obtain ⟨v1, h, t, nr⟩ := L
  exact (var_made W p v1 bs n hn h hle).mono (fun e w' ⟨q1, q2⟩ => ⟨q1, Laid.trans h t nr q2⟩)
theorem step57 (L : Laid w0 p v bs 0 W) (n : Nat) (hn : n < 256) (hle : bs.length + 10 ≤ 140737488355328) : Calls Try.prog 57 #[.pointer (some ⟨p, 0, none⟩), .int .u8 n] W fun e w' => e = .returned (.tuple #[]) ∧ Laid w0 p v (bs ++ leB n 1) 0 w' := by
  obtain ⟨v1, h, t, nr⟩ := L
  exact (wbyte_made W p v1 bs h n hn hle).mono (fun e w' ⟨q1, q2⟩ => ⟨q1, Laid.trans h t nr q2⟩)
theorem step71 (L : Laid w0 p v bs 0 W) (x : Value) (B : List UInt8) (hx : Bs W x B) (hle : bs.length + B.length + 10 ≤ 140737488355328) : Calls Try.prog 71 #[.pointer (some ⟨p, 0, none⟩), x] W fun e w' => e = .returned (.tuple #[]) ∧ Laid w0 p v (bs ++ B) 0 w' := by
  obtain ⟨v1, h, t, nr⟩ := L
  exact (wraw_made W p v1 bs h x B hx hle).mono (fun e w' ⟨q1, q2⟩ => ⟨q1, Laid.trans h t nr q2⟩)
theorem step58 (L : Laid w0 p v bs 0 W) (x : ByteArray) (hle : bs.length + x.size + 10 ≤ 140737488355328) : Calls Try.prog 58 #[.pointer (some ⟨p, 0, none⟩), .string x] W fun e w' => e = .returned (.tuple #[]) ∧ Laid w0 p v (bs ++ (varE x.size ++ x.data.toList)) 0 w' := by
  obtain ⟨v1, h, t, nr⟩ := L
  exact (wtext_made W p v1 bs h x hle).mono (fun e w' ⟨q1, q2⟩ => ⟨q1, Laid.trans h t nr q2⟩)
theorem Laid.turn (L : Laid w0 p v bs 0 W) : Turn (wfoot p v) w0 W := by
  obtain ⟨v1, h, t, nr⟩ := L
  exact t
/-- A block that was there and is not the writer's. -/
theorem Laid.cell (L : Laid w0 p v bs 0 W) {b j : Nat} {u : Value} (hb : ¬ wfoot p v b) (h : w0.cell? ⟨b, j, none⟩ = some u) : W.cell? ⟨b, j, none⟩ = some u := L.turn.keep h hb
theorem Laid.pre {w : World} {e : Int} (h : Laid w0 p v bs e W) (t : Turn no w w0) : Laid w p v bs e W := by
  obtain ⟨v1, k1, k2, k3⟩ := h
  refine ⟨v1, k1, t.of_no.trans k2 (fun _ _ q => q), ?_⟩
  rcases k3 with q | ⟨g, q, hg⟩
  · exact .inl q
  · exact .inr ⟨g, q, Nat.le_trans t.size hg⟩
end
theorem layNone59 (w : World) (x : Value) (hx : ∃ a n c, x = .slice a n c) : Calls Try.prog 59 #[x] w fun e w' => e = .returned (.tuple #[]) ∧ w' = w := by
  obtain ⟨a, n, c, rfl⟩ := hx
  go_enter Try.func59, Try.ntmps59
  go_wp2_with fail
  go_end0
  exact ⟨rfl, rfl⟩
/-- What a transaction is without its seal. -/
def txB (x : Tx) : List UInt8 := leB x.k.toNat 1 ++ (varE x.fr ++ (varE x.to ++ (varE x.am ++ (varE x.fe ++ varE x.no))))
set_option maxRecDepth 100000 in
set_option maxHeartbeats 4000000 in
theorem layTx28 (w : World) (p : Nat) (v : Value) (bs : List UInt8) (h : Wr w p v bs 0) (x : Tx) (ho : x.ok) (hk1 : 1 ≤ x.k) (hk4 : x.k ≤ 4) (hle : bs.length + 1000 ≤ 140737488355328) :
    Calls Try.prog 28 #[.pointer (some ⟨p, 0, none⟩), .agg x.cs.toArray, .func (.func 59) #[] #[]] w fun e w' => e = .returned (.tuple #[]) ∧ Laid w p v (bs ++ txB x) 0 w' := by
  obtain ⟨c0, c1, c2, c3, c4, c5, _⟩ := (Row.new w x.cs.toArray 27).tx
  simp only [Nat.zero_add] at c1 c2 c3 c4 c5
  have t0 : Turn no w (w.alloc (.cells x.cs.toArray 27)) := (Turn.refl no w).alloc _
  have L0 := Laid.refl (h.turn_no t0)
  have hb : ¬ wfoot p v w.heap.size := by
    rintro (q | q)
    · have := h.lt; omega
    · have := h.own.lt q; omega
  obtain ⟨hs, b1, b2, b3, b4, b5⟩ := ho
  obtain ⟨k, hk⟩ : ∃ k : Nat, x.k = (k : Int) := ⟨x.k.toNat, by omega⟩
  have hB : txB x = leB k 1 ++ (varE x.fr ++ (varE x.to ++ (varE x.am ++ (varE x.fe ++ varE x.no)))) := by unfold txB; rw [hk, Int.toNat_natCast]
  rw [hB]
  rw [hk] at c0 hk1 hk4
  have l1 := leB_length k 1
  have l2 := varE_le x.fr
  have l3 := varE_le x.to
  have l4 := varE_le x.am
  have l5 := varE_le x.fe
  generalize x.fr = fr at *
  generalize x.to = tt at *
  generalize x.am = am at *
  generalize x.fe = fe at *
  generalize x.no = nn at *
  generalize x.cs.toArray = C at *
  have HC := shutX (fun W B (L : Laid (w.alloc (.cells C 27)) p v B 0 W) => And.intro (L.cell hb c1) (And.intro (L.cell hb c2) (And.intro (L.cell hb c3) (And.intro (L.cell hb c4) (L.cell hb c5)))))
  have hw8 : IntKind.u8.wrap (k : Int) = (k : Int) := by rw [IntKind.wrap_u8]; omega
  have S1 := step57 L0 k (by omega) (by omega)
  have S2 := fun W L => step62 (w0 := w.alloc (.cells C 27)) (W := W) (p := p) (v := v) (bs := bs ++ leB k 1) L fr b1 (by simp; omega)
  have S3 := fun W L => step62 (w0 := w.alloc (.cells C 27)) (W := W) (p := p) (v := v) (bs := bs ++ leB k 1 ++ varE fr) L tt b2 (by simp; omega)
  have S4 := fun W L => step62 (w0 := w.alloc (.cells C 27)) (W := W) (p := p) (v := v) (bs := bs ++ leB k 1 ++ varE fr ++ varE tt) L am b3 (by simp; omega)
  have S5 := fun W L => step62 (w0 := w.alloc (.cells C 27)) (W := W) (p := p) (v := v) (bs := bs ++ leB k 1 ++ varE fr ++ varE tt ++ varE am) L fe b4 (by simp; omega)
  have S6 := fun W L => step62 (w0 := w.alloc (.cells C 27)) (W := W) (p := p) (v := v) (bs := bs ++ leB k 1 ++ varE fr ++ varE tt ++ varE am ++ varE fe) L nn b5 (by simp; omega)
  have HS := shutX (And.intro S2 (And.intro S3 (And.intro S4 (And.intro S5 S6))))
  have HN := layNone59
  clear S2 S3 S4 S5 S6 b1 b2 b3 b4 b5 l1 l2 l3 l4 l5 hle hB c1 c2 c3 c4 c5 L0 h
  go_enter Try.func28, Try.ntmps28
  go_upto_region 2 with (go_at_call 57; refine S1.mono ?_; rintro e w1 ⟨rfl, L1⟩; obtain ⟨d1, -, -, -, -⟩ := HC.out w1 _ L1; clear S1)
  go_upto_region 3 with (go_at_call 62; refine (HS.out.1 _ L1).mono ?_; rintro e w2 ⟨rfl, L2⟩; obtain ⟨-, d2, -, -, -⟩ := HC.out w2 _ L2)
  go_upto_region 4 with (go_at_call 62; refine (HS.out.2.1 _ L2).mono ?_; rintro e w3 ⟨rfl, L3⟩; obtain ⟨-, -, d3, -, -⟩ := HC.out w3 _ L3)
  go_upto_region 5 with (go_at_call 62; refine (HS.out.2.2.1 _ L3).mono ?_; rintro e w4 ⟨rfl, L4⟩; obtain ⟨-, -, -, d4, -⟩ := HC.out w4 _ L4)
  go_upto_region 6 with (go_at_call 62; refine (HS.out.2.2.2.1 _ L4).mono ?_; rintro e w5 ⟨rfl, L5⟩; obtain ⟨-, -, -, -, d5⟩ := HC.out w5 _ L5)
  go_upto_region 7 with (go_at_call 62; refine (HS.out.2.2.2.2 _ L5).mono ?_; rintro e w6 ⟨rfl, L6⟩)
  go_wp2_with (first | (go_at_call 59; refine (HN _ _ ⟨_, _, _, rfl⟩).mono ?_; rintro e w7 ⟨rfl, rfl⟩))
  go_end0
  refine ⟨rfl, ?_⟩
  have := L6.pre t0
  simpa [List.append_assoc] using this
end Go.Proofs.Ytpfjllkmaogafaa
