/- layVote. -/
import Derived.Test.YtpfjllkmaogafaaT4
import Derived.Test.YtpfjllkmaogafaaU1
namespace Go.Proofs.Ytpfjllkmaogafaa
open Go.RowKit
set_option linter.unusedVariables false

/-- A vote whose numbers fit. -/
def Vt.fits (v : Vt) : Prop := v.ok ∧ (0 ≤ v.h ∧ v.h < 18446744073709551616) ∧ (0 ≤ v.t ∧ v.t < 18446744073709551616) ∧ (0 ≤ v.f ∧ v.f < 18446744073709551616)
/-- What a vote is without its seal. -/
def voB (x : Vt) : List UInt8 := leB x.k.toNat 1 ++ (varE x.h.toNat ++ (varE x.r.toNat ++ (x.id ++ (varE x.t.toNat ++ varE x.f.toNat))))
theorem bs_range {w : World} {b o : Nat} {X : List UInt8} (h : w.rangeAt b o (X.map bv)) (n : Nat) (hn : X.length = n) (hm : n ≤ 100) : Bs w (.slice (some ⟨b, o, none⟩) n n) X := by
  subst hn
  refine Or.inr ⟨⟨b, o, none⟩, X.length, rfl, Nat.le_refl _, by unfold maxLen; omega, fun j u hu => ?_⟩
  rw [Addr.add_lit]
  exact h j (bv u) (by rw [List.getElem?_map, hu]; rfl)
set_option maxRecDepth 100000 in
set_option maxHeartbeats 4000000 in
theorem layVote31 (w : World) (p : Nat) (v : Value) (bs : List UInt8) (h : Wr w p v bs 0) (x : Vt) (ho : x.fits) (hk1 : 1 ≤ x.k) (hk4 : x.k ≤ 2) (hr1 : 0 ≤ x.r) (hr2 : x.r ≤ 65535) (hle : bs.length + 1000 ≤ 140737488355328) :
    Calls Try.prog 31 #[.pointer (some ⟨p, 0, none⟩), .agg x.cs.toArray, .func (.func 59) #[] #[]] w fun e w' => e = .returned (.tuple #[]) ∧ Laid w p v (bs ++ voB x) 0 w' := by
  obtain ⟨hok, hh, ht, hf⟩ := ho
  obtain ⟨c0, c1, c2, c3, c4, ci⟩ := (Row.new w x.cs.toArray 31).vt hok
  have t0 : Turn no w (w.alloc (.cells x.cs.toArray 31)) := (Turn.refl no w).alloc _
  have L0 := Laid.refl (h.turn_no t0)
  have hb : ¬ wfoot p v w.heap.size := by
    rintro (q | q)
    · have := h.lt; omega
    · have := h.own.lt q; omega
  obtain ⟨k, hk⟩ : ∃ k : Nat, x.k = (k : Int) := ⟨x.k.toNat, by omega⟩
  obtain ⟨nh, eh⟩ : ∃ k : Nat, x.h = (k : Int) := ⟨x.h.toNat, by omega⟩
  obtain ⟨nr, er⟩ : ∃ k : Nat, x.r = (k : Int) := ⟨x.r.toNat, by omega⟩
  obtain ⟨nt, et⟩ : ∃ k : Nat, x.t = (k : Int) := ⟨x.t.toNat, by omega⟩
  obtain ⟨nf, ef⟩ : ∃ k : Nat, x.f = (k : Int) := ⟨x.f.toNat, by omega⟩
  have hB : voB x = leB k 1 ++ (varE nh ++ (varE nr ++ (x.id ++ (varE nt ++ varE nf)))) := by unfold voB; rw [hk, eh, er, et, ef]; simp only [Int.toNat_natCast]
  rw [hB]
  rw [hk] at c0 hk1 hk4
  rw [eh] at c1 hh
  rw [er] at c2 hr1 hr2
  rw [et] at c3 ht
  rw [ef] at c4 hf
  have hil := hok.1
  have l1 := leB_length k 1
  have l2 := varE_le nh
  have l3 := varE_le nr
  have l4 := varE_le nt
  generalize x.id = X at *
  generalize x.cs.toArray = C at *
  have HC := shutX (fun W B (L : Laid (w.alloc (.cells C 31)) p v B 0 W) => And.intro (L.cell hb c1) (And.intro (L.cell hb c2) (And.intro (L.cell hb c3) (And.intro (L.cell hb c4) (fun j u hu => L.cell hb (ci j u hu) : W.rangeAt w.heap.size 3 (X.map bv))))))
  have hw8 : IntKind.u8.wrap (k : Int) = (k : Int) := by rw [IntKind.wrap_u8]; omega
  have hwr : IntKind.u64.wrap (nr : Int) = (nr : Int) := by rw [IntKind.wrap_u64]; omega
  have S1 := step57 L0 k (by omega) (by omega)
  have S2 := fun W L => step62 (w0 := w.alloc (.cells C 31)) (W := W) (p := p) (v := v) (bs := bs ++ leB k 1) L nh (by omega) (by simp; omega)
  have S3 := fun W L => step62 (w0 := w.alloc (.cells C 31)) (W := W) (p := p) (v := v) (bs := bs ++ leB k 1 ++ varE nh) L nr (by omega) (by simp; omega)
  have S4 := fun W L (hx : W.rangeAt w.heap.size 3 (X.map bv)) => step71 (w0 := w.alloc (.cells C 31)) (W := W) (p := p) (v := v) (bs := bs ++ leB k 1 ++ varE nh ++ varE nr) L (.slice (some ⟨w.heap.size, 3, none⟩) 32 32) X (bs_range hx 32 hil (by omega)) (by simp; omega)
  have S5 := fun W L => step62 (w0 := w.alloc (.cells C 31)) (W := W) (p := p) (v := v) (bs := bs ++ leB k 1 ++ varE nh ++ varE nr ++ X) L nt (by omega) (by simp; omega)
  have S6 := fun W L => step62 (w0 := w.alloc (.cells C 31)) (W := W) (p := p) (v := v) (bs := bs ++ leB k 1 ++ varE nh ++ varE nr ++ X ++ varE nt) L nf (by omega) (by simp; omega)
  have HS := shutX (And.intro S2 (And.intro S3 (And.intro S4 (And.intro S5 S6))))
  have HN := layNone59
  clear S2 S3 S4 S5 S6 hh ht hf l1 l2 l3 l4 hle hB c1 c2 c3 c4 ci L0 h hil hok hr1 hr2 hk1 hk4 hk eh er et ef
  go_enter Try.func31, Try.ntmps31
  go_upto_region 2 with (go_at_call 57; refine S1.mono ?_; rintro e w1 ⟨rfl, L1⟩; obtain ⟨d1, -, -, -, -⟩ := HC.out w1 _ L1; clear S1)
  go_upto_region 3 with (go_at_call 62; refine (HS.out.1 _ L1).mono ?_; rintro e w2 ⟨rfl, L2⟩; obtain ⟨-, d2, -, -, -⟩ := HC.out w2 _ L2)
  go_upto_region 4 with (go_at_call 62; refine (HS.out.2.1 _ L2).mono ?_; rintro e w3 ⟨rfl, L3⟩)
  have S4 := HS.out.2.2.1 _ L3 (HC.out w3 _ L3).2.2.2.2
  go_upto_region 5 with (go_at_call 71; refine S4.mono ?_; rintro e w4 ⟨rfl, L4⟩; obtain ⟨-, -, d3, -, -⟩ := HC.out w4 _ L4)
  go_upto_region 6 with (go_at_call 62; refine (HS.out.2.2.2.1 _ L4).mono ?_; rintro e w5 ⟨rfl, L5⟩; obtain ⟨-, -, -, d4, -⟩ := HC.out w5 _ L5)
  go_upto_region 7 with (go_at_call 62; refine (HS.out.2.2.2.2 _ L5).mono ?_; rintro e w6 ⟨rfl, L6⟩)
  go_wp2_with (first | (go_at_call 59; refine (HN _ _ ⟨_, _, _, rfl⟩).mono ?_; rintro e w7 ⟨rfl, rfl⟩))
  go_end0
  refine ⟨rfl, ?_⟩
  have := L6.pre t0
  simpa [List.append_assoc] using this
end Go.Proofs.Ytpfjllkmaogafaa
