/- layProposal. -/
import Derived.Test.YtpfjllkmaogafaaH1
namespace Go.Proofs.Ytpfjllkmaogafaa
open Go.RowKit
set_option linter.unusedVariables false

/-- What a proposal is without its seal. -/
def poB (x : Po) : List UInt8 := varE x.h ++ (varE x.r.toNat ++ (varE (x.vr + 1).toNat ++ (x.id ++ varE x.f)))
set_option maxRecDepth 100000 in
set_option maxHeartbeats 1000000 in
theorem layProp34 (w : World) (p : Nat) (v : Value) (bs : List UInt8) (h : Wr w p v bs 0) (x : Po) (ho : x.ok) (hr1 : 0 ≤ x.r) (hr2 : x.r ≤ 65535) (hv1 : -1 ≤ x.vr) (hv2 : x.vr < x.r) (hle : bs.length + 1000 ≤ 140737488355328) :
    Calls Try.prog 34 #[.pointer (some ⟨p, 0, none⟩), .agg x.cs.toArray, .func (.func 59) #[] #[]] w fun e w' => e = .returned (.tuple #[]) ∧ Laid w p v (bs ++ poB x) 0 w' := by
  obtain ⟨c0, c1, c2, c3, ci, _⟩ := (Row.new w x.cs.toArray 33).po ho
  have t0 : Turn no w (w.alloc (.cells x.cs.toArray 33)) := (Turn.refl no w).alloc _
  have L0 := Laid.refl (h.turn_no t0)
  have hb : ¬ wfoot p v w.heap.size := by
    rintro (q | q)
    · have := h.lt; omega
    · have := h.own.lt q; omega
  obtain ⟨nr, er⟩ : ∃ k : Nat, x.r = (k : Int) := ⟨x.r.toNat, by omega⟩
  obtain ⟨nv, ev⟩ : ∃ k : Nat, x.vr + 1 = (k : Int) := ⟨(x.vr + 1).toNat, by omega⟩
  have hB : poB x = varE x.h ++ (varE nr ++ (varE nv ++ (x.id ++ varE x.f))) := by unfold poB; rw [er, ev]; simp only [Int.toNat_natCast]
  rw [hB]
  rw [er] at c1 hr1 hr2 hv2
  obtain ⟨hil, _, bh, bf⟩ := ho
  have l1 := varE_le x.h
  have l2 := varE_le nr
  have l3 := varE_le nv
  generalize x.vr = vv at *
  generalize x.id = X at *
  generalize x.h = nh at *
  generalize x.f = nf at *
  generalize x.cs.toArray = C at *
  have HC := shutX (fun W B (L : Laid (w.alloc (.cells C 33)) p v B 0 W) => And.intro (L.cell hb c1) (And.intro (L.cell hb c2) (And.intro (L.cell hb c3) (fun j u hu => L.cell hb (ci j u hu) : W.rangeAt w.heap.size 3 (X.map bv)))))
  have hwr : IntKind.u64.wrap (nr : Int) = (nr : Int) := by rw [IntKind.wrap_u64]; omega
  have hwv : IntKind.u64.wrap (nv : Int) = (nv : Int) := by rw [IntKind.wrap_u64]; omega
  have hwi : IntKind.i64.wrap (vv + 1) = (nv : Int) := by rw [IntKind.wrap_i64]; omega
  have hwi2 : wrap64 (vv + 1) = (nv : Int) := by unfold wrap64; omega
  have S1 := step62 L0 nh bh (by omega)
  have S2 := fun W L => step62 (w0 := w.alloc (.cells C 33)) (W := W) (p := p) (v := v) (bs := bs ++ varE nh) L nr (by omega) (by simp; omega)
  have S3 := fun W L => step62 (w0 := w.alloc (.cells C 33)) (W := W) (p := p) (v := v) (bs := bs ++ varE nh ++ varE nr) L nv (by omega) (by simp; omega)
  have S4 := fun W L (hx : W.rangeAt w.heap.size 3 (X.map bv)) => step71 (w0 := w.alloc (.cells C 33)) (W := W) (p := p) (v := v) (bs := bs ++ varE nh ++ varE nr ++ varE nv) L (.slice (some ⟨w.heap.size, 3, none⟩) 32 32) X (bs_range hx 32 hil (by omega)) (by simp; omega)
  have S5 := fun W L => step62 (w0 := w.alloc (.cells C 33)) (W := W) (p := p) (v := v) (bs := bs ++ varE nh ++ varE nr ++ varE nv ++ X) L nf bf (by simp; omega)
  have HS := shutX (And.intro S2 (And.intro S3 (And.intro S4 S5)))
  have HN := layNone59
  clear S2 S3 S4 S5 bh bf l1 l2 l3 hle hB c1 c2 c3 ci L0 h hil hr1 hr2 hv1 hv2 er ev
  go_enter Try.func34, Try.ntmps34
  go_upto_region 2 with (go_at_call 62; refine S1.mono ?_; rintro e w1 ⟨rfl, L1⟩; obtain ⟨d1, -, -, -⟩ := HC.out w1 _ L1; clear S1)
  go_upto_region 3 with (go_at_call 62; refine (HS.out.1 _ L1).mono ?_; rintro e w2 ⟨rfl, L2⟩; obtain ⟨-, d2, -, -⟩ := HC.out w2 _ L2)
  go_upto_region 4 with (go_at_call 62; refine (HS.out.2.1 _ L2).mono ?_; rintro e w3 ⟨rfl, L3⟩)
  have S4 := HS.out.2.2.1 _ L3 (HC.out w3 _ L3).2.2.2
  go_upto_region 5 with (go_at_call 71; refine S4.mono ?_; rintro e w4 ⟨rfl, L4⟩; obtain ⟨-, -, d3, -⟩ := HC.out w4 _ L4)
  go_upto_region 6 with (go_at_call 62; refine (HS.out.2.2.2 _ L4).mono ?_; rintro e w5 ⟨rfl, L5⟩)
  go_wp2_with (first | (go_at_call 59; refine (HN _ _ ⟨_, _, _, rfl⟩).mono ?_; rintro e w7 ⟨rfl, rfl⟩))
  go_end0
  refine ⟨rfl, ?_⟩
  have := L5.pre t0
  simpa [List.append_assoc] using this
end Go.Proofs.Ytpfjllkmaogafaa
