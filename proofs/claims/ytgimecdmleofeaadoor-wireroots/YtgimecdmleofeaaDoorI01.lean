/- Texts in one. -/
import Derived.Test.YtgimecdmleofeaaDoorJz
import Derived.Test.YtgimecdmleofeaaDoorD7
import Derived.Test.YtgimecdmleofeaaDoorTk
/- What an id is. -/
namespace Go.Proofs.YtgimecdmleofeaaDoor
open Go.RowKit
set_option linter.unusedVariables false

/-- The digest of a text, or nothing, where an error is told. -/
def idH (pv : Int) (B : List UInt8) : List UInt8 := if pv = 0 then hashOf B else z32
theorem idH_len (pv : Int) (B : List UInt8) : (idH pv B).length = 32 := by
  unfold idH
  by_cases h : pv = 0
  · rw [if_pos h]; simp [hashOf]
  · rw [if_neg h]; rfl
end Go.Proofs.YtgimecdmleofeaaDoor

/- A transaction with its seal: layTx, laySealedTx, encode, idOf, TxId. -/
namespace Go.Proofs.YtgimecdmleofeaaDoor
open Go.RowKit
set_option linter.unusedVariables false

set_option maxRecDepth 100000 in
set_option maxHeartbeats 4000000 in
theorem layTx55 (w : World) (p : Nat) (v : Value) (bs : List UInt8) (h : Wr w p v bs 0) (x : Tx) (ho : x.ok) (hk1 : 1 ≤ x.k) (hk4 : x.k ≤ 4) (hle : bs.length + 1000 ≤ 140737488355328) :
    Calls Tryd.prog 55 #[.pointer (some ⟨p, 0, none⟩), .agg x.cs.toArray, .func (.func 56) #[.pointer (some ⟨p, 0, none⟩)] #[]] w fun e w' => e = .returned (.tuple #[]) ∧ Laid w p v (bs ++ (txB x ++ x.se)) 0 w' := by
  obtain ⟨c0, c1, c2, c3, c4, c5, cr⟩ := (Row.new w x.cs.toArray 27).tx
  simp only [Nat.zero_add] at c1 c2 c3 c4 c5
  have cse : (w.alloc (.cells x.cs.toArray 27)).rangeAt w.heap.size 6 (x.se.map bv) := fun j u hu => by
    have := cr (6 + j) u (by unfold Tx.cs; rw [show 6 + j = j + 1 + 1 + 1 + 1 + 1 + 1 by omega]; exact hu)
    simpa using this
  have t0 : Turn no w (w.alloc (.cells x.cs.toArray 27)) := (Turn.refl no w).alloc _
  have L0 := Laid.refl (h.turn_no t0)
  have hb : ¬ wfoot p v w.heap.size := by
    rintro (q | q)
    · have := h.lt; omega
    · have := h.own.lt q; omega
  obtain ⟨hs, b1, b2, b3, b4, b5⟩ := ho
  obtain ⟨k, hk⟩ : ∃ k : Nat, x.k = (k : Int) := ⟨x.k.toNat, by omega⟩
  have hB : txB x = leB k 1 ++ (varE x.fr ++ (varE x.to ++ (varE x.am ++ (varE x.fe ++ varE x.no)))) := by unfold txB; rw [hk, Int.toNat_natCast]
  rw [hB]
  rw [hk] at c0 hk1 hk4
  have l1 := leB_length k 1
  have l2 := varE_le x.fr
  have l3 := varE_le x.to
  have l4 := varE_le x.am
  have l5 := varE_le x.fe
  have l6 := varE_le x.no
  generalize x.fr = fr at *
  generalize x.to = tt at *
  generalize x.am = am at *
  generalize x.fe = fe at *
  generalize x.no = nn at *
  generalize x.se = E at *
  generalize x.cs.toArray = C at *
  have HC := shutX (fun W B (L : Laid (w.alloc (.cells C 27)) p v B 0 W) => And.intro (L.cell hb c1) (And.intro (L.cell hb c2) (And.intro (L.cell hb c3) (And.intro (L.cell hb c4) (And.intro (L.cell hb c5) (fun j u hu => L.cell hb (cse j u hu) : W.rangeAt w.heap.size 6 (E.map bv)))))))
  have hw8 : IntKind.u8.wrap (k : Int) = (k : Int) := by rw [IntKind.wrap_u8]; omega
  have S1 := step57 L0 k (by omega) (by omega)
  have S2 := fun W L => step62 (w0 := w.alloc (.cells C 27)) (W := W) (p := p) (v := v) (bs := bs ++ leB k 1) L fr b1 (by simp; omega)
  have S3 := fun W L => step62 (w0 := w.alloc (.cells C 27)) (W := W) (p := p) (v := v) (bs := bs ++ leB k 1 ++ varE fr) L tt b2 (by simp; omega)
  have S4 := fun W L => step62 (w0 := w.alloc (.cells C 27)) (W := W) (p := p) (v := v) (bs := bs ++ leB k 1 ++ varE fr ++ varE tt) L am b3 (by simp; omega)
  have S5 := fun W L => step62 (w0 := w.alloc (.cells C 27)) (W := W) (p := p) (v := v) (bs := bs ++ leB k 1 ++ varE fr ++ varE tt ++ varE am) L fe b4 (by simp; omega)
  have S6 := fun W L => step62 (w0 := w.alloc (.cells C 27)) (W := W) (p := p) (v := v) (bs := bs ++ leB k 1 ++ varE fr ++ varE tt ++ varE am ++ varE fe) L nn b5 (by simp; omega)
  have S7 := fun W L (hx : W.rangeAt w.heap.size 6 (E.map bv)) => step71 (w0 := w.alloc (.cells C 27)) (W := W) (p := p) (v := v) (bs := bs ++ leB k 1 ++ varE fr ++ varE tt ++ varE am ++ varE fe ++ varE nn) L (.slice (some ⟨w.heap.size, 6, none⟩) 16 16) E (bs_range hx 16 hs (by omega)) (by simp; omega)
  have HS := shutX (And.intro S2 (And.intro S3 (And.intro S4 (And.intro S5 (And.intro S6 S7)))))
  clear S2 S3 S4 S5 S6 S7 cse cr hs b1 b2 b3 b4 b5 l1 l2 l3 l4 l5 l6 hle hB c1 c2 c3 c4 c5 L0 h hk hk1 hk4
  go_enter Tryd.func55, Tryd.ntmps55
  go_upto_region 2 with (go_at_call 51; refine S1.mono ?_; rintro e w1 ⟨rfl, L1⟩; obtain ⟨d1, -, -, -, -, -⟩ := HC.out w1 _ L1; clear S1)
  go_upto_region 3 with (go_at_call 63; refine (HS.out.1 _ L1).mono ?_; rintro e w2 ⟨rfl, L2⟩; obtain ⟨-, d2, -, -, -, -⟩ := HC.out w2 _ L2)
  go_upto_region 4 with (go_at_call 63; refine (HS.out.2.1 _ L2).mono ?_; rintro e w3 ⟨rfl, L3⟩; obtain ⟨-, -, d3, -, -, -⟩ := HC.out w3 _ L3)
  go_upto_region 5 with (go_at_call 63; refine (HS.out.2.2.1 _ L3).mono ?_; rintro e w4 ⟨rfl, L4⟩; obtain ⟨-, -, -, d4, -, -⟩ := HC.out w4 _ L4)
  go_upto_region 6 with (go_at_call 63; refine (HS.out.2.2.2.1 _ L4).mono ?_; rintro e w5 ⟨rfl, L5⟩; obtain ⟨-, -, -, -, d5, -⟩ := HC.out w5 _ L5)
  go_upto_region 7 with (go_at_call 63; refine (HS.out.2.2.2.2.1 _ L5).mono ?_; rintro e w6 ⟨rfl, L6⟩)
  have S7 := HS.out.2.2.2.2.2 _ L6 (HC.out w6 _ L6).2.2.2.2.2
  go_wp2_with (first | (go_at_call 56; refine S7.mono ?_; rintro e w7 ⟨rfl, L7⟩))
  go_end0
  refine ⟨rfl, ?_⟩
  have := L7.pre t0
  simpa [List.append_assoc] using this
set_option maxRecDepth 100000 in
set_option maxHeartbeats 2000000 in
theorem laySealed21 (w : World) (p : Nat) (v : Value) (bs : List UInt8) (h : Wr w p v bs 0) (x : Tx) (ho : x.ok) (hk1 : 1 ≤ x.k) (hk4 : x.k ≤ 4) (hle : bs.length + 1000 ≤ 140737488355328) :
    Calls Tryd.prog 21 #[.pointer (some ⟨p, 0, none⟩), .agg x.cs.toArray] w fun e w' => e = .returned (.tuple #[]) ∧ Laid w p v (bs ++ (txB x ++ x.se)) 0 w' := by
  have cr := ((Row.new w x.cs.toArray 27).tx).all
  have hz : (Tryd.prog.info? 27).map (·.size) = some x.cs.length := by rw [x.len ho]; exact size27
  have t0 : Turn no w (w.alloc (.cells x.cs.toArray 27)) := (Turn.refl no w).alloc _
  have C := layTx55 _ p v bs (h.turn_no t0) x ho hk1 hk4 hle
  generalize bs ++ (txB x ++ x.se) = SB at *
  generalize x.cs = D at *
  go_enter Tryd.func21, Tryd.ntmps21
  go_wp2_with (first | (guard_target =~ wpList _ _ _ ({ dst := _, op := Op.load 27 _, .. } :: _) _ _; refine wpList_load_mid rfl 27 (.tmp 3) rfl w.heap.size 0 rfl D _ cr Tryd.underlying27 rfl hz ?_) | (go_at_call 55; refine C.mono ?_; rintro e w1 ⟨rfl, L1⟩))
  go_end0
  exact ⟨rfl, L1.pre t0⟩
end Go.Proofs.YtgimecdmleofeaaDoor
