/- What is signed of a transaction: the program. -/
import Derived.Test.YtpfjllkmaogafaaT3
import Derived.Deep.MidRow
namespace Go.Proofs.Ytpfjllkmaogafaa
open Go.RowKit
set_option linter.unusedVariables false

def cB (ch : ByteArray) : Bool := decide ((1 : Int) ≤ (ch.size : Int)) && decide ((ch.size : Int) ≤ 16)
theorem chain109 (w : World) (ch : ByteArray) : Calls Try.prog 109 #[.string ch] w fun e w' => e = .returned (.bool (cB ch)) ∧ w = w' := by
  unfold cB
  by_cases h1 : (1 : Int) ≤ (ch.size : Int)
  · go_enter Try.func109, Try.ntmps109
    go_wp2_with fail
    go_ret
    exact ⟨by simp [h1], rfl⟩
  · go_enter Try.func109, Try.ntmps109
    go_wp2_with fail
    go_ret
    exact ⟨by simp; omega, rfl⟩
/-- A chain's name and a transaction. -/
def stC (ch : ByteArray) (x : Tx) : List Value := .string ch :: x.cs
def plainS (ch : ByteArray) (x : Tx) : Int := if cB ch then plainT x else 41
theorem size67 : (Try.prog.info? 67).map (·.size) = some 23 := by kernel_rfl
theorem Row.st {w : World} {g : Nat} {ch : ByteArray} {x : Tx} (r : Row w g (stC ch x).toArray 67) : w.cell? ⟨g, 0, none⟩ = some (.string ch) ∧ w.rangeAt g 1 x.cs ∧ w.rangeAt g 0 (stC ch x) := by
  have h0 : w.rangeAt g 0 (stC ch x) := fun j u hu => by rw [Nat.zero_add]; exact r.cell j u (by simpa using hu)
  exact ⟨h0 0 _ rfl, fun j u hu => by have := h0 (j + 1) u hu; rwa [Nat.zero_add, Nat.add_comm] at this, h0⟩
theorem stC_len {ch : ByteArray} {x : Tx} (h : x.ok) : (stC ch x).length = 23 := by simp [stC, x.len h]
set_option maxRecDepth 100000 in
set_option maxHeartbeats 2000000 in
theorem plainSt54 (w : World) (ch : ByteArray) (x : Tx) (ho : x.ok) : Calls Try.prog 54 #[.agg (stC ch x).toArray, .func (.func 27) #[] #[]] w fun e w' => e = .returned (.int .i64 (plainS ch x)) ∧ Turn no w w' := by
  obtain ⟨c0, cr, _⟩ := (Row.new w (stC ch x).toArray 67).st
  have hl : (Try.prog.info? 27).map (·.size) = some x.cs.length := by rw [x.len ho]; exact size27
  have P := fun W => plain27 W x
  have hC := chain109
  unfold plainS
  generalize x.cs = D at *
  generalize plainT x = pt at *
  generalize (stC ch x).toArray = C at *
  have t0 : Turn no w (w.alloc (.cells C 67)) := (Turn.refl no w).alloc _
  cases hc : cB ch
  · go_enter Try.func54, Try.ntmps54
    go_wp2_with (go_at_call 109; refine (hC _ _).mono ?_; rintro e w1 ⟨rfl, rfl⟩; rw [hc])
    go_ret
    exact ⟨rfl, t0⟩
  · go_enter Try.func54, Try.ntmps54
    go_wp2_with (first | (go_at_call 109; refine (hC _ _).mono ?_; rintro e w1 ⟨rfl, rfl⟩; rw [hc]) | (guard_target =~ wpList _ _ _ ({ dst := _, op := Op.load 27 _, .. } :: _) _ _; refine wpList_load_mid rfl 27 (.tmp 10) rfl w.heap.size 1 rfl D _ cr Try.underlying27 rfl hl ?_) | (go_at_call 27; refine (P _).mono ?_; rintro e w2 ⟨rfl, t2⟩))
    go_ret
    exact ⟨rfl, t0.then_no t2⟩
set_option maxRecDepth 100000 in
set_option maxHeartbeats 2000000 in
theorem clo53 (w : World) (ch : ByteArray) (x : Tx) (ho : x.ok) (b : Nat) (hb : w.cell? ⟨b, 0, none⟩ = some (.func (.func 27) #[] #[])) : Calls Try.prog 53 #[.agg (stC ch x).toArray, .pointer (some ⟨b, 0, none⟩)] w fun e w' => e = .returned (.int .i64 (plainS ch x)) ∧ Turn no w w' := by
  obtain ⟨_, _, cr⟩ := (Row.new w (stC ch x).toArray 67).st
  have hl : (Try.prog.info? 67).map (·.size) = some (stC ch x).length := by rw [stC_len ho]; exact size67
  have P := fun W => plainSt54 W ch x ho
  generalize plainS ch x = pt at *
  generalize stC ch x = D at *
  have t0 : Turn no w (w.alloc (.cells D.toArray 67)) := (Turn.refl no w).alloc _
  have hb' := t0.keep hb (fun q => q)
  go_enter Try.func53, Try.ntmps53
  go_wp2_with (first | (guard_target =~ wpList _ _ _ ({ dst := _, op := Op.load 67 _, .. } :: _) _ _; refine wpList_load_mid rfl 67 (.tmp 2) rfl w.heap.size 0 rfl D _ cr Try.underlying67 rfl hl ?_) | (go_at_call 54; refine (P _).mono ?_; rintro e w2 ⟨rfl, t2⟩))
  go_ret
  exact ⟨rfl, t0.then_no t2⟩
/-- What is signed of it. -/
def stB (ch : ByteArray) (x : Tx) : List UInt8 := leB 84 1 ++ ((varE ch.size ++ ch.data.toList) ++ txB x)
set_option maxRecDepth 100000 in
set_option maxHeartbeats 4000000 in
theorem clo56 (w : World) (p : Nat) (v : Value) (h : Wr w p v [] 0) (ch : ByteArray) (hch : ch.size ≤ 16) (x : Tx) (ho : x.ok) (hk1 : 1 ≤ x.k) (hk4 : x.k ≤ 4) (lb fb : Nat) (hl : w.cell? ⟨lb, 0, none⟩ = some (.int .u8 84)) (hf : w.cell? ⟨fb, 0, none⟩ = some (.func (.func 28) #[] #[])) (nl : ¬ wfoot p v lb) (nf : ¬ wfoot p v fb) :
    Calls Try.prog 56 #[.pointer (some ⟨p, 0, none⟩), .agg (stC ch x).toArray, .pointer (some ⟨lb, 0, none⟩), .pointer (some ⟨fb, 0, none⟩)] w fun e w' => e = .returned (.tuple #[]) ∧ Laid w p v (stB ch x) 0 w' := by
  obtain ⟨c0, cr, _⟩ := (Row.new w (stC ch x).toArray 67).st
  have hz : (Try.prog.info? 27).map (·.size) = some x.cs.length := by rw [x.len ho]; exact size27
  have t0 : Turn no w (w.alloc (.cells (stC ch x).toArray 67)) := (Turn.refl no w).alloc _
  have hb : ¬ wfoot p v w.heap.size := by
    rintro (q | q)
    · have := h.lt; omega
    · have := h.own.lt q; omega
  have L0 := Laid.refl (h.turn_no t0)
  have hl' := t0.keep hl (fun q => q)
  have hf' := t0.keep hf (fun q => q)
  have hBe : stB ch x = [] ++ leB 84 1 ++ (varE ch.size ++ ch.data.toList) ++ txB x := by simp [stB, List.append_assoc]
  rw [hBe]
  have hve := varE_le ch.size
  have hds : ch.data.toList.length = ch.size := by rw [Array.length_toList]; rfl
  have S1 : Calls Try.prog 57 #[.pointer (some ⟨p, 0, none⟩), .int .u8 84] _ _ := step57 L0 84 (by omega) (by simp)
  have S2 := fun W L => step58 (w0 := w.alloc (.cells (stC ch x).toArray 67)) (W := W) (p := p) (v := v) (bs := [] ++ leB 84 1) L ch (by simp [leB]; omega)
  have S3 : ∀ W, Laid (w.alloc (.cells (stC ch x).toArray 67)) p v ([] ++ leB 84 1 ++ (varE ch.size ++ ch.data.toList)) 0 W → Calls Try.prog 28 #[.pointer (some ⟨p, 0, none⟩), .agg x.cs.toArray, .func (.func 59) #[] #[]] W fun e w' => e = .returned (.tuple #[]) ∧ Laid (w.alloc (.cells (stC ch x).toArray 67)) p v ([] ++ leB 84 1 ++ (varE ch.size ++ ch.data.toList) ++ txB x) 0 w' := fun W L => by
    obtain ⟨v1, k1, k2, k3⟩ := L
    exact (layTx28 W p v1 _ k1 x ho hk1 hk4 (by simp [leB]; omega)).mono (fun e w' ⟨q1, q2⟩ => ⟨q1, Laid.trans k1 k2 k3 q2⟩)
  have HC := shutX (fun W B (L : Laid (w.alloc (.cells (stC ch x).toArray 67)) p v B 0 W) => And.intro (L.cell hb c0) (And.intro (L.cell nf hf') (fun j u hu => L.cell hb (cr j u hu) : W.rangeAt w.heap.size 1 x.cs)))
  have HS := shutX (And.intro S2 S3)
  clear S2 S3 hBe hve hds h c0 cr hl hf hf' L0
  generalize x.cs = D at *
  generalize (stC ch x).toArray = C at *
  go_enter Try.func56, Try.ntmps56
  go_upto_region 2 with (go_at_call 57; refine S1.mono ?_; rintro e w1 ⟨rfl, L1⟩; obtain ⟨d1, -, -⟩ := HC.out w1 _ L1; clear S1)
  go_upto_region 3 with (go_at_call 58; refine (HS.out.1 _ L1).mono ?_; rintro e w2 ⟨rfl, L2⟩; obtain ⟨-, d2, d3⟩ := HC.out w2 _ L2)
  go_wp2_with (first | (guard_target =~ wpList _ _ _ ({ dst := _, op := Op.load 27 _, .. } :: _) _ _; refine wpList_load_mid rfl 27 (.tmp 15) rfl w.heap.size 1 rfl D _ d3 Try.underlying27 rfl hz ?_) | (go_at_call 28; refine (HS.out.2 _ L2).mono ?_; rintro e w3 ⟨rfl, L3⟩))
  go_end0
  exact ⟨rfl, L3.pre t0⟩
end Go.Proofs.Ytpfjllkmaogafaa
