/- Texts in one. -/
import Derived.Test.YtgimecdmleofeaaDoorT1
import Derived.Test.YtgimecdmleofeaaDoorV2
import Derived.Deep.RegionLaw
import Derived.Deep.CutRange
import Derived.Deep.QuietTactic
import Derived.BigQuiet
import Derived.Deep.MidRow
import Derived.Test.YtgimecdmleofeaaDoorU1
/- A writer, call behind call; layTx. -/
namespace Go.Proofs.YtgimecdmleofeaaDoor
open Go.RowKit
set_option linter.unusedVariables false

section
variable {w0 W W' : World} {p : Nat} {v v1 : Value} {bs bs' : List UInt8}
theorem Laid.trans {e e' : Int} (h : Wr W p v1 bs e) (t : Turn (wfoot p v) w0 W) (n : Near w0 v v1) (k : Laid W p v1 bs' e' W') : Laid w0 p v bs' e' W' := by
  obtain ⟨v2, k1, k2, k3⟩ := k
  exact ⟨v2, k1, near_turn t n k2, near_near t.size n k3⟩
theorem step62 (L : Laid w0 p v bs 0 W) (n : Nat) (hn : n < 18446744073709551616) (hle : bs.length + 10 ≤ 140737488355328) : Calls Tryd.prog 63 #[.pointer (some ⟨p, 0, none⟩), .int .u64 n] W fun e w' => e = .returned (.tuple #[]) ∧ Laid w0 p v (bs ++ varE n) 0 w' := by
  obtain ⟨v1, h, t, nr⟩ := L
  exact (var_made W p v1 bs n hn h hle).mono (fun e w' ⟨q1, q2⟩ => ⟨q1, Laid.trans h t nr q2⟩)
theorem step57 (L : Laid w0 p v bs 0 W) (n : Nat) (hn : n < 256) (hle : bs.length + 10 ≤ 140737488355328) : Calls Tryd.prog 51 #[.pointer (some ⟨p, 0, none⟩), .int .u8 n] W fun e w' => e = .returned (.tuple #[]) ∧ Laid w0 p v (bs ++ leB n 1) 0 w' := by
  obtain ⟨v1, h, t, nr⟩ := L
  exact (wbyte_made W p v1 bs h n hn hle).mono (fun e w' ⟨q1, q2⟩ => ⟨q1, Laid.trans h t nr q2⟩)
theorem step71 (L : Laid w0 p v bs 0 W) (x : Value) (B : List UInt8) (hx : Bs W x B) (hle : bs.length + B.length + 10 ≤ 140737488355328) : Calls Tryd.prog 56 #[.pointer (some ⟨p, 0, none⟩), x] W fun e w' => e = .returned (.tuple #[]) ∧ Laid w0 p v (bs ++ B) 0 w' := by
  obtain ⟨v1, h, t, nr⟩ := L
  exact (wraw_made W p v1 bs h x B hx hle).mono (fun e w' ⟨q1, q2⟩ => ⟨q1, Laid.trans h t nr q2⟩)
theorem step58 (L : Laid w0 p v bs 0 W) (x : ByteArray) (hle : bs.length + x.size + 10 ≤ 140737488355328) : Calls Tryd.prog 62 #[.pointer (some ⟨p, 0, none⟩), .string x] W fun e w' => e = .returned (.tuple #[]) ∧ Laid w0 p v (bs ++ (varE x.size ++ x.data.toList)) 0 w' := by
  obtain ⟨v1, h, t, nr⟩ := L
  exact (wtext_made W p v1 bs h x hle).mono (fun e w' ⟨q1, q2⟩ => ⟨q1, Laid.trans h t nr q2⟩)
theorem Laid.turn (L : Laid w0 p v bs 0 W) : Turn (wfoot p v) w0 W := by
  obtain ⟨v1, h, t, nr⟩ := L
  exact t
/-- A block that was there and is not the writer's. -/
theorem Laid.cell (L : Laid w0 p v bs 0 W) {b j : Nat} {u : Value} (hb : ¬ wfoot p v b) (h : w0.cell? ⟨b, j, none⟩ = some u) : W.cell? ⟨b, j, none⟩ = some u := L.turn.keep h hb
theorem Laid.pre {w : World} {e : Int} (h : Laid w0 p v bs e W) (t : Turn no w w0) : Laid w p v bs e W := by
  obtain ⟨v1, k1, k2, k3⟩ := h
  refine ⟨v1, k1, t.of_no.trans k2 (fun _ _ q => q), ?_⟩
  rcases k3 with q | ⟨g, q, hg⟩
  · exact .inl q
  · exact .inr ⟨g, q, Nat.le_trans t.size hg⟩
end
/-- What a transaction is without its seal. -/
def txB (x : Tx) : List UInt8 := leB x.k.toNat 1 ++ (varE x.fr ++ (varE x.to ++ (varE x.am ++ (varE x.fe ++ varE x.no))))
end Go.Proofs.YtgimecdmleofeaaDoor


/- What is signed of a transaction: the program. -/
namespace Go.Proofs.YtgimecdmleofeaaDoor
open Go.RowKit
set_option linter.unusedVariables false

def cB (ch : ByteArray) : Bool := decide ((1 : Int) ≤ (ch.size : Int)) && decide ((ch.size : Int) ≤ 16)
theorem chain109 (w : World) (ch : ByteArray) : Calls Tryd.prog 59 #[.string ch] w fun e w' => e = .returned (.bool (cB ch)) ∧ w = w' := by
  unfold cB
  by_cases h1 : (1 : Int) ≤ (ch.size : Int)
  · go_enter Tryd.func59, Tryd.ntmps59
    go_wp2_with fail
    go_ret
    exact ⟨by simp [h1], rfl⟩
  · go_enter Tryd.func59, Tryd.ntmps59
    go_wp2_with fail
    go_ret
    exact ⟨by simp; omega, rfl⟩
/-- A chain's name and a transaction. -/
def stC (ch : ByteArray) (x : Tx) : List Value := .string ch :: x.cs
def plainS (ch : ByteArray) (x : Tx) : Int := if cB ch then plainT x else 41
theorem stC_len {ch : ByteArray} {x : Tx} (h : x.ok) : (stC ch x).length = 23 := by simp [stC, x.len h]
/-- What is signed of it. -/
def stB (ch : ByteArray) (x : Tx) : List UInt8 := leB 84 1 ++ ((varE ch.size ++ ch.data.toList) ++ txB x)
end Go.Proofs.YtgimecdmleofeaaDoor


/- TxBytes of the program. -/
namespace Go.Proofs.YtgimecdmleofeaaDoor
open Go.RowKit
set_option linter.unusedVariables false

theorem plainT_kind {x : Tx} (h : plainT x = 0) : 1 ≤ x.k ∧ x.k ≤ 4 := by
  unfold plainT at h
  by_cases q : x.k < 1 ∨ 4 < x.k
  · rw [if_pos q] at h; cases h
  · omega
theorem plainS_zero {ch : ByteArray} {x : Tx} (h : plainS ch x = 0) : ch.size ≤ 16 ∧ 1 ≤ x.k ∧ x.k ≤ 4 := by
  unfold plainS at h
  cases hc : cB ch
  · rw [hc] at h; cases h
  · rw [hc] at h
    have := plainT_kind h
    unfold cB at hc
    simp at hc
    omega
/-- What a call that tells bytes or an error leaves. -/
def Told (w : World) (e0 : Int) (B : List UInt8) (e : Ending) (w' : World) : Prop := ∃ v', e = .returned (.tuple #[v', .int .i64 e0]) ∧ Own w' 5 v' (B.map bv) ∧ (∀ g, v'.ownBlock = some g → w.heap.size ≤ g) ∧ Turn no w w'
theorem Told.pre {w w0 w' : World} {e0 : Int} {B : List UInt8} {e : Ending} (h : Told w0 e0 B e w') (t : Turn no w w0) : Told w e0 B e w' := by
  obtain ⟨v', h1, h2, h3, h4⟩ := h
  exact ⟨v', h1, h2, fun g hg => Nat.le_trans t.size (h3 g hg), t.then_no h4⟩
def sB (ch : ByteArray) (x : Tx) : List UInt8 := if plainS ch x = 0 then stB ch x else []
end Go.Proofs.YtgimecdmleofeaaDoor


/- layVote. -/
namespace Go.Proofs.YtgimecdmleofeaaDoor
open Go.RowKit
set_option linter.unusedVariables false

/-- A vote whose numbers fit. -/
def Vt.fits (v : Vt) : Prop := v.ok ∧ (0 ≤ v.h ∧ v.h < 18446744073709551616) ∧ (0 ≤ v.t ∧ v.t < 18446744073709551616) ∧ (0 ≤ v.f ∧ v.f < 18446744073709551616)
/-- What a vote is without its seal. -/
def voB (x : Vt) : List UInt8 := leB x.k.toNat 1 ++ (varE x.h.toNat ++ (varE x.r.toNat ++ (x.id ++ (varE x.t.toNat ++ varE x.f.toNat))))
theorem bs_range {w : World} {b o : Nat} {X : List UInt8} (h : w.rangeAt b o (X.map bv)) (n : Nat) (hn : X.length = n) (hm : n ≤ 100) : Bs w (.slice (some ⟨b, o, none⟩) n n) X := by
  subst hn
  refine Or.inr ⟨⟨b, o, none⟩, X.length, rfl, Nat.le_refl _, by unfold maxLen; omega, fun j u hu => ?_⟩
  rw [Addr.add_lit]
  exact h j (bv u) (by rw [List.getElem?_map, hu]; rfl)
end Go.Proofs.YtgimecdmleofeaaDoor

