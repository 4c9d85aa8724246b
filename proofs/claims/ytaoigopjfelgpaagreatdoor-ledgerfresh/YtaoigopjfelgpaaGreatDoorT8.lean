/- Prove of both, as one form: a witness in memory of its own. -/
import Derived.Test.YtaoigopjfelgpaaGreatDoorTa
import Derived.Test.YtaoigopjfelgpaaGreatDoorT7
import Derived.Test.YtaoigopjfelgpaaGreatDoorPb
namespace Go.Proofs.YtaoigopjfelgpaaGreatDoor
open Go.RowKit
set_option linter.unusedVariables false

theorem led_new {l : List Ac} (h : newE l = 0) : ledE 0 l [] (sumN 0 l []) = 0 := by
  obtain ⟨h1, h2⟩ := new_sum h
  have e := new_same l
  rw [h, ← h1] at e
  unfold soundE at e
  unfold ledE
  by_cases q : 65536 < l.length
  · rw [if_pos q] at e; cases e
  · rw [if_neg q] at e
    by_cases q2 : scanA 0 l ≠ 0
    · rw [if_pos q2] at e; exact absurd e q2
    · rw [if_neg (by simp; omega), if_neg q2, if_neg (by simp [scanR]), if_neg (by rw [← h1]; simp; omega)]
/-- A witness whose lists lie in memory that is new since B. -/
def WtO (w : World) (B : Nat) (V : Value) (l : List Ac) (x : Nat) (R : List UInt8) : Prop := ∃ (c : Nat) (v1 v2 : Value), V = .agg (wtL R v1 v2).toArray ∧ c ≤ l.length ∧ Parts l x c c ∧ An B w l (shN l x c) v1 ∧ (∃ xs, Qn B w l (shN l x c) v2 xs) ∧ PsOk l (shN l x c)
theorem WtO.turn {S : Nat → Prop} {w w' : World} {B : Nat} {V : Value} {l : List Ac} {x : Nat} {R : List UInt8} (h : WtO w B V l x R) (t : Turn S w w') (hS : ∀ k, B ≤ k → ¬ S k) : WtO w' B V l x R := by
  obtain ⟨c, v1, v2, e, h1, h2, h3, ⟨xs, h4⟩, h5⟩ := h
  exact ⟨c, v1, v2, e, h1, h2, h3.turn t hS, ⟨xs, h4.turn t hS⟩, h5⟩
theorem WtO.turn_no {w w' : World} {B : Nat} {V : Value} {l : List Ac} {x : Nat} {R : List UInt8} (h : WtO w B V l x R) (t : Turn no w w') : WtO w' B V l x R := h.turn t (fun _ _ q => q)
/-- What is shown of a ledger that New made. -/
def rootN (l : List Ac) : List UInt8 := hashOf (restB 0 (sumN 0 l []) [])
theorem prove12o (w : World) (hl : Laid1 w) (h2 : 2 ≤ w.heap.size) (va : Value) (l : List Ac) (ha : As w va l) (h0 : newE l = 0) (x : Nat) :
    Calls Tryz.prog 12 #[ldV va 0 (sumN 0 l []), .int .u64 x] w fun e w' => ∃ V, e = .returned (.tuple #[V, .int .i64 0]) ∧ WtO w' w.heap.size V l x (rootN l) ∧ Turn no w w' :=
  (prove12f w hl h2 va (.slice none 0 0) l [] ha (rs_nil w) 0 (sumN 0 l []) (by omega) (by have := (new_sum h0).2; omega) x (led_new h0) (led_asc (led_new h0)).1).mono (by
    rintro e w' ⟨c, v1, v2, rfl, h1, h3, h4, h5, h6, t⟩
    exact ⟨_, rfl, ⟨c, v1, v2, rfl, h1, h3, h4, h5, h6⟩, t⟩)
theorem rprove13o (w : World) (hl : Laid0 w) (h2 : 2 ≤ w.heap.size) (va : Value) (l : List Ac) (ha : As w va l) (h0 : newE l = 0) (x : Nat) :
    Calls Tryz.prog 13 #[ldV va 0 (sumN 0 l []), .int .u64 x] w fun e w' => ∃ V, e = .returned (.tuple #[V, .int .i64 0]) ∧ WtO w' w.heap.size V l x (rootN l) ∧ Turn no w w' :=
  (rprove13f w hl h2 va (.slice none 0 0) l [] ha (rs_nil w) 0 (sumN 0 l []) (by omega) (by have := (new_sum h0).2; omega) x (led_new h0)).mono (by
    rintro e w' ⟨c, v1, v2, rfl, h1, h3, h4, h5, h6, t⟩
    exact ⟨_, rfl, ⟨c, v1, v2, rfl, h1, h3, h4, h5, h6⟩, t⟩)
theorem same17o (W : World) (B B' : Nat) (V V' : Value) (l : List Ac) (x : Nat) (R : List UInt8) (hR : R.length = 32) (hok : ∀ m ∈ l, m.ok) (h : WtO W B V l x R) (h' : WtO W B' V' l x R) : Calls Tryz.prog 17 #[V, V'] W fun e w' => e = .returned (.bool true) ∧ Turn no W w' := by
  obtain ⟨c, v1, v2, rfl, h1, h2, h3, ⟨xs, h4⟩, h5⟩ := h
  obtain ⟨k, u1, u2, rfl, k1, k2, k3, ⟨ys, k4⟩, k5⟩ := h'
  have e := parts_one h2 k2 h1 k1
  subst e
  exact sameW11 W R hR v1 u1 v2 u2 _ _ (h3.as hok (fun q hq => (h5 q hq).1)) (k3.as hok (fun q hq => (h5 q hq).1)) (h4.qs (fun q hq => (h5 q hq).2)) (k4.qs (fun q hq => (h5 q hq).2))
end Go.Proofs.YtaoigopjfelgpaaGreatDoor
