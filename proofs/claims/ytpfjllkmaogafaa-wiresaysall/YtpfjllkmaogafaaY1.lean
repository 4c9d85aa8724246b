/- The document's Read: New, take. -/
import Derived.Test.YtpfjllkmaogafaaX3
import Derived.Test.YtpfjllkmaogafaaX4
import Derived.Test.YtpfjllkmaogafaaW13
import Derived.Deep.RegionLaw
import Derived.Deep.CutRange
import Derived.Deep.QuietTactic
import Derived.BigQuiet
namespace Go.Proofs.Ytpfjllkmaogafaa
open Go.RowKit
set_option linter.unusedVariables false

/-- The document's Read at q. -/
structure Rq (w : World) (q : Nat) (v : Value) (bs : List UInt8) (i : Nat) (e : Int) : Prop where
  blk : w.heap[q]? = some (.cells #[v, .int .i64 i, .int .i64 e] 144 (0, 0))
  own : Own w 5 v (bs.map bv)
  le : i ≤ bs.length
  nn : ∃ g cap, v = .slice (some ⟨g, 0, none⟩) bs.length cap
section
variable {w w' : World} {q : Nat} {v : Value} {bs : List UInt8} {i : Nat} {e : Int}
theorem Rq.c0 (h : Rq w q v bs i e) : w.cell? ⟨q, 0, none⟩ = some v := by rw [cell_of_row w q 0 _ 144 (0, 0) h.blk]; rfl
theorem Rq.c1 (h : Rq w q v bs i e) : w.cell? ⟨q, 1, none⟩ = some (.int .i64 i) := by rw [cell_of_row w q 1 _ 144 (0, 0) h.blk]; rfl
theorem Rq.c2 (h : Rq w q v bs i e) : w.cell? ⟨q, 2, none⟩ = some (.int .i64 e) := by rw [cell_of_row w q 2 _ 144 (0, 0) h.blk]; rfl
theorem Rq.f (h : Rq w q v bs i e) (j : Nat) : w.frozen? ⟨q, j, none⟩ = false := frozen_of_row w q j _ 144 h.blk
theorem Rq.lt (h : Rq w q v bs i e) : q < w.heap.size := lt_of_obj h.blk
theorem Rq.ne (h : Rq w q v bs i e) : v.ownBlock ≠ some q := fun hg => by
  rcases h.own.shape with ⟨rfl, _⟩ | ⟨g, cap, cur, rfl, ho, _⟩
  · cases hg
  · simp [Value.ownBlock] at hg
    subst hg
    have := h.blk.symm.trans ho
    simp at this
theorem Rq.turn {S : Nat → Prop} (h : Rq w q v bs i e) (ht : Turn S w w') (hn : ∀ k, wfoot q v k → ¬ S k) : Rq w' q v bs i e :=
  ⟨ht.obj h.blk (hn q (.inl rfl)), h.own.turn ht (fun g hg => hn g (.inr hg)), h.le, h.nn⟩
theorem Rq.turn_no (h : Rq w q v bs i e) (ht : Turn no w w') : Rq w' q v bs i e := h.turn ht (fun _ _ q => q)
/-- Its place, its error set. -/
theorem Rq.at1 (h : Rq w q v bs i e) (i' : Nat) (hi : i' ≤ bs.length) : Rq (w.setCell ⟨q, 1, none⟩ (.int .i64 i')) q v bs i' e :=
  ⟨by have := heap_setCell_same w q 1 _ 144 (.int .i64 i') h.blk; simpa using this, h.own.turn ((Turn.refl (fun k => k = q) w).setCell (p := ⟨q, 1, none⟩) (fun _ => rfl) _) (fun g hg r => h.ne (by rw [hg, r])), hi, h.nn⟩
theorem Rq.at2 (h : Rq w q v bs i e) (e' : Int) : Rq (w.setCell ⟨q, 2, none⟩ (.int .i64 e')) q v bs i e' :=
  ⟨by have := heap_setCell_same w q 2 _ 144 (.int .i64 e') h.blk; simpa using this, h.own.turn ((Turn.refl (fun k => k = q) w).setCell (p := ⟨q, 2, none⟩) (fun _ => rfl) _) (fun g hg r => h.ne (by rw [hg, r])), h.le, h.nn⟩
theorem set_turn (w : World) (q j : Nat) (u : Value) : Turn (fun k => k = q) w (w.setCell ⟨q, j, none⟩ u) := (Turn.refl (fun k => k = q) w).setCell (p := ⟨q, j, none⟩) (fun _ => rfl) _
end
set_option maxRecDepth 100000 in
theorem take100_err (w : World) (q : Nat) (v : Value) (bs : List UInt8) (i : Nat) (e0 : Int) (h0 : (e0 != 0) = true) (h : Rq w q v bs i e0) (n : Int) :
    Calls Try.prog 125 #[.pointer (some ⟨q, 0, none⟩), .int .i64 n] w fun e w' => e = .returned (.tuple #[.slice none 0 0, .bool false]) ∧ w' = w := by
  have c2 := h.c2
  go_enter Try.func125, Try.ntmps125
  go_wp2_with fail
  go_ret2
  exact ⟨rfl, rfl⟩
set_option maxRecDepth 100000 in
set_option maxHeartbeats 2000000 in
theorem take100_cut (w : World) (q : Nat) (v : Value) (bs : List UInt8) (i : Nat) (h : Rq w q v bs i 0) (n : Nat) (hn : bs.length - i < n) (hle : bs.length ≤ 140737488355328) (hn63 : n ≤ 9223372036854775807) :
    Calls Try.prog 125 #[.pointer (some ⟨q, 0, none⟩), .int .i64 n] w fun e w' => e = .returned (.tuple #[.slice none 0 0, .bool false]) ∧ Rq w' q v bs i 10 ∧ Turn (fun k => k = q) w w' := by
  have c0 := h.c0
  have c1 := h.c1
  have c2 := h.c2
  have hile := h.le
  obtain ⟨a, cap, hv, _⟩ := h.own.len
  simp only [List.length_map] at hv
  obtain ⟨N, hN⟩ : ∃ N, bs.length = N := ⟨_, rfl⟩
  rw [hN] at hv hn hle hile
  have hgt : (N : Int) - (i : Int) < (n : Int) := by omega
  have hd : decide ((N : Int) - (i : Int) < (n : Int)) = true := by simpa using hgt
  have HR := shutX (fun W (t : Turn no w W) => And.intro ((h.turn_no t).at2 10) ((t.of_no (S := fun k => k = q)).trans (set_turn W q 2 (.int .i64 10)) (fun _ _ q => q)))
  have Hf := shutX (fun W (t : Turn no w W) => And.intro (h.turn_no t).c2 ((h.turn_no t).f 2))
  rw [hv] at c0
  clear h hN hv
  go_enter Try.func125, Try.ntmps125
  go_upto_region 3 with fail
  go_quiet (fail)
  obtain ⟨x2, f2⟩ := Hf.out (w.drewN nq) ((Turn.refl no w).drewN nq)
  go_wp2_with fail
  go_ret2
  exact ⟨rfl, HR.out _ ((Turn.refl no w).drewN nq)⟩
end Go.Proofs.Ytpfjllkmaogafaa

