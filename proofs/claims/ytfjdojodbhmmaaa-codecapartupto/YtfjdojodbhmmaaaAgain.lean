/- Walks: again; lay, whatever the Writer's error. -/
import Derived.Test.YtfjdojodbhmmaaaV3
import Derived.Deep.RegionHeld3
namespace Go.Proofs.Ytfjdojodbhmmaaa
open Go.RowKit
set_option linter.unusedVariables false

theorem kind_eq (w : World) (k : Int) : Calls Try.prog 9 #[.int .i64 k] w fun e w' => e = .returned (.int .i64 (k % 9)) ∧ w' = w :=
  (kind_any w k).mono (fun _ _ q => ⟨q.1, q.2.symm⟩)

set_option maxRecDepth 100000 in
set_option maxHeartbeats 2000000 in
theorem again_any (w : World) (k a b : Int) (n : Nat) (ad : Option Addr) (ln c : Nat) :
    Calls Try.prog 28 #[.agg #[.int .i64 k, .int .i64 a, .int .i64 b], .agg #[.int .u64 n, .slice ad ln c]] w fun e w' => e = .returned (.agg #[.int .i64 (k % 9), .int .u64 n, .slice ad ln c]) ∧ Turn no w w' := by
  go_enter Try.func28, Try.ntmps28
  go_wp2_with fail
  go_region_held3 (fun w' => w'.cell? ⟨w.heap.size, 0, none⟩ = some (.int .i64 k) ∧ w'.cell? ⟨w.heap.size + 1, 0, none⟩ = some (.int .u64 n) ∧ w'.cell? ⟨w.heap.size + 1, 1, none⟩ = some (.slice ad ln c)) (go_keep)
    (first | (go_at_call 9; refine (kind_eq _ k).mono ?_; rintro e w' ⟨rfl, rfl⟩))
  go_wp2_with fail
  exact bodyPost_ret (v := .agg #[.int .i64 (k % 9), .int .u64 n, .slice ad ln c]) (by simp [results, Try.results28, go_sem]) rfl ⟨rfl, by first | exact ((((Turn.refl no w).alloc _).alloc _).alloc _).drew | exact (((Turn.refl no w).alloc _).alloc _).alloc _⟩

theorem lay_any (w : World) (p : Nat) (v : Value) (bs : List UInt8) (e : Int) (k : Int) (n : Nat) (hn : n < 18446744073709551616) (vb : Value) (B : List UInt8) (h : Wr w p v bs e) (hb : Bs w vb B) (hnb : B ≠ [] → ∀ g, vb.ownBlock = some g → ¬ wfoot p v g) (hle : bs.length + B.length + 20 ≤ 140737488355328) :
    Calls Try.prog 22 #[.pointer (some ⟨p, 0, none⟩), .agg #[.int .i64 k, .int .u64 n, vb]] w fun e' w' => e' = .returned (.bool true) ∧ Laid w p v (wput bs e k n B).1 (wput bs e k n B).2 w' := by
  unfold wput
  by_cases he : e = 0
  · subst he
    rw [if_pos rfl]
    exact lay_made w p v bs k n hn vb B h hb hnb hle
  · rw [if_neg he]
    refine (lay_err w _ k n e vb B h.fault (by simpa using he) hb (by omega)).mono ?_
    rintro e' w' ⟨rfl, t⟩
    exact ⟨rfl, v, h.turn_no t, t.of_no, Or.inl rfl⟩
end Go.Proofs.Ytfjdojodbhmmaaa
