/- Walks: read where nothing was made; alive. -/
import Derived.Test.YtfjdojodbhmmaabW6
namespace Go.Proofs.Ytfjdojodbhmmaab
open Go.RowKit

theorem back_no {w w2 w' : World} {k a b : Int} (l : Turn no (Rw w k a b) w2) (l' : Turn (fun i => i = w.heap.size + 1) w2 w') : Turn no w w' :=
  ((Rw.turn w k a b).then_no l).trans l' (fun i hi q => by subst q; omega)

theorem read_unmade (w : World) (rv : Value) (k a b : Int) (h : Unmade w rv) :
    Calls Try.prog 7 #[rv, .agg #[.int .i64 k, .int .i64 a, .int .i64 b]] w fun e w' => ∃ ad c, e = .returned (.agg #[.int .u64 0, .slice ad 0 c]) ∧ Turn no w w' := by
  have hE := (h.turn_no (Rw.turn w k a b)).errs
  obtain ⟨pa, hpa⟩ := hE.ptr
  have hk : k % 9 = 0 ∨ k % 9 = 1 ∨ k % 9 = 2 ∨ k % 9 = 3 ∨ k % 9 = 4 ∨ k % 9 = 5 ∨ k % 9 = 6 ∨ k % 9 = 7 ∨ k % 9 = 8 := by omega
  have hS : ∀ i, no i → i < w.heap.size := fun _ q => q.elim
  rcases hk with hk | hk | hk | hk | hk | hk | hk | hk | hk
  · refine (read0 w rv pa hpa k a b no (fun _ => True) 0 (by omega) hS ((rbyte_err _ _ 1 hE rfl).mono (fun e w' q => ⟨q.1, trivial, q.2⟩)) hk).mono ?_
    rintro e w' ⟨rfl, w2, _, l, l'⟩
    exact ⟨_, _, rfl, back_no l l'⟩
  · refine (read1f w rv pa hpa k a b no (fun _ => True) hS ((rbool_err _ _ 1 hE rfl).mono (fun e w' q => ⟨q.1, trivial, q.2⟩)) hk).mono ?_
    rintro e w' ⟨rfl, w2, _, l, l'⟩
    exact ⟨_, _, rfl, back_no l l'⟩
  · refine (read2 w rv pa hpa k a b no (fun _ => True) 0 (by omega) hS ((ru32_err _ _ 1 hE rfl).mono (fun e w' q => ⟨q.1, trivial, q.2⟩)) hk).mono ?_
    rintro e w' ⟨rfl, w2, _, l, l'⟩
    exact ⟨_, _, rfl, back_no l l'⟩
  · refine (read3 w rv pa hpa k a b no (fun _ => True) 0 hS ((ru64_err _ _ 1 hE rfl).mono (fun e w' q => ⟨q.1, trivial, q.2⟩)) hk).mono ?_
    rintro e w' ⟨rfl, w2, _, l, l'⟩
    exact ⟨_, _, rfl, back_no l l'⟩
  · refine (read4 w rv pa hpa k a b no (fun _ => True) 0 hS ((rvar_err _ _ 1 hE rfl).mono (fun e w' q => ⟨q.1, trivial, q.2⟩)) hk).mono ?_
    rintro e w' ⟨rfl, w2, _, l, l'⟩
    exact ⟨_, _, rfl, back_no l l'⟩
  · refine (read5 w rv pa hpa k a b no (fun _ => True) none 0 0 hS ((rraw_err _ _ _ 1 hE rfl).mono (fun e w' q => ⟨q.1, trivial, q.2⟩)) hk).mono ?_
    rintro e w' ⟨rfl, w2, _, l, l'⟩
    exact ⟨_, _, rfl, back_no l l'⟩
  · refine (read6 w rv pa hpa k a b no (fun _ => True) none 0 0 hS ((rbytes_err _ _ _ 1 hE rfl).mono (fun e w' q => ⟨q.1, trivial, q.2⟩)) hk).mono ?_
    rintro e w' ⟨rfl, w2, _, l, l'⟩
    exact ⟨_, _, rfl, back_no l l'⟩
  · refine (read7 w rv pa hpa k a b no (fun _ => True) ByteArray.empty (Nat.zero_le _) hS ((rtext_err _ _ _ 1 hE rfl).mono (fun e w' q => ⟨q.1, trivial, q.2⟩)) hk).mono ?_
    rintro e w' ⟨v, g, rfl, w2, w3, _, l, l3, hb, _, _, l'⟩
    obtain ⟨ad, c, hv⟩ := hb.slice
    rw [hv]
    exact ⟨_, _, rfl, back_no (l.then_no l3) l'⟩
  · refine (read8 w rv pa hpa k a b no (fun _ => True) 0 (by omega) hS ((rcount_err _ _ _ _ 1 hE rfl).mono (fun e w' q => ⟨q.1, trivial, q.2⟩)) hk).mono ?_
    rintro e w' ⟨rfl, w2, _, l, l'⟩
    exact ⟨_, _, rfl, back_no l l'⟩

end Go.Proofs.Ytfjdojodbhmmaab
