/- Walks: read where nothing was made; alive. -/
import Derived.Test.YtfjdojodbhmmaaaW6
namespace Go.Proofs.Ytfjdojodbhmmaaa
open Go.RowKit

theorem back_no {w w2 w' : World} {k a b : Int} (l : Turn no (Rw w k a b) w2) (l' : Turn (fun i => i = w.heap.size + 1) w2 w') : Turn no w w' :=
  ((Rw.turn w k a b).then_no l).trans l' (fun i hi q => by subst q; omega)

theorem read_unmade (w : World) (rv : Value) (k a b : Int) (h : Unmade w rv) :
    Calls Try.prog 20 #[rv, .agg #[.int .i64 k, .int .i64 a, .int .i64 b]] w fun e w' => ∃ ad c, e = .returned (.agg #[.int .u64 0, .slice ad 0 c]) ∧ Turn no w w' := by
  have hE := (h.turn_no (Rw.turn w k a b)).errs
  obtain ⟨pa, hpa⟩ := hE.ptr
  have hk : k % 9 = 0 ∨ k % 9 = 1 ∨ k % 9 = 2 ∨ k % 9 = 3 ∨ k % 9 = 4 ∨ k % 9 = 5 ∨ k % 9 = 6 ∨ k % 9 = 7 ∨ k % 9 = 8 := by omega
  have hS : ∀ i, no i → i < w.heap.size := fun _ q => q.elim
  rcases hk with hk | hk | hk | hk | hk | hk | hk | hk | hk
  · refine (read0 w rv pa hpa k a b no (fun _ => True) 0 (by omega) hS ((rbyte_err _ _ 1 hE rfl).mono (fun e w' q => ⟨q.1, trivial, q.2⟩)) hk).mono ?_
    rintro e w' ⟨rfl, w2, _, l, l'⟩
    exact ⟨_, _, rfl, back_no l l'⟩
  · refine (read1f w rv pa hpa k a b no (fun _ => True) hS ((rbool_err _ _ 1 hE rfl).mono (fun e w' q => ⟨q.1, trivial, q.2⟩)) hk).mono ?_
    rintro e w' ⟨rfl, w2, _, l, l'⟩
    exact ⟨_, _, rfl, back_no l l'⟩
  · refine (read2 w rv pa hpa k a b no (fun _ => True) 0 (by omega) hS ((ru32_err _ _ 1 hE rfl).mono (fun e w' q => ⟨q.1, trivial, q.2⟩)) hk).mono ?_
    rintro e w' ⟨rfl, w2, _, l, l'⟩
    exact ⟨_, _, rfl, back_no l l'⟩
  · refine (read3 w rv pa hpa k a b no (fun _ => True) 0 hS ((ru64_err _ _ 1 hE rfl).mono (fun e w' q => ⟨q.1, trivial, q.2⟩)) hk).mono ?_
    rintro e w' ⟨rfl, w2, _, l, l'⟩
    exact ⟨_, _, rfl, back_no l l'⟩
  · refine (read4 w rv pa hpa k a b no (fun _ => True) 0 hS ((rvar_err _ _ 1 hE rfl).mono (fun e w' q => ⟨q.1, trivial, q.2⟩)) hk).mono ?_
    rintro e w' ⟨rfl, w2, _, l, l'⟩
    exact ⟨_, _, rfl, back_no l l'⟩
  · refine (read5 w rv pa hpa k a b no (fun _ => True) none 0 0 hS ((rraw_err _ _ _ 1 hE rfl).mono (fun e w' q => ⟨q.1, trivial, q.2⟩)) hk).mono ?_
    rintro e w' ⟨rfl, w2, _, l, l'⟩
    exact ⟨_, _, rfl, back_no l l'⟩
  · refine (read6 w rv pa hpa k a b no (fun _ => True) none 0 0 hS ((rbytes_err _ _ _ 1 hE rfl).mono (fun e w' q => ⟨q.1, trivial, q.2⟩)) hk).mono ?_
    rintro e w' ⟨rfl, w2, _, l, l'⟩
    exact ⟨_, _, rfl, back_no l l'⟩
  · refine (read7 w rv pa hpa k a b no (fun _ => True) ByteArray.empty (Nat.zero_le _) hS ((rtext_err _ _ _ 1 hE rfl).mono (fun e w' q => ⟨q.1, trivial, q.2⟩)) hk).mono ?_
    rintro e w' ⟨v, g, rfl, w2, w3, _, l, l3, hb, _, _, l'⟩
    obtain ⟨ad, c, hv⟩ := hb.slice
    rw [hv]
    exact ⟨_, _, rfl, back_no (l.then_no l3) l'⟩
  · refine (read8 w rv pa hpa k a b no (fun _ => True) 0 (by omega) hS ((rcount_err _ _ _ _ 1 hE rfl).mono (fun e w' q => ⟨q.1, trivial, q.2⟩)) hk).mono ?_
    rintro e w' ⟨rfl, w2, _, l, l'⟩
    exact ⟨_, _, rfl, back_no l l'⟩

theorem own2 {w : World} {v : Value} (h : Own w 5 v (List.map bv [172, 2])) : ∃ g cap, v = .slice (some ⟨g, 0, none⟩) 2 cap ∧ w.cell? ⟨g, 0, none⟩ = some (.int .u8 172) ∧ w.cell? ⟨g, 1, none⟩ = some (.int .u8 2) := by
  rcases h.shape with ⟨_, q⟩ | ⟨g, cap, cur, rfl, _⟩
  · cases q
  · exact ⟨g, cap, rfl, h.cell 0 _ rfl, h.cell 1 _ rfl⟩

theorem varE_300 : varE 300 = [172, 2] := by decide
theorem rvar_300 : rvar [172, 2] 0 = (300, 2, 0) := by decide

set_option maxRecDepth 100000 in
set_option maxHeartbeats 2000000 in
theorem alive_any (w : World) : Calls Try.prog 26 #[] w fun e w' => e = .returned (.bool true) ∧ Turn no w w' := by
  go_enter Try.func26, Try.ntmps26
  go_wp2_with (go_at_call 21; refine (newWriter_any _).mono ?_; rintro e w1 ⟨rfl, h1, t1⟩)
  go_wp2_with (go_at_call 52; refine (var_made _ _ _ [] 300 (by omega) h1 (by simp)).mono ?_; rintro e w2 ⟨rfl, v2, h2, t2, n2⟩)
  rw [varE_300] at h2
  have T2 : Turn no w w2 := t1.trans t2 (fun i hi q => by
    exfalso
    rcases q with q | q
    · omega
    · cases q)
  clear t1 t2 h1
  go_wp2_with (go_at_call 27; refine (out_made _ _ _ [172, 2] h2 (by simp)).mono ?_; rintro e w3 ⟨v3, rfl, h3, f3, t3⟩; obtain ⟨g, cap, rfl, c0, c1⟩ := own2 h3)
  have T3 := T2.then_no t3
  go_wp2_with (first | (go_at_call 15; refine (num_any _ _).mono ?_; rintro e w' ⟨rfl, rfl⟩) | (go_at_call 14; refine (newReader_any _ _ [172, 2] h3.bs (by simp)).mono ?_; rintro e w4 ⟨p4, v4, rfl, h4, f4, t4⟩))
  clear h3 h2
  have hs4 := T3.size
  go_wp2_with (go_at_call 43; refine (rvar_made _ _ _ [172, 2] 0 (by simp) h4).mono ?_; rintro e w5 ⟨rfl, h5, t5⟩; rw [rvar_300] at h5 ⊢)
  have T5 : Turn no w w5 := (T3.then_no t4).trans t5 (fun i hi q => by
    exfalso
    have := f4 i (Or.inl q)
    omega)
  have hE := h5.errs
  clear t5 t4 T3 t3 T2
  go_wp2_with (first | (go_at_call 15; refine (num_any _ _).mono ?_; rintro e w' ⟨rfl, rfl⟩) | (go_at_call 16; refine (err_any _ _ 0 hE).mono ?_; rintro e w' ⟨rfl, rfl⟩) | (go_at_call 18; refine (end_made _ _ _ [172, 2] 2 h5).mono ?_; rintro e w' ⟨rfl, n, rfl⟩))
  go_ret
  exact ⟨rfl, T5.drewN _⟩
end Go.Proofs.Ytfjdojodbhmmaaa
