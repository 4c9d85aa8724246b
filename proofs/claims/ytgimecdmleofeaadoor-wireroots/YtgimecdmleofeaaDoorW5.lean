/- Walks: a Writer with an error; kind; lay and read where nothing was made; alive. -/
import Derived.Test.YtgimecdmleofeaaDoorW4
namespace Go.Proofs.YtgimecdmleofeaaDoor
open Go.RowKit

theorem Fault.ptr {w : World} {v : Value} {e : Int} (h : Fault w v e) : ∃ a, v = .pointer a := by rcases h with ⟨rfl, _⟩ | ⟨p, rfl, _⟩ | ⟨p, rfl, _⟩ <;> exact ⟨_, rfl⟩
theorem Fault.turn {S : Nat → Prop} {w w' : World} {v : Value} {e : Int} (h : Fault w v e) (ht : Turn S w w') (hn : ∀ p, v = .pointer (some ⟨p, 0, none⟩) → ¬ S p) : Fault w' v e := by
  rcases h with q | ⟨p, rfl, h0, q⟩ | ⟨p, rfl, h0, h1⟩
  · exact Or.inl q
  · exact Or.inr (Or.inl ⟨p, rfl, ht.keep h0 (hn p rfl), q⟩)
  · exact Or.inr (Or.inr ⟨p, rfl, ht.keep h0 (hn p rfl), ht.keep h1 (hn p rfl)⟩)

set_option maxRecDepth 100000 in
set_option maxHeartbeats 1000000 in
theorem wfixed_err (w : World) (v : Value) (n k : Int) (e0 : Int) (h : Fault w v e0) (h0 : (e0 != 0) = true) :
    Calls Tryd.prog 92 #[v, .int .u64 n, .int .i64 k] w fun e w' => e = .returned (.tuple #[]) ∧ w = w' := by
  have h1 : (e0 == 0) = false := by simpa using h0
  obtain ⟨a, rfl⟩ := h.ptr
  go_enter Tryd.func92, Tryd.ntmps92
  go_wp2_with (first | (go_at_call 96; refine (fault_any _ _ _ h).mono ?_; rintro e w' ⟨rfl, rfl⟩) | go_in)
  first | go_end0 | (simp only [Exit.inBlock, Exit.then]; refine bodyPost_ret (results_none rfl _ _ _) rfl ?_) | refine bodyPost_ret (results_none rfl _ _ _) rfl ?_
  exact ⟨rfl, rfl⟩

set_option maxRecDepth 100000 in
set_option maxHeartbeats 1000000 in
theorem wvar_err (w : World) (v : Value) (n : Int) (e0 : Int) (h : Fault w v e0) (h0 : (e0 != 0) = true) :
    Calls Tryd.prog 63 #[v, .int .u64 n] w fun e w' => e = .returned (.tuple #[]) ∧ w = w' := by
  have h1 : (e0 == 0) = false := by simpa using h0
  obtain ⟨a, rfl⟩ := h.ptr
  go_enter Tryd.func63, Tryd.ntmps63
  go_wp2_with (first | (go_at_call 96; refine (fault_any _ _ _ h).mono ?_; rintro e w' ⟨rfl, rfl⟩) | go_in)
  first | go_end0 | (simp only [Exit.inBlock, Exit.then]; refine bodyPost_ret (results_none rfl _ _ _) rfl ?_) | refine bodyPost_ret (results_none rfl _ _ _) rfl ?_
  exact ⟨rfl, rfl⟩

set_option maxRecDepth 100000 in
set_option maxHeartbeats 1000000 in
theorem wlay_err (w : World) (v : Value) (x : Value) (e0 : Int) (h : Fault w v e0) (h0 : (e0 != 0) = true) :
    Calls Tryd.prog 94 #[v, x] w fun e w' => e = .returned (.tuple #[]) ∧ w = w' := by
  have h1 : (e0 == 0) = false := by simpa using h0
  obtain ⟨a, rfl⟩ := h.ptr
  go_enter Tryd.func94, Tryd.ntmps94
  go_wp2_with (first | (go_at_call 96; refine (fault_any _ _ _ h).mono ?_; rintro e w' ⟨rfl, rfl⟩) | go_in)
  first | go_end0 | (simp only [Exit.inBlock, Exit.then]; refine bodyPost_ret (results_none rfl _ _ _) rfl ?_) | refine bodyPost_ret (results_none rfl _ _ _) rfl ?_
  exact ⟨rfl, rfl⟩

set_option maxRecDepth 100000 in
set_option maxHeartbeats 1000000 in
theorem wlays_err (w : World) (v : Value) (x : Value) (e0 : Int) (h : Fault w v e0) (h0 : (e0 != 0) = true) :
    Calls Tryd.prog 114 #[v, x] w fun e w' => e = .returned (.tuple #[]) ∧ w = w' := by
  have h1 : (e0 == 0) = false := by simpa using h0
  obtain ⟨a, rfl⟩ := h.ptr
  go_enter Tryd.func114, Tryd.ntmps114
  go_wp2_with (first | (go_at_call 96; refine (fault_any _ _ _ h).mono ?_; rintro e w' ⟨rfl, rfl⟩) | go_in)
  first | go_end0 | (simp only [Exit.inBlock, Exit.then]; refine bodyPost_ret (results_none rfl _ _ _) rfl ?_) | refine bodyPost_ret (results_none rfl _ _ _) rfl ?_
  exact ⟨rfl, rfl⟩

set_option maxRecDepth 100000 in
set_option maxHeartbeats 1000000 in
theorem wbyte_err (w : World) (v : Value) (n : Int) (e0 : Int) (h : Fault w v e0) (h0 : (e0 != 0) = true) :
    Calls Tryd.prog 51 #[v, .int .u8 n] w fun e w' => e = .returned (.tuple #[]) ∧ w = w' := by
  go_enter Tryd.func51, Tryd.ntmps51
  go_wp2_with (first | (go_at_call 92; refine (wfixed_err _ _ _ _ e0 h h0).mono ?_; rintro e w' ⟨rfl, rfl⟩) )
  all_goals
    first | go_end0 | (simp only [Exit.inBlock, Exit.then]; refine bodyPost_ret (results_none rfl _ _ _) rfl ?_) | refine bodyPost_ret (results_none rfl _ _ _) rfl ?_
    exact ⟨rfl, rfl⟩

set_option maxRecDepth 100000 in
set_option maxHeartbeats 1000000 in
theorem wraw_err (w : World) (v : Value) (x : Value) (e0 : Int) (h : Fault w v e0) (h0 : (e0 != 0) = true) :
    Calls Tryd.prog 56 #[v, x] w fun e w' => e = .returned (.tuple #[]) ∧ w = w' := by
  go_enter Tryd.func56, Tryd.ntmps56
  go_wp2_with (first | (go_at_call 94; refine (wlay_err _ _ _ e0 h h0).mono ?_; rintro e w' ⟨rfl, rfl⟩) )
  all_goals
    first | go_end0 | (simp only [Exit.inBlock, Exit.then]; refine bodyPost_ret (results_none rfl _ _ _) rfl ?_) | refine bodyPost_ret (results_none rfl _ _ _) rfl ?_
    exact ⟨rfl, rfl⟩

set_option maxRecDepth 100000 in
set_option maxHeartbeats 1000000 in
theorem wcounteds_err (w : World) (v : Value) (x : ByteArray) (e0 : Int) (h : Fault w v e0) (h0 : (e0 != 0) = true) :
    Calls Tryd.prog 95 #[v, .string x] w fun e w' => e = .returned (.tuple #[]) ∧ w = w' := by
  go_enter Tryd.func95, Tryd.ntmps95
  go_wp2_with (first | (go_at_call 63; refine (wvar_err _ _ _ e0 h h0).mono ?_; rintro e w' ⟨rfl, rfl⟩) | (go_at_call 114; refine (wlays_err _ _ _ e0 h h0).mono ?_; rintro e w' ⟨rfl, rfl⟩) )
  all_goals
    first | go_end0 | (simp only [Exit.inBlock, Exit.then]; refine bodyPost_ret (results_none rfl _ _ _) rfl ?_) | refine bodyPost_ret (results_none rfl _ _ _) rfl ?_
    exact ⟨rfl, rfl⟩

set_option maxRecDepth 100000 in
set_option maxHeartbeats 1000000 in
theorem wtext_err (w : World) (v : Value) (x : ByteArray) (e0 : Int) (h : Fault w v e0) (h0 : (e0 != 0) = true) :
    Calls Tryd.prog 62 #[v, .string x] w fun e w' => e = .returned (.tuple #[]) ∧ w = w' := by
  go_enter Tryd.func62, Tryd.ntmps62
  go_wp2_with (first | (go_at_call 95; refine (wcounteds_err _ _ _ e0 h h0).mono ?_; rintro e w' ⟨rfl, rfl⟩) )
  all_goals
    first | go_end0 | (simp only [Exit.inBlock, Exit.then]; refine bodyPost_ret (results_none rfl _ _ _) rfl ?_) | refine bodyPost_ret (results_none rfl _ _ _) rfl ?_
    exact ⟨rfl, rfl⟩

theorem tmod9 (k : Int) : (if k.tmod 9 < 0 then k.tmod 9 + 9 else k.tmod 9) = k % 9 ∧ -9 < k.tmod 9 ∧ k.tmod 9 < 9 := by
  have h1 := Int.tmod_add_mul_tdiv k 9
  have h2 : k.tmod 9 < 9 := Int.tmod_lt_of_pos k (by omega)
  have h3 : -9 < k.tmod 9 := Int.lt_tmod_of_pos k (by omega)
  refine ⟨?_, h3, h2⟩
  generalize k.tmod 9 = t at *
  generalize k.tdiv 9 = d at *
  split <;> omega

end Go.Proofs.YtgimecdmleofeaaDoor


