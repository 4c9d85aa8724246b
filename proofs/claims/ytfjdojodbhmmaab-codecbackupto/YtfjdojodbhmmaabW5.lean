/- Walks: a Writer with an error; kind; lay and read where nothing was made; alive. -/
import Derived.Test.YtfjdojodbhmmaabW4
namespace Go.Proofs.Ytfjdojodbhmmaab
open Go.RowKit

theorem Fault.ptr {w : World} {v : Value} {e : Int} (h : Fault w v e) : ∃ a, v = .pointer a := by rcases h with ⟨rfl, _⟩ | ⟨p, rfl, _⟩ | ⟨p, rfl, _⟩ <;> exact ⟨_, rfl⟩
theorem Fault.turn {S : Nat → Prop} {w w' : World} {v : Value} {e : Int} (h : Fault w v e) (ht : Turn S w w') (hn : ∀ p, v = .pointer (some ⟨p, 0, none⟩) → ¬ S p) : Fault w' v e := by
  rcases h with q | ⟨p, rfl, h0, q⟩ | ⟨p, rfl, h0, h1⟩
  · exact Or.inl q
  · exact Or.inr (Or.inl ⟨p, rfl, ht.keep h0 (hn p rfl), q⟩)
  · exact Or.inr (Or.inr ⟨p, rfl, ht.keep h0 (hn p rfl), ht.keep h1 (hn p rfl)⟩)

set_option maxRecDepth 100000 in
set_option maxHeartbeats 1000000 in
theorem wfixed_err (w : World) (v : Value) (n k : Int) (e0 : Int) (h : Fault w v e0) (h0 : (e0 != 0) = true) :
    Calls Try.prog 60 #[v, .int .u64 n, .int .i64 k] w fun e w' => e = .returned (.tuple #[]) ∧ w = w' := by
  have h1 : (e0 == 0) = false := by simpa using h0
  obtain ⟨a, rfl⟩ := h.ptr
  go_enter Try.func60, Try.ntmps60
  go_wp2_with (first | (go_at_call 42; refine (fault_any _ _ _ h).mono ?_; rintro e w' ⟨rfl, rfl⟩) | go_in)
  first | go_end0 | (simp only [Exit.inBlock, Exit.then]; refine bodyPost_ret (results_none rfl _ _ _) rfl ?_) | refine bodyPost_ret (results_none rfl _ _ _) rfl ?_
  exact ⟨rfl, rfl⟩

set_option maxRecDepth 100000 in
set_option maxHeartbeats 1000000 in
theorem wvar_err (w : World) (v : Value) (n : Int) (e0 : Int) (h : Fault w v e0) (h0 : (e0 != 0) = true) :
    Calls Try.prog 35 #[v, .int .u64 n] w fun e w' => e = .returned (.tuple #[]) ∧ w = w' := by
  have h1 : (e0 == 0) = false := by simpa using h0
  obtain ⟨a, rfl⟩ := h.ptr
  go_enter Try.func35, Try.ntmps35
  go_wp2_with (first | (go_at_call 42; refine (fault_any _ _ _ h).mono ?_; rintro e w' ⟨rfl, rfl⟩) | go_in)
  first | go_end0 | (simp only [Exit.inBlock, Exit.then]; refine bodyPost_ret (results_none rfl _ _ _) rfl ?_) | refine bodyPost_ret (results_none rfl _ _ _) rfl ?_
  exact ⟨rfl, rfl⟩

set_option maxRecDepth 100000 in
set_option maxHeartbeats 1000000 in
theorem wlay_err (w : World) (v : Value) (x : Value) (e0 : Int) (h : Fault w v e0) (h0 : (e0 != 0) = true) :
    Calls Try.prog 61 #[v, x] w fun e w' => e = .returned (.tuple #[]) ∧ w = w' := by
  have h1 : (e0 == 0) = false := by simpa using h0
  obtain ⟨a, rfl⟩ := h.ptr
  go_enter Try.func61, Try.ntmps61
  go_wp2_with (first | (go_at_call 42; refine (fault_any _ _ _ h).mono ?_; rintro e w' ⟨rfl, rfl⟩) | go_in)
  first | go_end0 | (simp only [Exit.inBlock, Exit.then]; refine bodyPost_ret (results_none rfl _ _ _) rfl ?_) | refine bodyPost_ret (results_none rfl _ _ _) rfl ?_
  exact ⟨rfl, rfl⟩

set_option maxRecDepth 100000 in
set_option maxHeartbeats 1000000 in
theorem wlays_err (w : World) (v : Value) (x : Value) (e0 : Int) (h : Fault w v e0) (h0 : (e0 != 0) = true) :
    Calls Try.prog 68 #[v, x] w fun e w' => e = .returned (.tuple #[]) ∧ w = w' := by
  have h1 : (e0 == 0) = false := by simpa using h0
  obtain ⟨a, rfl⟩ := h.ptr
  go_enter Try.func68, Try.ntmps68
  go_wp2_with (first | (go_at_call 42; refine (fault_any _ _ _ h).mono ?_; rintro e w' ⟨rfl, rfl⟩) | go_in)
  first | go_end0 | (simp only [Exit.inBlock, Exit.then]; refine bodyPost_ret (results_none rfl _ _ _) rfl ?_) | refine bodyPost_ret (results_none rfl _ _ _) rfl ?_
  exact ⟨rfl, rfl⟩

set_option maxRecDepth 100000 in
set_option maxHeartbeats 1000000 in
theorem wbyte_err (w : World) (v : Value) (n : Int) (e0 : Int) (h : Fault w v e0) (h0 : (e0 != 0) = true) :
    Calls Try.prog 31 #[v, .int .u8 n] w fun e w' => e = .returned (.tuple #[]) ∧ w = w' := by
  go_enter Try.func31, Try.ntmps31
  go_wp2_with (first | (go_at_call 60; refine (wfixed_err _ _ _ _ e0 h h0).mono ?_; rintro e w' ⟨rfl, rfl⟩) )
  all_goals
    first | go_end0 | (simp only [Exit.inBlock, Exit.then]; refine bodyPost_ret (results_none rfl _ _ _) rfl ?_) | refine bodyPost_ret (results_none rfl _ _ _) rfl ?_
    exact ⟨rfl, rfl⟩

set_option maxRecDepth 100000 in
set_option maxHeartbeats 1000000 in
theorem wbool_err (w : World) (v : Value) (b : Bool) (e0 : Int) (h : Fault w v e0) (h0 : (e0 != 0) = true) :
    Calls Try.prog 32 #[v, .bool b] w fun e w' => e = .returned (.tuple #[]) ∧ w = w' := by
  go_enter Try.func32, Try.ntmps32
  go_wp2_with (first | (go_at_call 31; refine (wbyte_err _ _ _ e0 h h0).mono ?_; rintro e w' ⟨rfl, rfl⟩) )
  all_goals
    first | go_end0 | (simp only [Exit.inBlock, Exit.then]; refine bodyPost_ret (results_none rfl _ _ _) rfl ?_) | refine bodyPost_ret (results_none rfl _ _ _) rfl ?_
    exact ⟨rfl, rfl⟩

set_option maxRecDepth 100000 in
set_option maxHeartbeats 1000000 in
theorem wu32_err (w : World) (v : Value) (n : Int) (e0 : Int) (h : Fault w v e0) (h0 : (e0 != 0) = true) :
    Calls Try.prog 33 #[v, .int .u32 n] w fun e w' => e = .returned (.tuple #[]) ∧ w = w' := by
  go_enter Try.func33, Try.ntmps33
  go_wp2_with (first | (go_at_call 60; refine (wfixed_err _ _ _ _ e0 h h0).mono ?_; rintro e w' ⟨rfl, rfl⟩) )
  all_goals
    first | go_end0 | (simp only [Exit.inBlock, Exit.then]; refine bodyPost_ret (results_none rfl _ _ _) rfl ?_) | refine bodyPost_ret (results_none rfl _ _ _) rfl ?_
    exact ⟨rfl, rfl⟩

set_option maxRecDepth 100000 in
set_option maxHeartbeats 1000000 in
theorem wu64_err (w : World) (v : Value) (n : Int) (e0 : Int) (h : Fault w v e0) (h0 : (e0 != 0) = true) :
    Calls Try.prog 34 #[v, .int .u64 n] w fun e w' => e = .returned (.tuple #[]) ∧ w = w' := by
  go_enter Try.func34, Try.ntmps34
  go_wp2_with (first | (go_at_call 60; refine (wfixed_err _ _ _ _ e0 h h0).mono ?_; rintro e w' ⟨rfl, rfl⟩) )
  all_goals
    first | go_end0 | (simp only [Exit.inBlock, Exit.then]; refine bodyPost_ret (results_none rfl _ _ _) rfl ?_) | refine bodyPost_ret (results_none rfl _ _ _) rfl ?_
    exact ⟨rfl, rfl⟩

set_option maxRecDepth 100000 in
set_option maxHeartbeats 1000000 in
theorem wraw_err (w : World) (v : Value) (x : Value) (e0 : Int) (h : Fault w v e0) (h0 : (e0 != 0) = true) :
    Calls Try.prog 37 #[v, x] w fun e w' => e = .returned (.tuple #[]) ∧ w = w' := by
  go_enter Try.func37, Try.ntmps37
  go_wp2_with (first | (go_at_call 61; refine (wlay_err _ _ _ e0 h h0).mono ?_; rintro e w' ⟨rfl, rfl⟩) )
  all_goals
    first | go_end0 | (simp only [Exit.inBlock, Exit.then]; refine bodyPost_ret (results_none rfl _ _ _) rfl ?_) | refine bodyPost_ret (results_none rfl _ _ _) rfl ?_
    exact ⟨rfl, rfl⟩

set_option maxRecDepth 100000 in
set_option maxHeartbeats 1000000 in
theorem wcounted_err (w : World) (v : Value) (a : Option Addr) (n c : Nat) (e0 : Int) (h : Fault w v e0) (h0 : (e0 != 0) = true) :
    Calls Try.prog 62 #[v, .slice a n c] w fun e w' => e = .returned (.tuple #[]) ∧ w = w' := by
  go_enter Try.func62, Try.ntmps62
  go_wp2_with (first | (go_at_call 35; refine (wvar_err _ _ _ e0 h h0).mono ?_; rintro e w' ⟨rfl, rfl⟩) | (go_at_call 61; refine (wlay_err _ _ _ e0 h h0).mono ?_; rintro e w' ⟨rfl, rfl⟩) )
  all_goals
    first | go_end0 | (simp only [Exit.inBlock, Exit.then]; refine bodyPost_ret (results_none rfl _ _ _) rfl ?_) | refine bodyPost_ret (results_none rfl _ _ _) rfl ?_
    exact ⟨rfl, rfl⟩

set_option maxRecDepth 100000 in
set_option maxHeartbeats 1000000 in
theorem wbytes_err (w : World) (v : Value) (a : Option Addr) (n c : Nat) (e0 : Int) (h : Fault w v e0) (h0 : (e0 != 0) = true) :
    Calls Try.prog 39 #[v, .slice a n c] w fun e w' => e = .returned (.tuple #[]) ∧ w = w' := by
  go_enter Try.func39, Try.ntmps39
  go_wp2_with (first | (go_at_call 62; refine (wcounted_err _ _ _ _ _ e0 h h0).mono ?_; rintro e w' ⟨rfl, rfl⟩) )
  all_goals
    first | go_end0 | (simp only [Exit.inBlock, Exit.then]; refine bodyPost_ret (results_none rfl _ _ _) rfl ?_) | refine bodyPost_ret (results_none rfl _ _ _) rfl ?_
    exact ⟨rfl, rfl⟩

set_option maxRecDepth 100000 in
set_option maxHeartbeats 1000000 in
theorem wcounteds_err (w : World) (v : Value) (x : ByteArray) (e0 : Int) (h : Fault w v e0) (h0 : (e0 != 0) = true) :
    Calls Try.prog 63 #[v, .string x] w fun e w' => e = .returned (.tuple #[]) ∧ w = w' := by
  go_enter Try.func63, Try.ntmps63
  go_wp2_with (first | (go_at_call 35; refine (wvar_err _ _ _ e0 h h0).mono ?_; rintro e w' ⟨rfl, rfl⟩) | (go_at_call 68; refine (wlays_err _ _ _ e0 h h0).mono ?_; rintro e w' ⟨rfl, rfl⟩) )
  all_goals
    first | go_end0 | (simp only [Exit.inBlock, Exit.then]; refine bodyPost_ret (results_none rfl _ _ _) rfl ?_) | refine bodyPost_ret (results_none rfl _ _ _) rfl ?_
    exact ⟨rfl, rfl⟩

set_option maxRecDepth 100000 in
set_option maxHeartbeats 1000000 in
theorem wtext_err (w : World) (v : Value) (x : ByteArray) (e0 : Int) (h : Fault w v e0) (h0 : (e0 != 0) = true) :
    Calls Try.prog 40 #[v, .string x] w fun e w' => e = .returned (.tuple #[]) ∧ w = w' := by
  go_enter Try.func40, Try.ntmps40
  go_wp2_with (first | (go_at_call 63; refine (wcounteds_err _ _ _ e0 h h0).mono ?_; rintro e w' ⟨rfl, rfl⟩) )
  all_goals
    first | go_end0 | (simp only [Exit.inBlock, Exit.then]; refine bodyPost_ret (results_none rfl _ _ _) rfl ?_) | refine bodyPost_ret (results_none rfl _ _ _) rfl ?_
    exact ⟨rfl, rfl⟩

set_option maxRecDepth 100000 in
set_option maxHeartbeats 1000000 in
theorem wcount_err (w : World) (v : Value) (n : Int) (e0 : Int) (h : Fault w v e0) (h0 : (e0 != 0) = true) :
    Calls Try.prog 41 #[v, .int .i64 n] w fun e w' => e = .returned (.tuple #[]) ∧ w = w' := by
  have h1 : (e0 == 0) = false := by simpa using h0
  obtain ⟨a, rfl⟩ := h.ptr
  go_enter Try.func41, Try.ntmps41
  go_wp2_with (first | (go_at_call 42; refine (fault_any _ _ _ h).mono ?_; rintro e w' ⟨rfl, rfl⟩) | go_in)
  first | go_end0 | (simp only [Exit.inBlock, Exit.then]; refine bodyPost_ret (results_none rfl _ _ _) rfl ?_) | refine bodyPost_ret (results_none rfl _ _ _) rfl ?_
  exact ⟨rfl, rfl⟩

theorem tmod9 (k : Int) : (if k.tmod 9 < 0 then k.tmod 9 + 9 else k.tmod 9) = k % 9 ∧ -9 < k.tmod 9 ∧ k.tmod 9 < 9 := by
  have h1 := Int.tmod_add_mul_tdiv k 9
  have h2 : k.tmod 9 < 9 := Int.tmod_lt_of_pos k (by omega)
  have h3 : -9 < k.tmod 9 := Int.lt_tmod_of_pos k (by omega)
  refine ⟨?_, h3, h2⟩
  generalize k.tmod 9 = t at *
  generalize k.tdiv 9 = d at *
  split <;> omega

set_option maxRecDepth 100000 in
set_option maxHeartbeats 1000000 in
theorem kind_any (w : World) (k : Int) : Calls Try.prog 19 #[.int .i64 k] w fun e w' => e = .returned (.int .i64 (k % 9)) ∧ w = w' := by
  obtain ⟨h, hb1, hb2⟩ := tmod9 k
  by_cases q : k.tmod 9 < 0
  · rw [if_pos q] at h
    rw [← h]
    clear h
    go_enter Try.func19, Try.ntmps19
    go_wp2
    go_ret
    exact ⟨rfl, rfl⟩
  · rw [if_neg q] at h
    rw [← h]
    clear h
    go_enter Try.func19, Try.ntmps19
    go_wp2
    go_ret
    exact ⟨rfl, rfl⟩
end Go.Proofs.Ytfjdojodbhmmaab
