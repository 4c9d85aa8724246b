/- Walks: a Writer with an error; kind; lay and read where nothing was made; alive. -/
import Derived.Test.YtfjdojodbhmmaaaW4
namespace Go.Proofs.Ytfjdojodbhmmaaa
open Go.RowKit

theorem Fault.ptr {w : World} {v : Value} {e : Int} (h : Fault w v e) : ∃ a, v = .pointer a := by rcases h with ⟨rfl, _⟩ | ⟨p, rfl, _⟩ | ⟨p, rfl, _⟩ <;> exact ⟨_, rfl⟩
theorem Fault.turn {S : Nat → Prop} {w w' : World} {v : Value} {e : Int} (h : Fault w v e) (ht : Turn S w w') (hn : ∀ p, v = .pointer (some ⟨p, 0, none⟩) → ¬ S p) : Fault w' v e := by
  rcases h with q | ⟨p, rfl, h0, q⟩ | ⟨p, rfl, h0, h1⟩
  · exact Or.inl q
  · exact Or.inr (Or.inl ⟨p, rfl, ht.keep h0 (hn p rfl), q⟩)
  · exact Or.inr (Or.inr ⟨p, rfl, ht.keep h0 (hn p rfl), ht.keep h1 (hn p rfl)⟩)

set_option maxRecDepth 100000 in
set_option maxHeartbeats 1000000 in
theorem wfixed_err (w : World) (v : Value) (n k : Int) (e0 : Int) (h : Fault w v e0) (h0 : (e0 != 0) = true) :
    Calls Try.prog 95 #[v, .int .u64 n, .int .i64 k] w fun e w' => e = .returned (.tuple #[]) ∧ w = w' := by
  have h1 : (e0 == 0) = false := by simpa using h0
  obtain ⟨a, rfl⟩ := h.ptr
  go_enter Try.func95, Try.ntmps95
  go_wp2_with (first | (go_at_call 66; refine (fault_any _ _ _ h).mono ?_; rintro e w' ⟨rfl, rfl⟩) | go_in)
  first | go_end0 | (simp only [Exit.inBlock, Exit.then]; refine bodyPost_ret (results_none rfl _ _ _) rfl ?_) | refine bodyPost_ret (results_none rfl _ _ _) rfl ?_
  exact ⟨rfl, rfl⟩

set_option maxRecDepth 100000 in
set_option maxHeartbeats 1000000 in
theorem wvar_err (w : World) (v : Value) (n : Int) (e0 : Int) (h : Fault w v e0) (h0 : (e0 != 0) = true) :
    Calls Try.prog 52 #[v, .int .u64 n] w fun e w' => e = .returned (.tuple #[]) ∧ w = w' := by
  have h1 : (e0 == 0) = false := by simpa using h0
  obtain ⟨a, rfl⟩ := h.ptr
  go_enter Try.func52, Try.ntmps52
  go_wp2_with (first | (go_at_call 66; refine (fault_any _ _ _ h).mono ?_; rintro e w' ⟨rfl, rfl⟩) | go_in)
  first | go_end0 | (simp only [Exit.inBlock, Exit.then]; refine bodyPost_ret (results_none rfl _ _ _) rfl ?_) | refine bodyPost_ret (results_none rfl _ _ _) rfl ?_
  exact ⟨rfl, rfl⟩

set_option maxRecDepth 100000 in
set_option maxHeartbeats 1000000 in
theorem wlay_err (w : World) (v : Value) (x : Value) (e0 : Int) (h : Fault w v e0) (h0 : (e0 != 0) = true) :
    Calls Try.prog 96 #[v, x] w fun e w' => e = .returned (.tuple #[]) ∧ w = w' := by
  have h1 : (e0 == 0) = false := by simpa using h0
  obtain ⟨a, rfl⟩ := h.ptr
  go_enter Try.func96, Try.ntmps96
  go_wp2_with (first | (go_at_call 66; refine (fault_any _ _ _ h).mono ?_; rintro e w' ⟨rfl, rfl⟩) | go_in)
  first | go_end0 | (simp only [Exit.inBlock, Exit.then]; refine bodyPost_ret (results_none rfl _ _ _) rfl ?_) | refine bodyPost_ret (results_none rfl _ _ _) rfl ?_
  exact ⟨rfl, rfl⟩

set_option maxRecDepth 100000 in
set_option maxHeartbeats 1000000 in
theorem wlays_err (w : World) (v : Value) (x : Value) (e0 : Int) (h : Fault w v e0) (h0 : (e0 != 0) = true) :
    Calls Try.prog 106 #[v, x] w fun e w' => e = .returned (.tuple #[]) ∧ w = w' := by
  have h1 : (e0 == 0) = false := by simpa using h0
  obtain ⟨a, rfl⟩ := h.ptr
  go_enter Try.func106, Try.ntmps106
  go_wp2_with (first | (go_at_call 66; refine (fault_any _ _ _ h).mono ?_; rintro e w' ⟨rfl, rfl⟩) | go_in)
  first | go_end0 | (simp only [Exit.inBlock, Exit.then]; refine bodyPost_ret (results_none rfl _ _ _) rfl ?_) | refine bodyPost_ret (results_none rfl _ _ _) rfl ?_
  exact ⟨rfl, rfl⟩

set_option maxRecDepth 100000 in
set_option maxHeartbeats 1000000 in
theorem wbyte_err (w : World) (v : Value) (n : Int) (e0 : Int) (h : Fault w v e0) (h0 : (e0 != 0) = true) :
    Calls Try.prog 48 #[v, .int .u8 n] w fun e w' => e = .returned (.tuple #[]) ∧ w = w' := by
  go_enter Try.func48, Try.ntmps48
  go_wp2_with (first | (go_at_call 95; refine (wfixed_err _ _ _ _ e0 h h0).mono ?_; rintro e w' ⟨rfl, rfl⟩) )
  all_goals
    first | go_end0 | (simp only [Exit.inBlock, Exit.then]; refine bodyPost_ret (results_none rfl _ _ _) rfl ?_) | refine bodyPost_ret (results_none rfl _ _ _) rfl ?_
    exact ⟨rfl, rfl⟩

set_option maxRecDepth 100000 in
set_option maxHeartbeats 1000000 in
theorem wbool_err (w : World) (v : Value) (b : Bool) (e0 : Int) (h : Fault w v e0) (h0 : (e0 != 0) = true) :
    Calls Try.prog 49 #[v, .bool b] w fun e w' => e = .returned (.tuple #[]) ∧ w = w' := by
  go_enter Try.func49, Try.ntmps49
  go_wp2_with (first | (go_at_call 48; refine (wbyte_err _ _ _ e0 h h0).mono ?_; rintro e w' ⟨rfl, rfl⟩) )
  all_goals
    first | go_end0 | (simp only [Exit.inBlock, Exit.then]; refine bodyPost_ret (results_none rfl _ _ _) rfl ?_) | refine bodyPost_ret (results_none rfl _ _ _) rfl ?_
    exact ⟨rfl, rfl⟩

set_option maxRecDepth 100000 in
set_option maxHeartbeats 1000000 in
theorem wu32_err (w : World) (v : Value) (n : Int) (e0 : Int) (h : Fault w v e0) (h0 : (e0 != 0) = true) :
    Calls Try.prog 50 #[v, .int .u32 n] w fun e w' => e = .returned (.tuple #[]) ∧ w = w' := by
  go_enter Try.func50, Try.ntmps50
  go_wp2_with (first | (go_at_call 95; refine (wfixed_err _ _ _ _ e0 h h0).mono ?_; rintro e w' ⟨rfl, rfl⟩) )
  all_goals
    first | go_end0 | (simp only [Exit.inBlock, Exit.then]; refine bodyPost_ret (results_none rfl _ _ _) rfl ?_) | refine bodyPost_ret (results_none rfl _ _ _) rfl ?_
    exact ⟨rfl, rfl⟩

set_option maxRecDepth 100000 in
set_option maxHeartbeats 1000000 in
theorem wu64_err (w : World) (v : Value) (n : Int) (e0 : Int) (h : Fault w v e0) (h0 : (e0 != 0) = true) :
    Calls Try.prog 51 #[v, .int .u64 n] w fun e w' => e = .returned (.tuple #[]) ∧ w = w' := by
  go_enter Try.func51, Try.ntmps51
  go_wp2_with (first | (go_at_call 95; refine (wfixed_err _ _ _ _ e0 h h0).mono ?_; rintro e w' ⟨rfl, rfl⟩) )
  all_goals
    first | go_end0 | (simp only [Exit.inBlock, Exit.then]; refine bodyPost_ret (results_none rfl _ _ _) rfl ?_) | refine bodyPost_ret (results_none rfl _ _ _) rfl ?_
    exact ⟨rfl, rfl⟩

set_option maxRecDepth 100000 in
set_option maxHeartbeats 1000000 in
theorem wraw_err (w : World) (v : Value) (x : Value) (e0 : Int) (h : Fault w v e0) (h0 : (e0 != 0) = true) :
    Calls Try.prog 53 #[v, x] w fun e w' => e = .returned (.tuple #[]) ∧ w = w' := by
  go_enter Try.func53, Try.ntmps53
  go_wp2_with (first | (go_at_call 96; refine (wlay_err _ _ _ e0 h h0).mono ?_; rintro e w' ⟨rfl, rfl⟩) )
  all_goals
    first | go_end0 | (simp only [Exit.inBlock, Exit.then]; refine bodyPost_ret (results_none rfl _ _ _) rfl ?_) | refine bodyPost_ret (results_none rfl _ _ _) rfl ?_
    exact ⟨rfl, rfl⟩

set_option maxRecDepth 100000 in
set_option maxHeartbeats 1000000 in
theorem wcounted_err (w : World) (v : Value) (a : Option Addr) (n c : Nat) (e0 : Int) (h : Fault w v e0) (h0 : (e0 != 0) = true) :
    Calls Try.prog 97 #[v, .slice a n c] w fun e w' => e = .returned (.tuple #[]) ∧ w = w' := by
  go_enter Try.func97, Try.ntmps97
  go_wp2_with (first | (go_at_call 52; refine (wvar_err _ _ _ e0 h h0).mono ?_; rintro e w' ⟨rfl, rfl⟩) | (go_at_call 96; refine (wlay_err _ _ _ e0 h h0).mono ?_; rintro e w' ⟨rfl, rfl⟩) )
  all_goals
    first | go_end0 | (simp only [Exit.inBlock, Exit.then]; refine bodyPost_ret (results_none rfl _ _ _) rfl ?_) | refine bodyPost_ret (results_none rfl _ _ _) rfl ?_
    exact ⟨rfl, rfl⟩

set_option maxRecDepth 100000 in
set_option maxHeartbeats 1000000 in
theorem wbytes_err (w : World) (v : Value) (a : Option Addr) (n c : Nat) (e0 : Int) (h : Fault w v e0) (h0 : (e0 != 0) = true) :
    Calls Try.prog 54 #[v, .slice a n c] w fun e w' => e = .returned (.tuple #[]) ∧ w = w' := by
  go_enter Try.func54, Try.ntmps54
  go_wp2_with (first | (go_at_call 97; refine (wcounted_err _ _ _ _ _ e0 h h0).mono ?_; rintro e w' ⟨rfl, rfl⟩) )
  all_goals
    first | go_end0 | (simp only [Exit.inBlock, Exit.then]; refine bodyPost_ret (results_none rfl _ _ _) rfl ?_) | refine bodyPost_ret (results_none rfl _ _ _) rfl ?_
    exact ⟨rfl, rfl⟩

set_option maxRecDepth 100000 in
set_option maxHeartbeats 1000000 in
theorem wcounteds_err (w : World) (v : Value) (x : ByteArray) (e0 : Int) (h : Fault w v e0) (h0 : (e0 != 0) = true) :
    Calls Try.prog 98 #[v, .string x] w fun e w' => e = .returned (.tuple #[]) ∧ w = w' := by
  go_enter Try.func98, Try.ntmps98
  go_wp2_with (first | (go_at_call 52; refine (wvar_err _ _ _ e0 h h0).mono ?_; rintro e w' ⟨rfl, rfl⟩) | (go_at_call 106; refine (wlays_err _ _ _ e0 h h0).mono ?_; rintro e w' ⟨rfl, rfl⟩) )
  all_goals
    first | go_end0 | (simp only [Exit.inBlock, Exit.then]; refine bodyPost_ret (results_none rfl _ _ _) rfl ?_) | refine bodyPost_ret (results_none rfl _ _ _) rfl ?_
    exact ⟨rfl, rfl⟩

set_option maxRecDepth 100000 in
set_option maxHeartbeats 1000000 in
theorem wtext_err (w : World) (v : Value) (x : ByteArray) (e0 : Int) (h : Fault w v e0) (h0 : (e0 != 0) = true) :
    Calls Try.prog 55 #[v, .string x] w fun e w' => e = .returned (.tuple #[]) ∧ w = w' := by
  go_enter Try.func55, Try.ntmps55
  go_wp2_with (first | (go_at_call 98; refine (wcounteds_err _ _ _ e0 h h0).mono ?_; rintro e w' ⟨rfl, rfl⟩) )
  all_goals
    first | go_end0 | (simp only [Exit.inBlock, Exit.then]; refine bodyPost_ret (results_none rfl _ _ _) rfl ?_) | refine bodyPost_ret (results_none rfl _ _ _) rfl ?_
    exact ⟨rfl, rfl⟩

set_option maxRecDepth 100000 in
set_option maxHeartbeats 1000000 in
theorem wcount_err (w : World) (v : Value) (n : Int) (e0 : Int) (h : Fault w v e0) (h0 : (e0 != 0) = true) :
    Calls Try.prog 56 #[v, .int .i64 n] w fun e w' => e = .returned (.tuple #[]) ∧ w = w' := by
  have h1 : (e0 == 0) = false := by simpa using h0
  obtain ⟨a, rfl⟩ := h.ptr
  go_enter Try.func56, Try.ntmps56
  go_wp2_with (first | (go_at_call 66; refine (fault_any _ _ _ h).mono ?_; rintro e w' ⟨rfl, rfl⟩) | go_in)
  first | go_end0 | (simp only [Exit.inBlock, Exit.then]; refine bodyPost_ret (results_none rfl _ _ _) rfl ?_) | refine bodyPost_ret (results_none rfl _ _ _) rfl ?_
  exact ⟨rfl, rfl⟩

theorem tmod9 (k : Int) : (if k.tmod 9 < 0 then k.tmod 9 + 9 else k.tmod 9) = k % 9 ∧ -9 < k.tmod 9 ∧ k.tmod 9 < 9 := by
  have h1 := Int.tmod_add_mul_tdiv k 9
  have h2 : k.tmod 9 < 9 := Int.tmod_lt_of_pos k (by omega)
  have h3 : -9 < k.tmod 9 := Int.lt_tmod_of_pos k (by omega)
  refine ⟨?_, h3, h2⟩
  generalize k.tmod 9 = t at *
  generalize k.tdiv 9 = d at *
  split <;> omega

set_option maxRecDepth 100000 in
set_option maxHeartbeats 1000000 in
theorem kind_any (w : World) (k : Int) : Calls Try.prog 9 #[.int .i64 k] w fun e w' => e = .returned (.int .i64 (k % 9)) ∧ w = w' := by
  obtain ⟨h, hb1, hb2⟩ := tmod9 k
  by_cases q : k.tmod 9 < 0
  · rw [if_pos q] at h
    rw [← h]
    clear h
    go_enter Try.func9, Try.ntmps9
    go_wp2
    go_ret
    exact ⟨rfl, rfl⟩
  · rw [if_neg q] at h
    rw [← h]
    clear h
    go_enter Try.func9, Try.ntmps9
    go_wp2
    go_ret
    exact ⟨rfl, rfl⟩
end Go.Proofs.Ytfjdojodbhmmaaa
