/- How long a place's way is, as the program and as the reference count it. -/
import Derived.Test.YtieoomdbijpdhaaDoorF1
namespace Go.Proofs.YtieoomdbijpdhaaDoor
open Go.RowKit
set_option linter.unusedVariables false

theorem splitN_pos (n : Nat) : 1 ≤ splitN n := Nat.one_le_two_pow
theorem splitN_lt (n : Nat) (h : 2 ≤ n) : splitN n < n := by
  have := Nat.log2_self_le (n := n - 1) (by omega)
  unfold splitN
  omega

def stepsF : Nat → Nat → Nat → Nat
  | 0, _, _ => 0
  | f + 1, n, a => if n ≤ 1 then 0 else if a < splitN n then stepsF f (splitN n) a + 1 else stepsF f (n - splitN n) (a - splitN n) + 1
theorem stepsF_more : ∀ (f n a : Nat), n ≤ f → stepsF (f + 1) n a = stepsF f n a
  | 0, n, a, h => by
    show (if n ≤ 1 then 0 else _) = 0
    rw [if_pos (by omega)]
  | f + 1, n, a, h => by
    show (if n ≤ 1 then 0 else if a < splitN n then stepsF (f + 1) (splitN n) a + 1 else stepsF (f + 1) (n - splitN n) (a - splitN n) + 1) = (if n ≤ 1 then 0 else if a < splitN n then stepsF f (splitN n) a + 1 else stepsF f (n - splitN n) (a - splitN n) + 1)
    by_cases h1 : n ≤ 1
    · rw [if_pos h1, if_pos h1]
    · have h2 := splitN_lt n (by omega)
      have h3 := splitN_pos n
      rw [if_neg h1, if_neg h1, stepsF_more f (splitN n) a (by omega), stepsF_more f (n - splitN n) (a - splitN n) (by omega)]
theorem stepsF_ge (n a d : Nat) : stepsF (n + d) n a = stepsF n n a := by
  induction d with
  | zero => rfl
  | succ d ih => rw [← Nat.add_assoc, stepsF_more (n + d) n a (by omega), ih]
/-- How long a place's way is. -/
def stepsN (n a : Nat) : Nat := stepsF n n a
theorem stepsF_eq (f n a : Nat) (h : n ≤ f) : stepsF f n a = stepsN n a := by
  obtain ⟨d, rfl⟩ : ∃ d, f = n + d := ⟨f - n, by omega⟩
  exact stepsF_ge n a d
theorem stepsN_one (at' : Nat) : stepsN 1 at' = 0 := rfl
theorem stepsN_low (n at' : Nat) (h : n ≤ 1) : stepsN n at' = 0 := by
  match n, h with
  | 0, _ => rfl
  | 1, _ => rfl
theorem stepsN_left (n at' : Nat) (h : 2 ≤ n) (ha : at' < splitN n) : stepsN n at' = stepsN (splitN n) at' + 1 := by
  obtain ⟨m, rfl⟩ : ∃ m, n = m + 1 := ⟨n - 1, by omega⟩
  have h2 := splitN_lt (m + 1) (by omega)
  show (if m + 1 ≤ 1 then 0 else if at' < splitN (m + 1) then stepsF m (splitN (m + 1)) at' + 1 else stepsF m (m + 1 - splitN (m + 1)) (at' - splitN (m + 1)) + 1) = _
  rw [if_neg (by omega), if_pos ha, stepsF_eq _ _ _ (by omega)]
theorem stepsN_right (n at' : Nat) (h : 2 ≤ n) (ha : ¬ at' < splitN n) : stepsN n at' = stepsN (n - splitN n) (at' - splitN n) + 1 := by
  obtain ⟨m, rfl⟩ : ∃ m, n = m + 1 := ⟨n - 1, by omega⟩
  have h2 := splitN_pos (m + 1)
  show (if m + 1 ≤ 1 then 0 else if at' < splitN (m + 1) then stepsF m (splitN (m + 1)) at' + 1 else stepsF m (m + 1 - splitN (m + 1)) (at' - splitN (m + 1)) + 1) = _
  rw [if_neg (by omega), if_neg ha, stepsF_eq _ _ _ (by omega)]
theorem stepsN_le (n at' : Nat) : stepsN n at' ≤ n := by
  induction n using Nat.strongRecOn generalizing at' with
  | _ n ih =>
    by_cases h : n ≤ 1
    · rw [stepsN_low n at' h]; omega
    · have h1 := splitN_lt n (by omega)
      have h2 := splitN_pos n
      by_cases ha : at' < splitN n
      · rw [stepsN_left n at' (by omega) ha]
        have := ih (splitN n) h1 at'
        omega
      · rw [stepsN_right n at' (by omega) ha]
        have := ih (n - splitN n) (by omega) (at' - splitN n)
        omega

set_option maxRecDepth 100000 in
set_option maxHeartbeats 4000000 in
theorem steps_any (n : Nat) : ∀ (at' : Nat) (w : World), 1 ≤ n → n ≤ 65536 → at' < n → Calls Tryd.prog 98 #[.int .i64 n, .int .i64 at'] w fun e w' => e = .returned (.int .i64 (stepsN n at')) ∧ w' = w := by
  induction n using Nat.strongRecOn with
  | _ n ih =>
    intro at' w h1 h2 h3
    by_cases h : n = 1
    · subst h
      rw [stepsN_one]
      go_enter Tryd.func98, Tryd.ntmps98
      go_wp2_with fail
      go_ret
      exact ⟨rfl, rfl⟩
    · have hs := fun W => split_any W n (by omega) h2
      have hsl := splitN_lt n (by omega)
      have hsp := splitN_pos n
      have hn1 : ((n : Int) == 1) = false := by simp; omega
      by_cases ha : at' < splitN n
      · have hr := fun W => ih (splitN n) hsl at' W hsp (by omega) ha
        have hb := stepsN_le (splitN n) at'
        rw [stepsN_left n at' (by omega) ha]
        generalize stepsN (splitN n) at' = r at *
        generalize splitN n = k at *
        have ha' : (at' : Int) < (k : Int) := by omega
        clear ih
        go_enter Tryd.func98, Tryd.ntmps98
        go_wp2_with fail
        refine (hs _).mono ?_
        rintro e w1 ⟨rfl, rfl⟩
        go_wp2_with fail
        refine (hr _).mono ?_
        rintro e w1 ⟨rfl, rfl⟩
        go_wp2_with fail
        go_ret
        exact ⟨congrArg Ending.returned (congrArg (Value.int .i64) (by omega)), rfl⟩
      · have hr := fun W => ih (n - splitN n) (by omega) (at' - splitN n) W (by omega) (by omega) (by omega)
        have hb := stepsN_le (n - splitN n) (at' - splitN n)
        rw [stepsN_right n at' (by omega) ha]
        obtain ⟨m, hm⟩ : ∃ m, m = n - splitN n := ⟨_, rfl⟩
        obtain ⟨a2, ha2⟩ : ∃ a, a = at' - splitN n := ⟨_, rfl⟩
        rw [← hm, ← ha2] at hr hb ⊢
        have hmi : (n : Int) - (splitN n : Int) = (m : Int) := by omega
        have hai : (at' : Int) - (splitN n : Int) = (a2 : Int) := by omega
        generalize stepsN m a2 = r at *
        generalize splitN n = k at *
        have ha' : ¬ (at' : Int) < (k : Int) := by omega
        clear ih hm ha2
        go_enter Tryd.func98, Tryd.ntmps98
        go_wp2_with fail
        refine (hs _).mono ?_
        rintro e w1 ⟨rfl, rfl⟩
        go_wp2_with fail
        refine (hr _).mono ?_
        rintro e w1 ⟨rfl, rfl⟩
        go_wp2_with fail
        go_ret
        exact ⟨congrArg Ending.returned (congrArg (Value.int .i64) (by omega)), rfl⟩

set_option maxRecDepth 100000 in
set_option maxHeartbeats 4000000 in
theorem length_any (n : Nat) : ∀ (at' : Nat) (w : World), 1 ≤ n → n ≤ 65536 → at' < n → Calls Tryd.prog 60 #[.int .i64 n, .int .i64 at'] w fun e w' => e = .returned (.int .i64 (stepsN n at')) ∧ w' = w := by
  induction n using Nat.strongRecOn with
  | _ n ih =>
    intro at' w h1 h2 h3
    by_cases h : n = 1
    · subst h
      rw [stepsN_one]
      go_enter Tryd.func60, Tryd.ntmps60
      go_wp2_with fail
      go_ret
      exact ⟨rfl, rfl⟩
    · have hs := fun W => rsplit_any W n (by omega) h2
      have hsl := splitN_lt n (by omega)
      have hsp := splitN_pos n
      have hn1 : ¬ (n : Int) ≤ 1 := by omega
      by_cases ha : at' < splitN n
      · have hr := fun W => ih (splitN n) hsl at' W hsp (by omega) ha
        have hb := stepsN_le (splitN n) at'
        rw [stepsN_left n at' (by omega) ha]
        generalize stepsN (splitN n) at' = r at *
        generalize splitN n = k at *
        have ha' : (at' : Int) < (k : Int) := by omega
        clear ih
        go_enter Tryd.func60, Tryd.ntmps60
        go_wp2_with fail
        refine (hs _).mono ?_
        rintro e w1 ⟨rfl, rfl⟩
        go_wp2_with fail
        refine (hr _).mono ?_
        rintro e w1 ⟨rfl, rfl⟩
        go_wp2_with fail
        go_ret
        exact ⟨congrArg Ending.returned (congrArg (Value.int .i64) (by omega)), rfl⟩
      · have hr := fun W => ih (n - splitN n) (by omega) (at' - splitN n) W (by omega) (by omega) (by omega)
        have hb := stepsN_le (n - splitN n) (at' - splitN n)
        rw [stepsN_right n at' (by omega) ha]
        obtain ⟨m, hm⟩ : ∃ m, m = n - splitN n := ⟨_, rfl⟩
        obtain ⟨a2, ha2⟩ : ∃ a, a = at' - splitN n := ⟨_, rfl⟩
        rw [← hm, ← ha2] at hr hb ⊢
        have hmi : (n : Int) - (splitN n : Int) = (m : Int) := by omega
        have hai : (at' : Int) - (splitN n : Int) = (a2 : Int) := by omega
        generalize stepsN m a2 = r at *
        generalize splitN n = k at *
        have ha' : ¬ (at' : Int) < (k : Int) := by omega
        clear ih hm ha2
        go_enter Tryd.func60, Tryd.ntmps60
        go_wp2_with fail
        refine (hs _).mono ?_
        rintro e w1 ⟨rfl, rfl⟩
        go_wp2_with fail
        refine (hr _).mono ?_
        rintro e w1 ⟨rfl, rfl⟩
        go_wp2_with fail
        go_ret
        exact ⟨congrArg Ending.returned (congrArg (Value.int .i64) (by omega)), rfl⟩

end Go.Proofs.YtieoomdbijpdhaaDoor

