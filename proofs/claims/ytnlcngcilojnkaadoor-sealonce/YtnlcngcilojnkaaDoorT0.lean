/- Around, entered, find: what only reads. -/
import Derived.Test.YtnlcngcilojnkaaDoorBaseN
import Derived.Test.YtnlcngcilojnkaaDoorRows
import Derived.Deep.RegionHeld3
namespace Go.Proofs.YtnlcngcilojnkaaDoor
open Go.RowKit
set_option linter.unusedVariables false

def around (x : Int) (n : Nat) : Nat := (x % (n : Int)).toNat
theorem around_lt (x : Int) (n : Nat) (h : 1 ≤ n) : around x n < n := by
  have h1 := Int.emod_lt_of_pos x (show (0 : Int) < n by omega)
  have h2 := Int.emod_nonneg x (show (n : Int) ≠ 0 by omega)
  unfold around
  omega
theorem around_pos (x : Int) (n : Nat) (h : 1 ≤ n) (hx : ¬ x.tmod n < 0) : x.tmod n = (around x n : Int) := by
  have h2 := Int.emod_nonneg x (show (n : Int) ≠ 0 by omega)
  have h3 := Int.emod_lt_of_pos x (show (0 : Int) < n by omega)
  have h4 := Int.tmod_lt_of_pos x (show (0 : Int) < n by omega)
  unfold around
  rw [Int.toNat_of_nonneg h2]
  have h5 := Int.tmod_add_mul_tdiv x n
  rw [← Int.emod_eq_of_lt (Int.not_lt.1 hx) h4]
  rw [← Int.add_mul_emod_self_left (x.tmod n) n (x.tdiv n), h5]
theorem around_neg (x : Int) (n : Nat) (h : 1 ≤ n) (hx : x.tmod n < 0) : x.tmod n + n = (around x n : Int) := by
  have h2 := Int.emod_nonneg x (show (n : Int) ≠ 0 by omega)
  have h3 := Int.emod_lt_of_pos x (show (0 : Int) < n by omega)
  have h4 := Int.lt_tmod_of_pos x (show (0 : Int) < n by omega)
  unfold around
  rw [Int.toNat_of_nonneg h2]
  have h5 := Int.tmod_add_mul_tdiv x n
  rw [← Int.emod_eq_of_lt (show 0 ≤ x.tmod n + n by omega) (show x.tmod n + n < n by omega)]
  have h6 := Int.add_mul_emod_self_left (x.tmod n) n 1
  rw [Int.mul_one] at h6
  rw [h6, ← Int.add_mul_emod_self_left (x.tmod n) n (x.tdiv n), h5]

set_option maxRecDepth 100000 in
set_option maxHeartbeats 1000000 in
theorem around22 (w : World) (x : Int) (n : Nat) (h : 1 ≤ n) (hn : n ≤ 9223372036854775807) : Calls Tryd.prog 22 #[.int .i64 x, .int .i64 n] w fun e w' => e = .returned (.int .i64 (around x n)) ∧ w' = w := by
  have hn0 : ¬ (n : Int) = 0 := by omega
  have hn1 : ¬ (n : Int) < 1 := by omega
  have hn01 : ((n : Int) == 0) = false := by simpa using (show ¬ n = 0 by omega)
  have hnp : (0 : Int) < (n : Int) := by omega
  have htm1 := Int.tmod_lt_of_pos x hnp
  have htm2 := Int.lt_tmod_of_pos x hnp
  by_cases hneg : x.tmod n < 0
  · have hk := around_neg x n h hneg
    have hkl := around_lt x n h
    generalize around x n = kn at *
    go_enter Tryd.func22, Tryd.ntmps22
    go_wp2_with fail
    go_ret
    exact ⟨by rw [← hk]; try rfl, rfl⟩
  · have hk := around_pos x n h hneg
    have hkl := around_lt x n h
    generalize around x n = kn at *
    go_enter Tryd.func22, Tryd.ntmps22
    go_wp2_with fail
    go_ret
    exact ⟨by rw [← hk]; try rfl, rfl⟩

def u64V (a : UInt64) : Value := .int .u64 a.toNat

set_option maxRecDepth 100000 in
set_option maxHeartbeats 2000000 in
theorem entered43 (w : World) (sw k : Nat) (va : Value) (E : List UInt64) (a : UInt64) (hk : k < 2) (c : w.cell? ⟨sw, 4 + k, none⟩ = some va) (ho : Own w 29 va (E.map u64V)) :
    Calls Tryd.prog 43 #[.pointer (some ⟨sw, 0, none⟩), .int .i64 k, .int .u64 a.toNat] w fun e w' => e = .returned (.bool (decide (a ∈ E))) ∧ w' = w := by
  have hk' : (k : Int) < 2 := by omega
  have hov : ∃ aa cp, va = .slice aa E.length cp ∧ ∀ j u, E[j]? = some u → ∃ g, aa = some ⟨g, 0, none⟩ ∧ w.cell? ⟨g, j, none⟩ = some (u64V u) := by
    rcases ho.shape with ⟨rfl, q⟩ | ⟨g, cap, cur, rfl, _⟩
    · have : E = [] := List.map_eq_nil_iff.1 q
      subst this
      exact ⟨none, 0, rfl, fun j u hu => by simp at hu⟩
    · exact ⟨_, cap, by simp, fun j u hu => ⟨g, rfl, ho.cell j (u64V u) (by simp [hu])⟩⟩
  have hle : E.length ≤ 9223372036854775807 := by
    rcases ho.shape with ⟨rfl, q⟩ | ⟨g, cap, cur, rfl, _, h1, h2, _⟩
    · have : E = [] := List.map_eq_nil_iff.1 q
      subst this
      simp
    · simp [maxLen] at h1 h2; omega
  obtain ⟨aa, cp, rfl, hcell⟩ := hov
  clear ho
  obtain ⟨n, hn⟩ : ∃ n, Shut (E.length = n) := ⟨_, rfl⟩
  rw [show E.length = n from hn.out] at c hle
  go_enter Tryd.func43, Tryd.ntmps43
  go_wp2_with fail
  go_loopw [7] (fun v wr => ∃ (i : Nat), i ≤ n ∧ v = .int .i64 i ∧ wr = w ∧ ∀ j, j < i → E[j]? ≠ some a) (fun v _ => n - (intOf v).toNat)
  case atStart => exact ⟨0, Nat.zero_le _, rfl, rfl, fun j hj => by omega⟩
  case round =>
    obtain ⟨i, hi, rfl, rfl, hno⟩ := hrel
    by_cases hlt : i < n
    · have hlt' : (i : Int) < (n : Int) := by omega
      obtain ⟨b, hb⟩ : ∃ b, E[i]? = some b := ⟨E[i]'(by rw [hn.out]; exact hlt), List.getElem?_eq_getElem _⟩
      obtain ⟨g, rfl, cb⟩ := hcell i b hb
      unfold u64V at cb
      by_cases hab : b = a
      · subst hab
        go_wp2_with fail
        go_ret
        have : b ∈ E := List.mem_of_getElem? hb
        exact ⟨by simp [this], rfl⟩
      · have hab' : ((b.toNat : Int) == (a.toNat : Int)) = false := by
          simp
          exact fun e => hab (UInt64.toNat_inj.1 (by omega))
        have hab2 : ¬ (b.toNat : Int) = (a.toNat : Int) := by simpa using hab'
        have hab3 : ¬ b.toNat = a.toNat := by omega
        go_wp2_with fail
        go_roundw
        case rel =>
          refine ⟨i + 1, by omega, by go_num, trivial, fun j hj e => ?_⟩
          by_cases hji : j = i
          · subst hji
            rw [hb] at e
            exact hab (Option.some.inj e)
          · exact hno j (by omega) e
        case measure => simp [intOf]; omega
    · have hin : i = n := by omega
      subst hin
      have hlt' : ¬ (i : Int) < (i : Int) := by omega
      go_wp2_with fail
      go_ret
      have : a ∉ E := fun hm => by
        obtain ⟨j, hj⟩ := List.getElem?_of_mem hm
        exact hno j (by have := (List.getElem?_eq_some_iff.1 hj).1; rw [hn.out] at this; exact this) hj
      exact ⟨by simp [this], rfl⟩

/-- The book's records, as find reads them. -/
def BkAt (w : World) (vb : Value) (B : List (Nat × UInt64 × List UInt8)) : Prop :=
  ∃ a cap, vb = .slice a B.length cap ∧ B.length ≤ 9223372036854775807 ∧ ∀ j x, B[j]? = some x → ∃ g, a = some ⟨g, 0, none⟩ ∧ w.cell? ⟨g, j * 19, none⟩ = some (.int .i64 x.1) ∧ w.cell? ⟨g, j * 19 + 1, none⟩ = some (.int .u64 x.2.1.toNat) ∧ w.cell? ⟨g, j * 19 + 2, none⟩ = some (.string ⟨x.2.2.toArray⟩)
theorem str_ne {s t : List UInt8} (h : s ≠ t) : (s == t) = false := by simpa using h

set_option maxRecDepth 100000 in
set_option maxHeartbeats 2000000 in
theorem find44 (w : World) (sw k : Nat) (vb : Value) (B : List (Nat × UInt64 × List UInt8)) (a : UInt64) (s : List UInt8) (c : w.cell? ⟨sw, 6, none⟩ = some vb) (hb : BkAt w vb B) :
    Calls Tryd.prog 44 #[.pointer (some ⟨sw, 0, none⟩), .int .i64 k, .int .u64 a.toNat, .string ⟨s.toArray⟩] w fun e w' => ((∃ j : Nat, e = .returned (.int .i64 j) ∧ B[j]? = some (k, a, s)) ∨ (e = .returned (.int .i64 (-1)) ∧ (k, a, s) ∉ B)) ∧ w' = w := by
  obtain ⟨aa, cp, rfl, hle, hcell⟩ := hb
  obtain ⟨n, hn⟩ : ∃ n, Shut (B.length = n) := ⟨_, rfl⟩
  rw [show B.length = n from hn.out] at c hle
  go_enter Tryd.func44, Tryd.ntmps44
  go_wp2_with fail
  go_loopw [9] (fun v wr => ∃ (i : Nat), i ≤ n ∧ v = .int .i64 i ∧ wr = w ∧ ∀ j, j < i → B[j]? ≠ some (k, a, s)) (fun v _ => n - (intOf v).toNat)
  case atStart => exact ⟨0, Nat.zero_le _, rfl, rfl, fun j hj => by omega⟩
  case round =>
    obtain ⟨i, hi, rfl, rfl, hno⟩ := hrel
    by_cases hlt : i < n
    · have hlt' : (i : Int) < (n : Int) := by omega
      obtain ⟨⟨kb, ab, sb⟩, hb⟩ : ∃ b, B[i]? = some b := ⟨B[i]'(by rw [hn.out]; exact hlt), List.getElem?_eq_getElem _⟩
      obtain ⟨g, rfl, c0, c1, c2⟩ := hcell i _ hb
      simp only at c0 c1 c2
      have next : ∀ (h : (kb, ab, sb) ≠ (k, a, s)), ∀ j, j < i + 1 → B[j]? ≠ some (k, a, s) := fun h j hj e => by
        by_cases hji : j = i
        · subst hji
          rw [hb] at e
          exact h (Option.some.inj e)
        · exact hno j (by omega) e
      clear hcell hno
      by_cases h0 : kb = k
      · subst h0
        by_cases h1 : ab = a
        · subst h1
          by_cases h2 : sb = s
          · subst h2
            clear next
            go_wp2_with fail
            go_ret
            exact ⟨.inl ⟨i, rfl, hb⟩, rfl⟩
          · have h2' := str_ne h2
            have nx := next (by simp [h2])
            clear next
            go_wp2_with fail
            go_roundw
            case rel => exact ⟨i + 1, by omega, by go_num, trivial, nx⟩
            case measure => simp [intOf]; omega
        · have h1' : ((ab.toNat : Int) == (a.toNat : Int)) = false := by
            simp
            exact fun e => h1 (UInt64.toNat_inj.1 (by omega))
          have h1'' : ¬ (ab.toNat : Int) = (a.toNat : Int) := by simpa using h1'
          have nx := next (by simp [h1])
          clear next
          go_wp2_with fail
          go_roundw
          case rel => exact ⟨i + 1, by omega, by go_num, trivial, nx⟩
          case measure => simp [intOf]; omega
      · have h0' : ((kb : Int) == (k : Int)) = false := by
          simp
          omega
        have h0'' : ¬ (kb : Int) = (k : Int) := by omega
        have nx := next (by simp [h0])
        clear next
        go_wp2_with fail
        go_roundw
        case rel => exact ⟨i + 1, by omega, by go_num, trivial, nx⟩
        case measure => simp [intOf]; omega
    · have hin : i = n := by omega
      subst hin
      have hlt' : ¬ (i : Int) < (i : Int) := by omega
      clear hcell
      go_wp2_with fail
      go_ret
      refine ⟨.inr ⟨rfl, fun hm => ?_⟩, rfl⟩
      obtain ⟨j, hj⟩ := List.getElem?_of_mem hm
      exact hno j (by have := (List.getElem?_eq_some_iff.1 hj).1; rw [hn.out] at this; exact this) hj
end Go.Proofs.YtnlcngcilojnkaaDoor
