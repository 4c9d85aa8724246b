/- Walks of the law: num, has, first. -/
import Derived.Test.YtbkbecjgphjpkabDoorQ2
namespace Go.Proofs.YtbkbecjgphjpkabDoor
open Go.RowKit
set_option linter.unusedVariables false

set_option maxRecDepth 100000 in
set_option maxHeartbeats 400000 in
theorem num5 (w : World) (e0 : Int) : Calls Tryd.prog 5 #[.int .i64 e0] w fun e w' => e = .returned (.int .i64 e0) ∧ w' = w := by
  go_enter Tryd.func5, Tryd.ntmps5
  go_wp2
  go_ret
  exact ⟨rfl, rfl⟩

set_option maxRecDepth 100000 in
set_option maxHeartbeats 1000000 in
theorem has25 (w : World) (v : Value) (xs : List Int) (h : Vs w v (xs.map iv)) (n : Int) :
    Calls Tryd.prog 25 #[v, .int .i64 n] w fun e w' => (∃ b, e = .returned (.bool b)) ∧ w' = w := by
  have hle := h.le
  unfold maxLen at hle
  rw [List.length_map] at hle
  obtain ⟨a, c, hv⟩ := h.slice
  rw [List.length_map] at hv
  have hcell : ∀ k, k < xs.length → ∃ b off, a = some ⟨b, off, none⟩ ∧ w.cell? ⟨b, off + k, none⟩ = some (.int .i64 (xs.getD k 0)) := by
    intro k hk
    obtain ⟨b, off, cap, q, _, hca⟩ := h.at (by rw [List.length_map]; omega)
    rw [hv, List.length_map] at q
    cases q
    refine ⟨b, off, rfl, ?_⟩
    refine hca k _ ?_
    rw [List.getElem?_map, List.getElem?_eq_getElem hk]
    simp [iv, hk]
  subst hv
  obtain ⟨N, hN⟩ : ∃ N, xs.length = N := ⟨_, rfl⟩
  rw [hN] at hle hcell ⊢
  clear h
  go_enter Tryd.func25, Tryd.ntmps25
  go_wp2_with fail
  go_loopw [5] (fun i wr => ∃ k : Nat, k ≤ N ∧ i = .int .i64 k ∧ w = wr) (fun i _ => N - (intOf i).toNat)
  case atStart => exact ⟨0, Nat.zero_le _, rfl, rfl⟩
  case round =>
    obtain ⟨k, hk, rfl, rfl⟩ := hrel
    by_cases hlt : k < N
    · obtain ⟨b, off, rfl, g⟩ := hcell k hlt
      generalize xs.getD k 0 = x at *
      have hlt' : (k : Int) < (N : Int) := by omega
      have hk1 : Hid (k + 1 ≤ N) := hlt
      clear hcell
      by_cases hx : (x == n) = true
      · go_wp2_with fail
        go_ret
        first | exact ⟨⟨true, rfl⟩, rfl⟩ | exact ⟨Or.inr rfl, rfl⟩
      · have hx' : (x == n) = false := by simpa using hx
        go_wp2_with fail
        go_roundw
        case rel => exact ⟨k + 1, hk1.out, by go_num, by trivial⟩
        case measure => have := hk1.out; simp [intOf]; omega
    · have hlt' : ¬ (k : Int) < (N : Int) := by omega
      clear hcell
      go_wp2_with fail
      go_ret
      refine ⟨?_, rfl⟩
      first | exact ⟨false, rfl⟩ | exact Or.inl rfl

set_option maxRecDepth 100000 in
set_option maxHeartbeats 1000000 in
theorem first7_no (w : World) (v1 v2 : Value) (t1 t2 : List (Value × List UInt8)) (h1 : Bl w v1 t1) (h2 : Bl w v2 t2) (hl : t2.length < t1.length) :
    Calls Tryd.prog 7 #[v1, v2] w fun e w' => e = .returned (.bool false) ∧ w' = w := by
  obtain ⟨a1, c1, rfl⟩ := h1.form
  obtain ⟨a2, c2, rfl⟩ := h2.form
  have hd : decide ((t1.length : Int) ≤ (t2.length : Int)) = false := by simp; omega
  have hd' : ¬ (t1.length : Int) ≤ (t2.length : Int) := by omega
  clear h1 h2
  go_enter Tryd.func7, Tryd.ntmps7
  go_wp2_with fail
  go_ret
  exact ⟨rfl, rfl⟩

set_option maxRecDepth 100000 in
set_option maxHeartbeats 1000000 in
theorem first7_yes (w : World) (v1 v2 : Value) (t1 t2 : List (Value × List UInt8)) (h1 : Bl w v1 t1) (h2 : Bl w v2 t2) (hl : t1.length ≤ t2.length) (he : t1.map (·.2) = (t2.take t1.length).map (·.2)) :
    Calls Tryd.prog 7 #[v1, v2] w fun e w' => e = .returned (.bool true) ∧ Turn no w w' := by
  obtain ⟨a1, c1, rfl⟩ := h1.form
  obtain ⟨a2, c2, rfl⟩ := h2.form
  have hT := h2.take t1.length hl
  have c8 := sameLists18 w _ _ _ _ h1 hT he
  have hd : decide ((t1.length : Int) ≤ (t2.length : Int)) = true := by simp; omega
  obtain ⟨n1, hn1⟩ : ∃ n, t1.length = n := ⟨_, rfl⟩
  obtain ⟨n2, hn2⟩ : ∃ n, t2.length = n := ⟨_, rfl⟩
  have hsl : ∀ lw : World, (Instr.slice 28 (.slice a2 n2 c2) none (some (.int .i64 n1)) none).run Tryd.prog lw = .ok (.slice a2 n1 c2) lw := by
    intro lw
    obtain ⟨aa, cp, e, q1, q2, q3⟩ := id h2
    cases e
    have hs : (sizeOf (Tryd.prog.elem 28)).run Tryd.prog lw = .ok 1 lw := by kernel_rfl
    rw [run_slice_h lw 28 a2 n2 c2 (by kernel_rfl) .i64 (n1 : Int) (by omega) (by omega), hs]
    simp only [Result.andThen, sliced]
    congr 2
    split
    · rfl
    · cases a2 with
      | none => rfl
      | some a => simp [Addr.add]
  have hsl' := fun lw => (run_sliceAt_slice lw 28 (.slice a2 n2 c2) none (some (.int .i64 (n1 : Int))) none (by kernel_rfl : Tryd.prog.underlying 28 = some (.slice (Tryd.prog.elem 28)))).trans (hsl lw)
  rw [hn1] at c8 hd hl ⊢
  rw [hn2] at hd hl ⊢
  have hlI : (n1 : Int) ≤ (n2 : Int) := by omega
  clear h1 h2 hT hn1 hn2 he
  go_enter Tryd.func7, Tryd.ntmps7
  go_wp2_with fail
  refine c8.mono ?_
  rintro e w1 ⟨rfl, t⟩
  go_wp2_with fail
  go_ret
  exact ⟨rfl, t⟩
end Go.Proofs.YtbkbecjgphjpkabDoor
