/- The document's Scan: the loop; turnAll. -/
import Derived.Test.YtbkbecjgphjpkaaDoorR3
namespace Go.Proofs.YtbkbecjgphjpkaaDoor
open Go.RowKit
set_option linter.unusedVariables false

theorem one41 (w : World) (v : Value) (r : List UInt8) (hb : Bs w v r) (hle : r.length ≤ 1099511627776) :
    Calls Tryd.prog 41 #[v] w fun e w' => (whole r = none ∧ e = .returned (.tuple #[.slice none 0 0, .int .i64 0]) ∧ Turn no w w') ∨ ∃ n v', whole r = some n ∧ e = .returned (.tuple #[v', .int .i64 ((n + 13 : Nat) : Int)]) ∧ Nw w w' v' ((r.take (n + 9)).drop 9) := by
  by_cases h9 : 9 ≤ r.length
  · exact one41_any w v r hb h9 hle
  · refine (one41_short w v r hb (by omega)).mono ?_
    rintro e w' ⟨q, t⟩
    exact Or.inl ⟨by unfold whole; rw [if_pos (by omega)], q, t⟩

set_option maxRecDepth 100000 in
set_option maxHeartbeats 2000000 in
theorem rscan17 (w : World) (v : Value) (bs : List UInt8) (hb : Bs w v bs) (hle : bs.length ≤ 1099511627776) :
    Calls Tryd.prog 17 #[v] w fun e w' => ∃ v', e = .returned (.tuple #[v', .int .i64 ((scan bs).2 : Nat)]) ∧ Ls w.heap.size w' v' (scan bs).1 ∧ Turn no w w' := by
  obtain ⟨va, N, vc, rfl, hN⟩ : ∃ a n c, v = .slice a n c ∧ Hid (n = bs.length) := by
    obtain ⟨a, c, e⟩ := hb.slice
    exact ⟨a, _, c, e, rfl⟩
  have hNb : N ≤ 1099511627776 := by rw [hN.out]; exact hle
  have hSl : ∀ e, e ≤ N → ∃ a' c', (∀ lw : World, (Instr.slice 22 (.slice va N vc) (some (.int .i64 e)) none none).run Tryd.prog lw = .ok (.slice a' (N - e) c') lw) ∧ ∀ W, Turn no w W → Bs W (.slice a' (N - e) c') (bs.drop e) := by
    intro e he
    have hs : ∀ lw : World, (sizeOf (Tryd.prog.elem 22)).run Tryd.prog lw = .ok 1 lw := fun lw => by kernel_rfl
    have hr : ∀ lw : World, (Instr.slice 22 (.slice va N vc) (some (.int .i64 e)) none none).run Tryd.prog lw = .ok (sliced va e N vc 1) lw := fun lw => by
      rw [run_slice_l lw 22 va N vc (by kernel_rfl) .i64 (e : Int) (by omega) (by omega), hs]
      simp [Result.andThen]
    have hno := hN.out
    rcases hb with ⟨q, q0⟩ | ⟨a, cap, q, h1, h2, h3⟩
    · cases q
      obtain rfl : e = 0 := by omega
      refine ⟨none, 0, fun lw => by rw [hr]; rfl, fun W t => ?_⟩
      subst q0
      exact Or.inl ⟨rfl, rfl⟩
    · cases q
      by_cases hce : vc = e
      · refine ⟨some a, vc - e, fun lw => by rw [hr]; unfold sliced; rw [if_pos hce], fun W t => ?_⟩
        have : bs.drop e = [] := List.drop_eq_nil_of_le (by omega)
        rw [this]
        exact Or.inr ⟨a, vc - e, by simp; omega, by simp, by omega, fun j u hu => by simp at hu⟩
      · refine ⟨some (a.add e), vc - e, fun lw => by rw [hr]; unfold sliced; rw [if_neg hce]; simp, fun W t => ?_⟩
        have hl : (bs.drop e).length = bs.length - e := by simp
        refine Or.inr ⟨a.add e, vc - e, by rw [hl], by rw [hl]; omega, by omega, fun j u hu => ?_⟩
        rw [List.getElem?_drop] at hu
        have := t.keep (h3 (e + j) u hu) (fun q => q)
        obtain ⟨b, o, sp⟩ := a
        unfold Addr.add at this ⊢
        by_cases he0 : e = 0
        · subst he0; simpa using this
        · by_cases hj : j = 0
          · subst hj; simpa [he0] using this
          · simpa [he0, hj, Nat.add_assoc] using this
  have HSl := Hid.mk' hSl
  clear hSl hb
  go_enter Tryd.func17, Tryd.ntmps17
  go_wp2_with fail
  go_loopw [4, 5] (fun r t5 wr => ∃ (e : Nat) (R : List (List UInt8)), e ≤ N ∧ R.length ≤ e ∧ t5 = .int .i64 e ∧ Ls w.heap.size wr r R ∧ Turn no w wr ∧ scan bs = (R ++ (scan (bs.drop e)).1, e + (scan (bs.drop e)).2)) (fun _ t5 _ => N - (intOf t5).toNat)
  case atStart => exact ⟨0, [], Nat.zero_le _, Nat.zero_le _, rfl, Ls.nil _ _, Turn.refl _ _, by simp⟩
  case round =>
    obtain ⟨e, R, he, hRe, rfl, hR, T, hS⟩ := hrel
    have HS : Hid (scan bs = (R ++ (scan (bs.drop e)).1, e + (scan (bs.drop e)).2)) := hS
    clear hS
    obtain ⟨ra, rc, rfl⟩ := hR.form
    obtain ⟨a', c', hsl, hbl⟩ := HSl.out e he
    have c1 := one41 wr _ _ (hbl wr T) (by simp; omega)
    have hsl' := fun lw => (run_sliceAt_slice lw 22 (.slice va N vc) (some (.int .i64 e)) none none (by kernel_rfl : Tryd.prog.underlying 22 = some (.slice (Tryd.prog.elem 22)))).trans (hsl lw)
    have hNl : (bs.drop e).length = N - e := by rw [hN.out]; simp
    go_wp2_with fail
    refine c1.mono ?_
    rintro e' w1 (⟨hw, rfl, t1⟩ | ⟨n, v1, hw, rfl, N1⟩)
    · have hfin : Hid (scan bs = (R, e)) := by show scan bs = (R, e); rw [HS.out, scan_none hw]; simp
      have R1 := hR.turn_no t1
      have T1 := T.then_no t1
      clear c1 hsl hsl' hbl HS
      go_wp2_with fail
      all_goals (go_ret2; rw [hfin.out]; exact ⟨_, rfl, R1, T1⟩)
    · have hwl := (whole_some hw).2.2.2.2.2.1
      rw [hNl] at hwl
      have HSome : Hid (scan bs = ((R ++ [((bs.drop e).take (n + 9)).drop 9]) ++ (scan (bs.drop (e + (n + 13)))).1, e + (n + 13) + (scan (bs.drop (e + (n + 13)))).2)) := by
        show scan bs = _
        rw [HS.out, scan_some hw, List.drop_drop]
        simp [Nat.add_assoc]
      obtain ⟨rec, hrec⟩ : ∃ rec, ((bs.drop e).take (n + 9)).drop 9 = rec := ⟨_, rfl⟩
      rw [hrec] at N1 HSome
      obtain ⟨m, hm⟩ : ∃ m, n + 13 = m := ⟨_, rfl⟩
      rw [hm] at HSome ⊢
      have hm0 : ((m : Int) == 0) = false := by simp; omega
      have R1 := hR.turn_no N1.t
      have T1 := T.then_no N1.t
      obtain ⟨ua, un, uc, rfl⟩ := N1.own.form
      obtain ⟨vs, q1, q2, q3, q4, q5⟩ := id hR
      have TA : Turn no w1 (w1.alloc (.cells #[.slice ua un uc] 22)) := (Turn.refl no w1).alloc _
      obtain ⟨em, hem⟩ : ∃ em, e + m = em := ⟨_, rfl⟩
      rw [hem] at HSome
      have e5 : (e : Int) + (m : Int) = (em : Int) := by omega
      have e6 : (em : Int) ≤ 1099511627776 := by omega
      have hemN : Hid (em ≤ N) := by show em ≤ N; omega
      have hRm : Hid (R.length + 1 ≤ em) := by show R.length + 1 ≤ em; omega
      have hms : Hid (e < em) := by show e < em; omega
      have hvb : (vs.length + 1) * 24 ≤ 140737488355328 := by rw [q1]; omega
      clear c1 hsl hsl' hbl HS hrec hw hwl hNl hem hm
      go_wp2_with (at_builtin; refine wpList_append_src rfl (.tmp 19) (.tmp 21) rfl Tryd.underlying32 info22 rfl _ vs rfl ((q2.turn_no N1.t).turn_no TA) _ 1 [.slice ua un uc] rfl ?src ?bb ?mm ?_)
      case src => exact src_oneT Tryd.underlying32 w1 _ rfl
      case bb => exact hvb
      case mm => unfold maxLen; omega
      intro v8 w8 hown8 hg8 _
      have hg8 : Grew (w1.alloc (.cells #[.slice ua un uc] 22)) w8 (.slice ra R.length rc) v8 := hg8
      have R8 : Ls w.heap.size w8 v8 (R ++ [rec]) :=
        Ls.push hR (N1.t.then_no TA) (N1.own.turn_no TA) (fun g q => Nat.le_trans T.size (N1.fresh g q)) N1.fresh (Nat.le_trans T1.size TA.size) vs q1 q2 q3 q4 q5 hown8 hg8
      have T8 : Turn no w w8 := (T1.then_no TA).fresh hg8 q3
      obtain ⟨ja, jn, jc, rfl⟩ := hown8.form
      clear hown8 hg8 R1 T1 N1 q2 q3 q4 q5 hR T TA
      go_wp2_with fail
      go_roundw
      case rel => exact ⟨em, R ++ [rec], hemN.out, by simpa using hRm.out, by go_num, R8, T8, HSome.out⟩
      case measure => have := hms.out; have := hemN.out; simp [intOf]; omega
end Go.Proofs.YtbkbecjgphjpkaaDoor
