/- Of the document's disk: Good, name, used, at, asked, On, Calls, New. -/
import Derived.Test.YtcdogciacchigabR1
namespace Go.Proofs.Ytcdogciacchigab
open Go.RowKit Go.Maps
set_option linter.unusedVariables false

set_option maxRecDepth 100000 in
set_option maxHeartbeats 1000000 in
theorem good67 (w : World) (q : Nat) (h0 : w.cell? ⟨q, 0, none⟩ = some (.bool true)) : Calls Try.prog 67 #[ptr q] w fun e w' => e = .returned (.bool true) ∧ w' = w := by
  unfold ptr at *
  go_enter Try.func67, Try.ntmps67
  go_wp2_with fail
  go_ret
  exact ⟨rfl, rfl⟩

section
variable {w : World} {q : Nat} {K : Nat → Prop} {fv av : Value} {s : St}
theorem Rp.good (h : Rp w q K fv av s) : Calls Try.prog 67 #[ptr q] w fun e w' => e = .returned (.bool true) ∧ w' = w := good67 w q h.c0
set_option maxRecDepth 100000 in
set_option maxHeartbeats 1000000 in
theorem on61 (h : Rk w q K s) : Calls Try.prog 61 #[ptr q] w fun e w' => e = .returned (.bool (!s.off)) ∧ w' = w := by
  obtain ⟨fv, av, h⟩ := h
  have hm := h.good
  have c4 := h.c4
  unfold ptr at *
  clear h
  go_enter Try.func61, Try.ntmps61
  go_wp2_with fail
  refine hm.mono ?_
  rintro e w' ⟨rfl, rfl⟩
  go_wp2_with fail
  go_ret
  exact ⟨rfl, rfl⟩
set_option maxRecDepth 100000 in
set_option maxHeartbeats 1000000 in
theorem calls60 (h : Rk w q K s) : Calls Try.prog 60 #[ptr q] w fun e w' => e = .returned (.int .i64 s.n) ∧ w' = w := by
  obtain ⟨fv, av, h⟩ := h
  have hm := h.good
  have c4 := h.c3
  unfold ptr at *
  clear h
  go_enter Try.func60, Try.ntmps60
  go_wp2_with fail
  refine hm.mono ?_
  rintro e w' ⟨rfl, rfl⟩
  go_wp2_with fail
  go_ret
  exact ⟨rfl, rfl⟩
end

set_option maxRecDepth 100000 in
set_option maxHeartbeats 2000000 in
theorem name79 (w : World) (s : Nm) (hs : s.length ≤ maxLen) : Calls Try.prog 79 #[strV s] w fun e w' => e = .returned (.bool (isNm s)) ∧ w' = w := by
  unfold strV
  have hsz := strSize s
  have hle : s.length ≤ 9223372036854775807 := by simp only [maxLen] at hs; omega
  by_cases h1 : s.length < 1
  · have e : isNm s = false := by simp [isNm]; omega
    rw [e]
    have : (s.length : Int) < 1 := by omega
    go_enter Try.func79, Try.ntmps79
    go_wp2_with fail
    go_ret
    exact ⟨rfl, rfl⟩
  by_cases h2 : 32 < s.length
  · have e : isNm s = false := by simp [isNm]; omega
    rw [e]
    have : ¬ (s.length : Int) < 1 := by omega
    have : (32 : Int) < (s.length : Int) := by omega
    go_enter Try.func79, Try.ntmps79
    go_wp2_with fail
    go_ret
    exact ⟨rfl, rfl⟩
  have i1 : ¬ (s.length : Int) < 1 := by omega
  have i2 : ¬ (32 : Int) < (s.length : Int) := by omega
  go_enter Try.func79, Try.ntmps79
  go_wp2_with fail
  go_loop [3] (fun x => ∃ k : Nat, k ≤ s.length ∧ x = .int .i64 k ∧ (s.take k).all nmByte = true) (fun x => s.length - (intOf x).toNat)
  case atStart => exact ⟨0, by omega, rfl, by simp⟩
  case round =>
    obtain ⟨k, hk, rfl, hall⟩ := hrel
    by_cases hkl : k < s.length
    · have i3 : (k : Int) < (s.length : Int) := by omega
      have hg : s[k]? = some s[k] := List.getElem?_eq_getElem hkl
      have hsame : ∀ h, (⟨s.toArray⟩ : ByteArray)[k]'h = s[k] := fun h => rfl
      obtain ⟨c, hc⟩ : ∃ c, c = s[k] := ⟨_, rfl⟩
      rw [← hc] at hg
      have HN : Shut (nmByte c = true → (s.take (k + 1)).all nmByte = true) := fun hb => by
        rw [List.take_add_one, hg]
        simp only [List.all_append, hall, Bool.true_and]
        simp [hb]
      have HB : Shut (nmByte c = false → isNm s = false) := fun hb => by
        simp only [isNm, Bool.and_eq_false_iff]
        right
        rw [Bool.eq_false_iff]
        intro q
        have := List.all_eq_true.1 q _ (List.getElem_mem hkl)
        rw [← hc, hb] at this
        cases this
      have hsame' : ∀ h, (⟨s.toArray⟩ : ByteArray)[k]'h = c := fun h => by rw [hc]; rfl
      have hnb : Shut (nmByte c = ((decide ((97 : Int) ≤ (c.toNat : Int)) && decide ((c.toNat : Int) ≤ 122)) || (decide ((48 : Int) ≤ (c.toNat : Int)) && decide ((c.toNat : Int) ≤ 57)) || decide ((c.toNat : Int) = 45) || decide ((c.toNat : Int) = 46))) := by
        show nmByte c = _
        simp only [nmByte]
        congr 1
        · congr 1
          · congr 1
            · congr 1 <;> exact decide_eq_decide.2 (by omega)
            · congr 1 <;> exact decide_eq_decide.2 (by omega)
          · exact decide_eq_decide.2 (by omega)
        · exact decide_eq_decide.2 (by omega)
      clear hall hg hsame hc
      by_cases h1 : (97 : Int) ≤ (c.toNat : Int) <;> by_cases h2 : (c.toNat : Int) ≤ 122 <;> by_cases h3 : (48 : Int) ≤ (c.toNat : Int) <;> by_cases h4 : (c.toNat : Int) ≤ 57 <;> by_cases h5 : (c.toNat : Int) = 45 <;> by_cases h6 : (c.toNat : Int) = 46 <;> (try omega)
      all_goals
        try have g5 : ((c.toNat : Int) != 45) = true := by simp [h5]
        try have g6 : ((c.toNat : Int) != 46) = true := by simp [h6]
        first
        | (have hbt : Shut (nmByte c = true) := (by show nmByte c = true; rw [hnb.out]; simp [h1, h2, h3, h4, h5, h6])
           go_wp2_with fail
           go_round
           case rel => exact ⟨k + 1, by omega, by go_num, HN.out hbt.out⟩
           case measure => simp [intOf]; omega)
        | (have hbt : Shut (nmByte c = false) := (by show nmByte c = false; rw [hnb.out]; simp [h1, h2, h3, h4, h5, h6])
           go_wp2_with fail
           go_ret
           exact ⟨by rw [HB.out hbt.out]; rfl, rfl⟩)
    · have hkn : k = s.length := by omega
      have e : isNm s = true := by
        rw [hkn, List.take_length] at hall
        simp only [isNm, Bool.and_eq_true, decide_eq_true_eq]
        exact ⟨⟨by omega, by omega⟩, hall⟩
      have HE : Hid (isNm s = true) := e
      clear e
      have i3 : ¬ (k : Int) < (s.length : Int) := by omega
      clear hall
      go_wp2_with fail
      go_ret
      exact ⟨by rw [HE.out]; rfl, rfl⟩

section
variable {w : World} {q : Nat} {K : Nat → Prop} {fv av : Value} {s : St}
set_option maxRecDepth 100000 in
set_option maxHeartbeats 1000000 in
theorem asked49 (h : Rk w q K s) (nm : Nm) (hn : nm.length ≤ maxLen) : Calls Try.prog 49 #[ptr q, strV nm] w fun e w' => e = .returned (.int .i64 (asked s nm)) ∧ w' = w := by
  obtain ⟨fv, av, h⟩ := h
  have hm := h.good
  have c4 := h.c4
  have hi := name79 w nm hn
  clear h
  unfold ptr strV asked at *
  cases ho : s.off with
  | true =>
    rw [ho] at c4
    go_enter Try.func49, Try.ntmps49
    go_wp2_with fail
    refine hm.mono ?_
    rintro e w' ⟨rfl, rfl⟩
    go_wp2_with fail
    go_ret
    exact ⟨rfl, rfl⟩
  | false =>
    rw [ho] at c4
    cases hb : isNm nm <;> rw [hb] at hi
    all_goals
      go_enter Try.func49, Try.ntmps49
      go_wp2_with fail
      refine hm.mono ?_
      rintro e w' ⟨rfl, rfl⟩
      go_wp2_with fail
      refine hi.mono ?_
      rintro e w' ⟨rfl, rfl⟩
      go_wp2_with fail
      go_ret
      exact ⟨rfl, rfl⟩

set_option maxRecDepth 100000 in
set_option maxHeartbeats 2000000 in
theorem at50 (h : Rp w q K fv av s) (nm : Nm) : Calls Try.prog 50 #[ptr q, strV nm] w fun e w' => e = .returned (.int .i64 (atI nm s.fs)) ∧ w' = w := by
  have c2 := h.c2
  obtain ⟨fa, fc, rfl, _, _⟩ := h.files.slice
  have hcount := h.inv.count
  have HF := shut h.files
  clear h
  unfold ptr strV at *
  go_enter Try.func50, Try.ntmps50
  go_wp2_with fail
  go_loop [5] (fun x => ∃ k : Nat, k ≤ s.fs.length ∧ x = .int .i64 k ∧ Shut (∀ j g, j < k → s.fs[j]? = some g → g.nm ≠ nm)) (fun x => s.fs.length - (intOf x).toNat)
  case atStart => exact ⟨0, by omega, rfl, fun j g hj => by omega⟩
  case round =>
    obtain ⟨k, hk, rfl, hall⟩ := hrel
    by_cases hkl : k < s.fs.length
    · have i3 : (k : Int) < (s.fs.length : Int) := by omega
      obtain ⟨f, hf⟩ : ∃ f, s.fs[k]? = some f := ⟨s.fs[k], List.getElem?_eq_getElem hkl⟩
      obtain ⟨g, c, xa, xc, e1, d0, d1, d2, hO, hR⟩ := HF.out.at k f hf
      have e1' : fa = some ⟨g, 0, none⟩ := by simp at e1; exact e1.1
      subst e1'
      unfold strV at d0
      clear e1 hO hR d1 d2
      by_cases hnm : f.nm = nm
      · have hb1 : (f.nm == nm) = true := by simp [hnm]
        have HE : Shut (atI nm s.fs = k) := atI_skip hf hnm hall.out
        rw [hnm] at d0
        clear hf hnm hb1
        go_wp2_with fail
        go_ret
        exact ⟨by rw [HE.out]; rfl, rfl⟩
      · have hb1 : (f.nm == nm) = false := by simp [hnm]
        have HE : Shut (∀ j g, j < k + 1 → s.fs[j]? = some g → g.nm ≠ nm) := fun j g hj hg => by
          by_cases hjk : j < k
          · exact hall.out j g hjk hg
          · have : j = k := by omega
            subst this
            rw [hf] at hg
            cases hg
            exact hnm
        clear hf
        go_wp2_with fail
        go_round
        case rel => exact ⟨k + 1, by omega, by go_num, HE⟩
        case measure => simp [intOf]; omega
    · have i3 : ¬ (k : Int) < (s.fs.length : Int) := by omega
      have HE : Shut (atI nm s.fs = -1) := atI_miss (fun j g hg => hall.out j g (by have := (List.getElem?_eq_some_iff.1 hg).1; omega) hg)
      go_wp2_with fail
      go_ret
      exact ⟨by rw [HE.out]; rfl, rfl⟩

set_option maxRecDepth 100000 in
set_option maxHeartbeats 2000000 in
theorem used51 (h : Rp w q K fv av s) : Calls Try.prog 51 #[ptr q] w fun e w' => e = .returned (.int .i64 (usedF s.fs)) ∧ w' = w := by
  have c2 := h.c2
  obtain ⟨fa, fc, rfl, _, _⟩ := h.files.slice
  have hcount := h.inv.count
  have hu : usedF s.fs ≤ 1073741824 := Nat.le_trans h.inv.used h.inv.lim.2
  have HF := shut h.files
  clear h
  unfold ptr at *
  go_enter Try.func51, Try.ntmps51
  go_wp2_with fail
  go_loop [3, 4] (fun y x => ∃ k : Nat, k ≤ s.fs.length ∧ x = .int .i64 k ∧ y = .int .i64 (usedF (s.fs.take k))) (fun _ x => s.fs.length - (intOf x).toNat)
  case atStart => exact ⟨0, by omega, rfl, rfl⟩
  case round =>
    obtain ⟨k, hk, rfl, rfl⟩ := hrel
    by_cases hkl : k < s.fs.length
    · have i3 : (k : Int) < (s.fs.length : Int) := by omega
      obtain ⟨f, hf⟩ : ∃ f, s.fs[k]? = some f := ⟨s.fs[k], List.getElem?_eq_getElem hkl⟩
      obtain ⟨g, c, xa, xc, e1, d0, d1, d2, hO, hR⟩ := HF.out.at k f hf
      have e1' : fa = some ⟨g, 0, none⟩ := by simp at e1; exact e1.1
      subst e1'
      have hut := used_take hf
      have hule := used_take_le s.fs (k + 1)
      have HU : Shut (usedF (s.fs.take (k + 1)) = usedF (s.fs.take k) + f.bs.length) := hut
      have hle : usedF (s.fs.take k) + f.bs.length ≤ 1073741824 := by omega
      clear e1 hO hR d0 d2 hut hule hf
      generalize usedF (s.fs.take k) = U at *
      go_wp2_with fail
      go_round
      case rel => exact ⟨k + 1, by omega, by go_num, by rw [HU.out]; go_num⟩
      case measure => simp [intOf]; omega
    · have i3 : ¬ (k : Int) < (s.fs.length : Int) := by omega
      rw [List.take_of_length_le (by omega)]
      go_wp2_with fail
      go_ret
      exact ⟨rfl, rfl⟩
end

/-- A disk of the document's that New or Mount made. -/
def Rmade (w : World) (e : Ending) (w' : World) (s : St) : Prop := ∃ q K, e = .returned (.tuple #[ptr q, .int .i64 0]) ∧ w.heap.size ≤ q ∧ Rk w' q K s ∧ From w no K ∧ Turn no w w'
set_option maxRecDepth 100000 in
set_option maxHeartbeats 1000000 in
theorem rnew19 (w : World) (lim : Nat) (h1 : 1 ≤ lim) (h2 : lim ≤ 1073741824) : Calls Try.prog 19 #[.int .i64 lim] w fun e w' => Rmade w e w' (newSt lim) := by
  have i1 : ¬ (lim : Int) < 1 := by omega
  have i2 : ¬ (1073741824 : Int) < (lim : Int) := by omega
  have T1 : Turn no w (w.alloc (.cells (rdC lim 0 (.slice none 0 0) (.slice none 0 0) false false) 93)) := (Turn.refl no w).alloc _
  have r0 : Row (w.alloc (.cells (rdC lim 0 (.slice none 0 0) (.slice none 0 0) false false) 93)) w.heap.size (rdC lim 0 (.slice none 0 0) (.slice none 0 0) false false) 93 := Row.new w _ 93
  have fin : Rmade w (.returned (.tuple #[ptr w.heap.size, .int .i64 0])) (w.alloc (.cells (rdC lim 0 (.slice none 0 0) (.slice none 0 0) false false) 93)) (newSt lim) := by
    refine ⟨w.heap.size, fun k => k = w.heap.size, rfl, Nat.le_refl _, ⟨_, _, ⟨?_, by simp [newSt], r0, rfl, fun k hk => by subst hk; simp, Fl.nil _ _, Al.nil _ _⟩⟩, fun k hk => Or.inr (by omega), T1⟩
    exact ⟨List.Pairwise.nil, fun f hf => (by cases hf), fun f hf => (by cases hf), Nat.zero_le _, ⟨h1, h2⟩, Nat.zero_le _, fun a ha => (by cases ha), fun _ => rfl⟩
  have FIN := shut fin
  clear fin r0 T1
  unfold rdC ptr at FIN
  go_enter Try.func19, Try.ntmps19
  go_wp2_with fail
  go_ret2
  exact FIN.out
set_option maxRecDepth 100000 in
set_option maxHeartbeats 1000000 in
theorem rnew19_no (w : World) (lim : Int) (h : lim < 1 ∨ 1073741824 < lim) : Calls Try.prog 19 #[.int .i64 lim] w fun e w' => e = .returned (.tuple #[.pointer none, .int .i64 2]) ∧ w' = w := by
  by_cases h1 : lim < 1
  · go_enter Try.func19, Try.ntmps19
    go_wp2_with fail
    go_ret2
    exact ⟨rfl, rfl⟩
  · have h2 : 1073741824 < lim := by omega
    go_enter Try.func19, Try.ntmps19
    go_wp2_with fail
    go_ret2
    exact ⟨rfl, rfl⟩
end Go.Proofs.Ytcdogciacchigab
