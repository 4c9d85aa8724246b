/- Sync, Remove, Cut, Replace. -/
import Derived.Test.YtcdogciacchigabM8
namespace Go.Proofs.Ytcdogciacchigab
open Go.RowKit Go.Maps
set_option linter.unusedVariables false
section
variable {w : World} {p : Nat} {K : Nat → Prop} {bf bt : Option Nat} {V : Nm → Value} {s : St}

theorem foundE_ok {nm : Nm} (h : foundE s nm = 0) : s.off = false ∧ isNm nm = true ∧ ∃ f, getF nm s.fs = some f := by
  unfold foundE at h
  split at h
  · rename_i ha
    obtain ⟨a1, a2⟩ := asked_off ha
    refine ⟨a1, a2, ?_⟩
    cases hg : getF nm s.fs with
    | none => rw [hg] at h; cases h
    | some f => exact ⟨f, rfl⟩
  · rename_i ha
    exact (ha h).elim

set_option maxRecDepth 100000 in
set_option maxHeartbeats 4000000 in
theorem sync42 (hk : Dk w p K s) (hn : s.n < 4611686018427387904) (nm : Nm) (hnm : nm.length ≤ maxLen) :
    Calls Try.prog 38 #[ptr p, strV nm] w (Ans w p K (syncS s nm)) := by
  have T1 : Turn no w ((w.alloc (.cells #[ptr p] 34)).alloc (.cells #[strV nm] 9)) := ((Turn.refl no w).alloc _).alloc _
  have r0 : Row ((w.alloc (.cells #[ptr p] 34)).alloc (.cells #[strV nm] 9)) w.heap.size #[ptr p] 34 := (Row.new w _ 34).alloc _
  have r1 : Row ((w.alloc (.cells #[ptr p] 34)).alloc (.cells #[strV nm] 9)) (w.heap.size + 1) #[strV nm] 9 := Row.newAt _ _ 9 _ (by simp)
  have hsz := T1.size
  have c0 := r0.cell 0 _ rfl
  have c1 := r1.cell 0 _ rfl
  generalize hw1 : (w.alloc (.cells #[ptr p] 34)).alloc (.cells #[strV nm] 9) = w1 at *
  obtain ⟨bf, bt, V, h⟩ := id hk
  have hKlt := h.klt
  have h1 := h.turn T1 (fun _ _ q => q)
  have hf := find46 h1 h.inv.out nm hnm
  by_cases ha : foundE s nm = 0
  · obtain ⟨a1, a2, f, hg⟩ := foundE_ok ha
    obtain ⟨hf1, hf2⟩ := getF_mem hg
    have e : syncS s nm = numb s (putF ⟨nm, f.bs, f.bs.length⟩ s.fs) := by simp [syncS, ha, fileOf, hg]
    rw [e]
    rw [ha, if_pos rfl] at hf
    have e2 : foundV V s nm = fileV (V nm) f.sy := by simp [foundV, stood, hg]
    rw [e2] at hf
    have hinv : Inv { s with fs := putF ⟨nm, f.bs, f.bs.length⟩ s.fs } := by
      refine h.inv.put _ a2 (Nat.le_refl _) ?_ (Or.inl (by simp [hg]))
      have : lenF nm s.fs = f.bs.length := by simp [lenF, hg]
      have := h.inv.used
      simp only
      omega
    have hnum : ∀ w2, Turn no w1 w2 → Calls Try.prog 46 #[ptr p, .func (.func 74) #[] #[ptr w2.heap.size, ptr w.heap.size, ptr (w.heap.size + 1)]] (w2.alloc (.cells #[V nm, .int .i64 f.sy] 97)) (fun e w' => Ans w p K (numb s (putF ⟨nm, f.bs, f.bs.length⟩ s.fs)) e w') := fun w2 t => by
      have t' : Turn no w1 (w2.alloc (.cells #[V nm, .int .i64 f.sy] 97)) := t.alloc _
      have h2 := h1.turn t' (fun _ _ q => q)
      have hB : w.heap.size ≤ w2.heap.size := Nat.le_trans hsz t.size
      refine (numbered_53 h2 a1 hn _ _ w.heap.size (does53 w.heap.size _ _ _ hB h2 a1 nm f hg (r0.turn t' (fun q => q)) (r1.turn t' (fun q => q)) (Row.new w2 _ 97) (fun q => by have := hKlt _ q; omega) hinv)).mono ?_
      intro e w' hh
      exact Ans.numb (T1.then_no t') hh
    have cc : ∀ w2 o, Turn no w1 w2 → (w2.alloc o).cell? ⟨w.heap.size, 0, none⟩ = some (ptr p) := fun w2 o t => (r0.turn (t.alloc o) (fun q => q)).cell 0 _ rfl
    obtain ⟨oa, on, oc, hsl⟩ := (h.bytes f hf1).slice
    rw [hf2] at hsl
    rw [hsl] at hf hnum
    clear h h1 hk e e2 r0 r1 hinv
    unfold ptr strV fileV at *
    go_enter Try.func38, Try.ntmps38
    go_wp2_with fail
    refine hf.mono ?_
    rintro e w2 ⟨rfl, t2⟩
    have hnum2 := hnum _ t2
    have cp := cc _ (.cells #[.slice oa on oc, .int .i64 f.sy] 97) t2
    go_wp2_with fail
    refine hnum2.mono ?_
    rintro e w3 hA
    obtain ⟨rfl, hA⟩ := hA
    go_wp2_with fail
    go_ret
    exact ⟨rfl, hA⟩
  · have e : syncS s nm = (s, foundE s nm) := by simp [syncS, ha]
    rw [e]
    rw [if_neg ha] at hf
    have ha' : (foundE s nm != 0) = true := by simpa using ha
    have fin : ∀ w' o, Turn no w1 w' → Ans w p K (s, foundE s nm) (.returned (.int .i64 (foundE s nm))) (w'.alloc o) := fun w' o t => Ans.same (r := (s, foundE s nm)) hk (T1.then_no (t.alloc o))
    generalize foundE s nm = E at *
    clear h h1 hk e ha r0 r1
    unfold ptr strV zfile at *
    go_enter Try.func38, Try.ntmps38
    go_wp2_with fail
    refine hf.mono ?_
    rintro e w' ⟨rfl, t2⟩
    go_wp2_with fail
    go_ret
    exact fin _ _ t2

set_option maxRecDepth 100000 in
set_option maxHeartbeats 4000000 in
theorem remove45 (hk : Dk w p K s) (hn : s.n < 4611686018427387904) (nm : Nm) (hnm : nm.length ≤ maxLen) :
    Calls Try.prog 40 #[ptr p, strV nm] w (Ans w p K (remS s nm)) := by
  have T1 : Turn no w ((w.alloc (.cells #[ptr p] 34)).alloc (.cells #[strV nm] 9)) := ((Turn.refl no w).alloc _).alloc _
  have r0 : Row ((w.alloc (.cells #[ptr p] 34)).alloc (.cells #[strV nm] 9)) w.heap.size #[ptr p] 34 := (Row.new w _ 34).alloc _
  have r1 : Row ((w.alloc (.cells #[ptr p] 34)).alloc (.cells #[strV nm] 9)) (w.heap.size + 1) #[strV nm] 9 := Row.newAt _ _ 9 _ (by simp)
  have hsz := T1.size
  have c0 := r0.cell 0 _ rfl
  have c1 := r1.cell 0 _ rfl
  generalize hw1 : (w.alloc (.cells #[ptr p] 34)).alloc (.cells #[strV nm] 9) = w1 at *
  obtain ⟨bf, bt, V, h⟩ := id hk
  have hKlt := h.klt
  have h1 := h.turn T1 (fun _ _ q => q)
  have hf := find46 h1 h.inv.out nm hnm
  by_cases ha : foundE s nm = 0
  · obtain ⟨a1, a2, f, hg⟩ := foundE_ok ha
    obtain ⟨hf1, hf2⟩ := getF_mem hg
    have e : remS s nm = numb s (dropF nm s.fs) := by simp [remS, ha]
    rw [e]
    rw [ha, if_pos rfl] at hf
    have e2 : foundV V s nm = fileV (V nm) f.sy := by simp [foundV, stood, hg]
    rw [e2] at hf
    have hnum : ∀ w2 o, Turn no w1 w2 → Calls Try.prog 46 #[ptr p, .func (.func 76) #[] #[ptr w.heap.size, ptr (w.heap.size + 1)]] (w2.alloc o) (fun e w' => Ans w p K (numb s (dropF nm s.fs)) e w') := fun w2 o t => by
      have t' : Turn no w1 (w2.alloc o) := t.alloc _
      have h2 := h1.turn t' (fun _ _ q => q)
      have hB : w.heap.size ≤ (w2.alloc o).heap.size := Nat.le_trans hsz t'.size
      refine (numbered_56 h2 a1 hn _ _ w.heap.size (does56 w.heap.size _ _ hB h2 a1 nm hnm (by rw [hg]; simp) (r0.turn t' (fun q => q)) (r1.turn t' (fun q => q)))).mono ?_
      intro e w' hh
      exact Ans.numb (T1.then_no t') hh
    have cc : ∀ w2 o, Turn no w1 w2 → (w2.alloc o).cell? ⟨w.heap.size, 0, none⟩ = some (ptr p) := fun w2 o t => (r0.turn (t.alloc o) (fun q => q)).cell 0 _ rfl
    obtain ⟨oa, on, oc, hsl⟩ := (h.bytes f hf1).slice
    rw [hf2] at hsl
    rw [hsl] at hf
    clear h h1 hk e e2 r0 r1
    unfold ptr strV fileV at *
    go_enter Try.func40, Try.ntmps40
    go_wp2_with fail
    refine hf.mono ?_
    rintro e w2 ⟨rfl, t2⟩
    have hnum2 := hnum _ (.cells #[.slice oa on oc, .int .i64 f.sy] 97) t2
    have cp := cc _ (.cells #[.slice oa on oc, .int .i64 f.sy] 97) t2
    go_wp2_with fail
    refine hnum2.mono ?_
    rintro e w3 hA
    obtain ⟨rfl, hA⟩ := hA
    go_wp2_with fail
    go_ret
    exact ⟨rfl, hA⟩
  · have e : remS s nm = (s, foundE s nm) := by simp [remS, ha]
    rw [e]
    rw [if_neg ha] at hf
    have ha' : (foundE s nm != 0) = true := by simpa using ha
    have fin : ∀ w' o, Turn no w1 w' → Ans w p K (s, foundE s nm) (.returned (.int .i64 (foundE s nm))) (w'.alloc o) := fun w' o t => Ans.same (r := (s, foundE s nm)) hk (T1.then_no (t.alloc o))
    generalize foundE s nm = E at *
    clear h h1 hk e ha r0 r1
    unfold ptr strV zfile at *
    go_enter Try.func40, Try.ntmps40
    go_wp2_with fail
    refine hf.mono ?_
    rintro e w' ⟨rfl, t2⟩
    go_wp2_with fail
    go_ret
    exact fin _ _ t2

set_option maxRecDepth 100000 in
set_option maxHeartbeats 4000000 in
theorem cut44 (hk : Dk w p K s) (hn : s.n < 4611686018427387904) (nm : Nm) (hnm : nm.length ≤ maxLen) (n : Int) :
    Calls Try.prog 39 #[ptr p, strV nm, .int .i64 n] w (Ans w p K (cutS s nm n)) := by
  have T1 : Turn no w (((w.alloc (.cells #[ptr p] 34)).alloc (.cells #[strV nm] 9)).alloc (.cells #[.int .i64 n] 3)) := (((Turn.refl no w).alloc _).alloc _).alloc _
  have r0 : Row (((w.alloc (.cells #[ptr p] 34)).alloc (.cells #[strV nm] 9)).alloc (.cells #[.int .i64 n] 3)) w.heap.size #[ptr p] 34 := ((Row.new w _ 34).alloc _).alloc _
  have r1 : Row (((w.alloc (.cells #[ptr p] 34)).alloc (.cells #[strV nm] 9)).alloc (.cells #[.int .i64 n] 3)) (w.heap.size + 1) #[strV nm] 9 := (Row.newAt _ _ 9 _ (by simp)).alloc _
  have r2 : Row (((w.alloc (.cells #[ptr p] 34)).alloc (.cells #[strV nm] 9)).alloc (.cells #[.int .i64 n] 3)) (w.heap.size + 1 + 1) #[.int .i64 n] 3 := Row.newAt _ _ 3 _ (by simp)
  have hsz := T1.size
  have c0 := r0.cell 0 _ rfl
  have c1 := r1.cell 0 _ rfl
  generalize hw1 : ((w.alloc (.cells #[ptr p] 34)).alloc (.cells #[strV nm] 9)).alloc (.cells #[.int .i64 n] 3) = w1 at *
  obtain ⟨bf, bt, V, h⟩ := id hk
  have hKlt := h.klt
  have h1 := h.turn T1 (fun _ _ q => q)
  have hf := find46 h1 h.inv.out nm hnm
  by_cases ha : foundE s nm = 0
  · obtain ⟨a1, a2, f, hg⟩ := foundE_ok ha
    obtain ⟨hf1, hf2⟩ := getF_mem hg
    have hlen : lenF nm s.fs = f.bs.length := by simp [lenF, hg]
    rw [ha, if_pos rfl] at hf
    have e2 : foundV V s nm = fileV (V nm) f.sy := by simp [foundV, stood, hg]
    rw [e2] at hf
    obtain ⟨oa, oc, hsl⟩ : ∃ oa oc, V nm = .slice oa f.bs.length oc := by
      have := h.bytes f hf1
      rw [hf2] at this
      rcases this.shape with ⟨e, q⟩ | ⟨g, cap, cur, e, _⟩
      · exact ⟨none, 0, by have := List.map_eq_nil_iff.1 q; rw [e, this]; rfl⟩
      · exact ⟨_, _, by simpa using e⟩
    have cc : ∀ w2 o, Turn no w1 w2 → (w2.alloc o).cell? ⟨w.heap.size, 0, none⟩ = some (ptr p) ∧ (w2.alloc o).cell? ⟨w.heap.size + 1 + 1, 0, none⟩ = some (.int .i64 n) := fun w2 o t => ⟨(r0.turn (t.alloc o) (fun q => q)).cell 0 _ rfl, (r2.turn (t.alloc o) (fun q => q)).cell 0 _ rfl⟩
    by_cases hbad : n < 0 ∨ (f.bs.length : Int) < n
    · have e : cutS s nm n = (s, 2) := by simp only [cutS, ha, hlen]; simp [hbad]
      rw [e]
      have fin : ∀ w' o, Turn no w1 w' → Ans w p K (s, 2) (.returned (.int .i64 2)) (w'.alloc o) := fun w' o t => Ans.same (r := (s, 2)) hk (T1.then_no (t.alloc o))
      rw [hsl] at hf
      obtain ⟨A, hA⟩ : ∃ A, decide (n < 0) = A := ⟨_, rfl⟩
      obtain ⟨C, hC⟩ : ∃ C, decide ((f.bs.length : Int) < n) = C := ⟨_, rfl⟩
      have hAC : A = true ∨ C = true := by
        rcases hbad with q | q
        · left; rw [← hA]; simpa using q
        · right; rw [← hC]; simpa using q
      clear h h1 hk e e2 r0 r1 r2 hbad hsl
      unfold ptr strV fileV at *
      have hA' : (n < 0) = (A = true) := by rw [← hA]; simp
      cases A <;> cases C
      · rcases hAC with q | q <;> cases q
      all_goals
        go_enter Try.func39, Try.ntmps39
        go_wp2_with fail
        refine hf.mono ?_
        rintro e w2 ⟨rfl, t2⟩
        obtain ⟨cp, cn⟩ := cc _ (.cells #[.slice oa f.bs.length oc, .int .i64 f.sy] 97) t2
        go_wp2_with fail
        go_ret
        exact fin _ _ t2
    · have hm : (n.toNat : Int) = n := by omega
      have hml : n.toNat ≤ f.bs.length := by omega
      have e : cutS s nm n = numb s (putF ⟨nm, f.bs.take n.toNat, n.toNat⟩ s.fs) := by simp only [cutS, ha, hlen, fileOf, hg]; simp [hbad]
      rw [e]
      have hinv : Inv { s with fs := putF ⟨nm, f.bs.take n.toNat, n.toNat⟩ s.fs } := by
        refine h.inv.put _ a2 (by simp; omega) ?_ (Or.inl (by simp [hg]))
        have := h.inv.used
        simp only [List.length_take]
        omega
      generalize hN : n.toNat = N at *
      have hnn : n = (N : Int) := hm.symm
      subst hnn
      have hnum : ∀ w2, Turn no w1 w2 → Calls Try.prog 46 #[ptr p, .func (.func 75) #[] #[ptr w.heap.size, ptr (w.heap.size + 1), ptr w2.heap.size, ptr (w.heap.size + 1 + 1)]] (w2.alloc (.cells #[V nm, .int .i64 f.sy] 97)) (fun e w' => Ans w p K (numb s (putF ⟨nm, f.bs.take N, N⟩ s.fs)) e w') := fun w2 t => by
        have t' : Turn no w1 (w2.alloc (.cells #[V nm, .int .i64 f.sy] 97)) := t.alloc _
        have h2 := h1.turn t' (fun _ _ q => q)
        have hB : w.heap.size ≤ (w2.alloc (.cells #[V nm, .int .i64 f.sy] 97)).heap.size := Nat.le_trans hsz t'.size
        refine (numbered_55 h2 a1 hn _ _ w.heap.size (does55 w.heap.size _ _ _ _ hB h2 a1 nm f hg N hml (r0.turn t' (fun q => q)) (r1.turn t' (fun q => q)) (Row.new w2 _ 97) (r2.turn t' (fun q => q)) hinv)).mono ?_
        intro e w' hh
        exact Ans.numb (T1.then_no t') hh
      rw [hsl] at hf hnum
      have i0 : ¬ (N : Int) < 0 := by omega
      have i1 : ¬ (f.bs.length : Int) < (N : Int) := by omega
      clear h h1 hk e e2 r0 r1 r2 hbad hsl hinv hN hm
      unfold ptr strV fileV at *
      go_enter Try.func39, Try.ntmps39
      go_wp2_with fail
      refine hf.mono ?_
      rintro e w2 ⟨rfl, t2⟩
      obtain ⟨cp, cn⟩ := cc _ (.cells #[.slice oa f.bs.length oc, .int .i64 f.sy] 97) t2
      have hnum2 := hnum _ t2
      go_wp2_with fail
      refine hnum2.mono ?_
      rintro e w3 hA
      obtain ⟨rfl, hA⟩ := hA
      go_wp2_with fail
      go_ret
      exact ⟨rfl, hA⟩
  · have e : cutS s nm n = (s, foundE s nm) := by simp [cutS, ha]
    rw [e]
    rw [if_neg ha] at hf
    have ha' : (foundE s nm != 0) = true := by simpa using ha
    have fin : ∀ w' o, Turn no w1 w' → Ans w p K (s, foundE s nm) (.returned (.int .i64 (foundE s nm))) (w'.alloc o) := fun w' o t => Ans.same (r := (s, foundE s nm)) hk (T1.then_no (t.alloc o))
    generalize foundE s nm = E at *
    clear h h1 hk e ha r0 r1
    unfold ptr strV zfile at *
    go_enter Try.func39, Try.ntmps39
    go_wp2_with fail
    refine hf.mono ?_
    rintro e w' ⟨rfl, t2⟩
    go_wp2_with fail
    go_ret
    exact fin _ _ t2
end
end Go.Proofs.Ytcdogciacchigab
