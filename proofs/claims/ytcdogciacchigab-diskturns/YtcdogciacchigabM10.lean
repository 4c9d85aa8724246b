/- Replace, New, Arm, Read, Size. -/
import Derived.Test.YtcdogciacchigabM8
namespace Go.Proofs.Ytcdogciacchigab
open Go.RowKit Go.Maps
set_option linter.unusedVariables false
section
variable {w : World} {p : Nat} {K : Nat → Prop} {bf bt : Option Nat} {V : Nm → Value} {s : St}

theorem foundE_ok' {nm : Nm} (h : foundE s nm = 0) : s.off = false ∧ isNm nm = true ∧ ∃ f, getF nm s.fs = some f := by
  unfold foundE at h
  split at h
  · rename_i ha
    obtain ⟨a1, a2⟩ := asked_off ha
    refine ⟨a1, a2, ?_⟩
    cases hg : getF nm s.fs with
    | none => rw [hg] at h; cases h
    | some f => exact ⟨f, rfl⟩
  · rename_i ha
    exact (ha h).elim

set_option maxRecDepth 100000 in
set_option maxHeartbeats 4000000 in
theorem replace43 (hk : Dk w p K s) (hn : s.n < 4611686018427387904) (nm : Nm) (hnm : nm.length ≤ maxLen) (v : Value) (b : List UInt8) (hb : Bs w v b) (hvK : b ≠ [] → ∀ g, v.ownBlock = some g → ¬ K g) :
    Calls Try.prog 23 #[ptr p, strV nm, v] w (Ans w p K (replS s nm b)) := by
  have T1 : Turn no w (((w.alloc (.cells #[ptr p] 34)).alloc (.cells #[strV nm] 9)).alloc (.cells #[v] 28)) := (((Turn.refl no w).alloc _).alloc _).alloc _
  have r0 : Row (((w.alloc (.cells #[ptr p] 34)).alloc (.cells #[strV nm] 9)).alloc (.cells #[v] 28)) w.heap.size #[ptr p] 34 := ((Row.new w _ 34).alloc _).alloc _
  have r1 : Row (((w.alloc (.cells #[ptr p] 34)).alloc (.cells #[strV nm] 9)).alloc (.cells #[v] 28)) (w.heap.size + 1) #[strV nm] 9 := (Row.newAt _ _ 9 _ (by simp)).alloc _
  have r2 : Row (((w.alloc (.cells #[ptr p] 34)).alloc (.cells #[strV nm] 9)).alloc (.cells #[v] 28)) (w.heap.size + 1 + 1) #[v] 28 := Row.newAt _ _ 28 _ (by simp)
  have hk1 := hk.turn_no T1
  have hb1 := hb.turn_no T1
  have hr := ready32 hk1 nm hnm
  have hsz := T1.size
  obtain ⟨va, vc, hvs⟩ := hb.slice
  have c0 := r0.cell 0 _ rfl
  have c1 := r1.cell 0 _ rfl
  have c2 := r2.cell 0 _ rfl
  generalize hw1 : ((w.alloc (.cells #[ptr p] 34)).alloc (.cells #[strV nm] 9)).alloc (.cells #[v] 28) = w1 at *
  have hKlt : ∀ k, K k → k < w.heap.size := by
    obtain ⟨bf, bt, V, h⟩ := hk
    exact h.klt
  by_cases ha : asked s nm = 0
  · obtain ⟨a1, a2⟩ := asked_off ha
    obtain ⟨bf, bt, V, h1⟩ := hk1
    have ho := h1.inv.out a1
    obtain ⟨bb, D, rfl, kb, o, fm⟩ := h1.on_files ho
    obtain ⟨oa, ocap, om, hold⟩ := h1.oldV nm
    have hl := fun W (t : Turn no w1 W) => (files_look (ownsMap_turn o t (fun q => q)) fm nm hnm).2
    rw [hold] at hl
    have hf := fun W (t : Turn no w1 W) => fits33 (h1.turn t (fun _ _ q => q)) ho nm hnm ((b.length : Int) - (lenF nm s.fs : Int))
    have hLF := lenF_le nm s.fs
    have hLU := h1.inv.used
    have hLL := h1.inv.lim
    have hbm : b.length ≤ 9223372036854775807 := by have := hb.le; simp only [maxLen] at this; omega
    have ew : IntKind.i64.wrap ((b.length : Int) - (lenF nm s.fs : Int)) = (b.length : Int) - (lenF nm s.fs : Int) := wrap_i64 (by omega) (by omega)
    have cc : ∀ w2, Turn no w1 w2 → w2.cell? ⟨w.heap.size, 0, none⟩ = some (ptr p) ∧ w2.cell? ⟨w.heap.size + 1, 0, none⟩ = some (strV nm) ∧ w2.cell? ⟨w.heap.size + 1 + 1, 0, none⟩ = some v ∧ w2.cell? ⟨p, 2, none⟩ = some (.map (some bb)) := fun w2 t => ⟨(r0.turn t (fun q => q)).cell 0 _ rfl, (r1.turn t (fun q => q)).cell 0 _ rfl, (r2.turn t (fun q => q)).cell 0 _ rfl, (h1.row.turn t (fun q => q)).cell 2 _ rfl⟩
    rw [ha] at hr
    cases hfb : fitsB s nm ((b.length : Int) - (lenF nm s.fs : Int)) with
    | false =>
      have e : replS s nm b = (s, 62) := by simp [replS, ha, hfb]
      rw [e]
      rw [hfb] at hf
      have fin : ∀ w', Turn no w1 w' → Ans w p K (s, 62) (.returned (.int .i64 62)) w' := fun w' t => Ans.same (r := (s, 62)) hk (T1.then_no t)
      generalize lenF nm s.fs = LF at *
      clear h1 hk e hfb hb1 r0 r1 r2 o fm hold
      subst hvs
      unfold ptr strV at *
      go_enter Try.func23, Try.ntmps23
      go_wp2_with fail
      refine hr.mono ?_
      rintro e w' ⟨rfl, rfl⟩
      go_wp2_with fail
      refine wp_region_noPanic ?_
      refine wp_region_held_drew (S := fun W' => Turn no w' W') (by kernel_rfl) (Turn.refl _ w').drew (fun hHeld => ?_)
      refine' wpAnyH_take (i := 0) (v := .pointer (some ⟨p, 0, none⟩)) rfl (by kernel_rfl) (by kernel_rfl) (by kernel_rfl) (fun _ _ _ h => h) (Or.inl ⟨by kernel_rfl, fun W hW => ?y1⟩) hHeld ?r1
      · have c := (cc _ hW).1
        go_simp
      refine' wpAnyH_take (i := 1) (v := .string ⟨nm.toArray⟩) rfl (by kernel_rfl) (by kernel_rfl) (by kernel_rfl) (fun _ _ _ h => h) (Or.inl ⟨by kernel_rfl, fun W hW => ?y2⟩) hHeld ?r2
      · have c := (cc _ hW).2.1
        go_simp
      refine' wpAnyH_take (i := 2) (v := .slice va b.length vc) rfl (by kernel_rfl) (by kernel_rfl) (by kernel_rfl) (fun _ _ _ h => h) (Or.inl ⟨by kernel_rfl, fun W hW => ?y3⟩) hHeld ?r3
      · have c := (cc _ hW).2.2.1
        go_simp
      refine' wpAnyH_take (i := 3) (v := .int .i64 b.length) rfl (by kernel_rfl) (by kernel_rfl) (by kernel_rfl) (fun _ _ _ h => h) (Or.inl ⟨by kernel_rfl, fun W hW => ?y4⟩) hHeld ?r4
      · go_simp
      refine' wpAnyH_take (i := 4) (v := .pointer (some ⟨p, 0, none⟩)) rfl (by kernel_rfl) (by kernel_rfl) (by kernel_rfl) (fun _ _ _ h => h) (Or.inl ⟨by kernel_rfl, fun W hW => ?y5⟩) hHeld ?r5
      · have c := (cc _ hW).1
        go_simp
      refine' wpAnyH_take (i := 5) (v := .pointer (some ⟨p, 0, none⟩)) rfl (by kernel_rfl) (by kernel_rfl) (by kernel_rfl) (fun _ _ _ h => h) (Or.inl ⟨by kernel_rfl, fun W hW => ?y6⟩) hHeld ?r6
      · go_simp
      refine' wpAnyH_take (i := 6) (v := .pointer (some ⟨p, 2, none⟩)) rfl (by kernel_rfl) (by kernel_rfl) (by kernel_rfl) (fun _ _ _ h => h) (Or.inl ⟨by kernel_rfl, fun W hW => ?y7⟩) hHeld ?r7
      · go_simp
      refine' wpAnyH_take (i := 7) (v := .map (some bb)) rfl (by kernel_rfl) (by kernel_rfl) (by kernel_rfl) (fun _ _ _ h => h) (Or.inl ⟨by kernel_rfl, fun W hW => ?y8⟩) hHeld ?r8
      · have c := (cc _ hW).2.2.2
        go_simp
      refine' wpAnyH_take (i := 8) (v := .string ⟨nm.toArray⟩) rfl (by kernel_rfl) (by kernel_rfl) (by kernel_rfl) (fun _ _ _ h => h) (Or.inl ⟨by kernel_rfl, fun W hW => ?y9⟩) hHeld ?r9
      · have c := (cc _ hW).2.1
        go_simp
      refine' wpAnyH_take (i := 9) (v := .agg #[.slice oa LF ocap, .int .i64 om]) rfl (by kernel_rfl) (by kernel_rfl) (by kernel_rfl) (fun _ _ _ h => h) (Or.inl ⟨by kernel_rfl, fun W hW => ?y10⟩) hHeld ?r10
      · have c := hl _ hW
        go_simp
      refine' wpAnyH_take (i := 10) (v := .slice oa LF ocap) rfl (by kernel_rfl) (by kernel_rfl) (by kernel_rfl) (fun _ _ _ h => h) (Or.inl ⟨by kernel_rfl, fun W hW => ?y11⟩) hHeld ?r11
      · have c := field86 oa LF ocap om W
        go_simp
      refine' wpAnyH_take (i := 11) (v := .int .i64 LF) rfl (by kernel_rfl) (by kernel_rfl) (by kernel_rfl) (fun _ _ _ h => h) (Or.inl ⟨by kernel_rfl, fun W hW => ?y12⟩) hHeld ?r12
      · go_simp
      refine' wpAnyH_take (i := 12) (v := .int .i64 ((b.length : Int) - (LF : Int))) rfl (by kernel_rfl) (by kernel_rfl) (by kernel_rfl) (fun _ _ _ h => h) (Or.inl ⟨by kernel_rfl, fun W hW => ?y13⟩) hHeld ?r13
      · go_simp
      refine wpAnyH_ready (rs := [13]) (by kernel_rfl) (by simp) ?_
      refine AllReadyH.cons rfl (fun K hK => ?_) AllReadyH.nil
      go_simp
      refine (hf _ hHeld).mono ?_
      rintro e w2 ⟨rfl, t2⟩
      have t2' := hHeld.then_no t2
      go_wp2_with fail
      refine hK.out _ _ t2' (fun hHeld => ?_)
      clear hK
      refine' wpAnyH_take (i := 14) (v := .bool true) rfl (by kernel_rfl) (by kernel_rfl) (by kernel_rfl) (fun _ _ _ h => h) (Or.inl ⟨by kernel_rfl, fun W hW => ?y14⟩) hHeld ?r14
      · go_simp
      refine wpAnyH_done (by kernel_rfl) ?_ _
      refine NoPanic.normal ?_
      go_wp2_with fail
      go_ret
      exact fin _ hHeld
    | true =>
      have e : replS s nm b = numb s (putF ⟨nm, b, b.length⟩ s.fs) := by simp [replS, ha, hfb]
      rw [e]
      have hinv : Inv { s with fs := putF ⟨nm, b, b.length⟩ s.fs } := by
        simp only [fitsB, Bool.and_eq_true, Bool.or_eq_true, decide_eq_true_eq] at hfb
        refine h1.inv.put _ a2 (Nat.le_refl _) ?_ hfb.2
        simp only
        omega
      have hbl : b.length ≤ 140737488355328 := by
        simp only [fitsB, Bool.and_eq_true, Bool.or_eq_true, decide_eq_true_eq] at hfb
        omega
      rw [hfb] at hf
      have hnum : ∀ w2, Turn no w1 w2 → Calls Try.prog 46 #[ptr p, .func (.func 54) #[] #[ptr w.heap.size, ptr (w.heap.size + 1), ptr (w.heap.size + 1 + 1)]] w2 (fun e w' => Ans w p K (numb s (putF ⟨nm, b, b.length⟩ s.fs)) e w') := fun w2 t => by
        have h2 := h1.turn t (fun _ _ q => q)
        refine (numbered_54 h2 a1 hn _ _ w.heap.size (does54 w.heap.size _ _ _ (Nat.le_trans hsz t.size) h2 a1 nm v b (hb1.turn_no t) hbl hvK (r0.turn t (fun q => q)) (r1.turn t (fun q => q)) (r2.turn t (fun q => q)) hinv)).mono ?_
        intro e w' hh
        exact Ans.numb (T1.then_no t) hh
      generalize lenF nm s.fs = LF at *
      clear h1 hk e hfb hb1 r0 r1 r2 hinv o fm hold
      subst hvs
      unfold ptr strV at *
      go_enter Try.func23, Try.ntmps23
      go_wp2_with fail
      refine hr.mono ?_
      rintro e w' ⟨rfl, rfl⟩
      go_wp2_with fail
      refine wp_region_noPanic ?_
      refine wp_region_held_drew (S := fun W' => Turn no w' W') (by kernel_rfl) (Turn.refl _ w').drew (fun hHeld => ?_)
      refine' wpAnyH_take (i := 0) (v := .pointer (some ⟨p, 0, none⟩)) rfl (by kernel_rfl) (by kernel_rfl) (by kernel_rfl) (fun _ _ _ h => h) (Or.inl ⟨by kernel_rfl, fun W hW => ?y15⟩) hHeld ?r15
      · have c := (cc _ hW).1
        go_simp
      refine' wpAnyH_take (i := 1) (v := .string ⟨nm.toArray⟩) rfl (by kernel_rfl) (by kernel_rfl) (by kernel_rfl) (fun _ _ _ h => h) (Or.inl ⟨by kernel_rfl, fun W hW => ?y16⟩) hHeld ?r16
      · have c := (cc _ hW).2.1
        go_simp
      refine' wpAnyH_take (i := 2) (v := .slice va b.length vc) rfl (by kernel_rfl) (by kernel_rfl) (by kernel_rfl) (fun _ _ _ h => h) (Or.inl ⟨by kernel_rfl, fun W hW => ?y17⟩) hHeld ?r17
      · have c := (cc _ hW).2.2.1
        go_simp
      refine' wpAnyH_take (i := 3) (v := .int .i64 b.length) rfl (by kernel_rfl) (by kernel_rfl) (by kernel_rfl) (fun _ _ _ h => h) (Or.inl ⟨by kernel_rfl, fun W hW => ?y18⟩) hHeld ?r18
      · go_simp
      refine' wpAnyH_take (i := 4) (v := .pointer (some ⟨p, 0, none⟩)) rfl (by kernel_rfl) (by kernel_rfl) (by kernel_rfl) (fun _ _ _ h => h) (Or.inl ⟨by kernel_rfl, fun W hW => ?y19⟩) hHeld ?r19
      · have c := (cc _ hW).1
        go_simp
      refine' wpAnyH_take (i := 5) (v := .pointer (some ⟨p, 0, none⟩)) rfl (by kernel_rfl) (by kernel_rfl) (by kernel_rfl) (fun _ _ _ h => h) (Or.inl ⟨by kernel_rfl, fun W hW => ?y20⟩) hHeld ?r20
      · go_simp
      refine' wpAnyH_take (i := 6) (v := .pointer (some ⟨p, 2, none⟩)) rfl (by kernel_rfl) (by kernel_rfl) (by kernel_rfl) (fun _ _ _ h => h) (Or.inl ⟨by kernel_rfl, fun W hW => ?y21⟩) hHeld ?r21
      · go_simp
      refine' wpAnyH_take (i := 7) (v := .map (some bb)) rfl (by kernel_rfl) (by kernel_rfl) (by kernel_rfl) (fun _ _ _ h => h) (Or.inl ⟨by kernel_rfl, fun W hW => ?y22⟩) hHeld ?r22
      · have c := (cc _ hW).2.2.2
        go_simp
      refine' wpAnyH_take (i := 8) (v := .string ⟨nm.toArray⟩) rfl (by kernel_rfl) (by kernel_rfl) (by kernel_rfl) (fun _ _ _ h => h) (Or.inl ⟨by kernel_rfl, fun W hW => ?y23⟩) hHeld ?r23
      · have c := (cc _ hW).2.1
        go_simp
      refine' wpAnyH_take (i := 9) (v := .agg #[.slice oa LF ocap, .int .i64 om]) rfl (by kernel_rfl) (by kernel_rfl) (by kernel_rfl) (fun _ _ _ h => h) (Or.inl ⟨by kernel_rfl, fun W hW => ?y24⟩) hHeld ?r24
      · have c := hl _ hW
        go_simp
      refine' wpAnyH_take (i := 10) (v := .slice oa LF ocap) rfl (by kernel_rfl) (by kernel_rfl) (by kernel_rfl) (fun _ _ _ h => h) (Or.inl ⟨by kernel_rfl, fun W hW => ?y25⟩) hHeld ?r25
      · have c := field86 oa LF ocap om W
        go_simp
      refine' wpAnyH_take (i := 11) (v := .int .i64 LF) rfl (by kernel_rfl) (by kernel_rfl) (by kernel_rfl) (fun _ _ _ h => h) (Or.inl ⟨by kernel_rfl, fun W hW => ?y26⟩) hHeld ?r26
      · go_simp
      refine' wpAnyH_take (i := 12) (v := .int .i64 ((b.length : Int) - (LF : Int))) rfl (by kernel_rfl) (by kernel_rfl) (by kernel_rfl) (fun _ _ _ h => h) (Or.inl ⟨by kernel_rfl, fun W hW => ?y27⟩) hHeld ?r27
      · go_simp
      refine wpAnyH_ready (rs := [13]) (by kernel_rfl) (by simp) ?_
      refine AllReadyH.cons rfl (fun K hK => ?_) AllReadyH.nil
      go_simp
      refine (hf _ hHeld).mono ?_
      rintro e w2 ⟨rfl, t2⟩
      have t2' := hHeld.then_no t2
      go_wp2_with fail
      refine hK.out _ _ t2' (fun hHeld => ?_)
      clear hK
      refine' wpAnyH_take (i := 14) (v := .bool false) rfl (by kernel_rfl) (by kernel_rfl) (by kernel_rfl) (fun _ _ _ h => h) (Or.inl ⟨by kernel_rfl, fun W hW => ?y28⟩) hHeld ?r28
      · go_simp
      refine wpAnyH_done (by kernel_rfl) ?_ _
      refine NoPanic.normal ?_
      have cp := (cc _ hHeld).1
      have hnum2 := hnum _ hHeld
      go_wp2_with fail
      refine hnum2.mono ?_
      rintro e w3 hA
      obtain ⟨rfl, hA⟩ := hA
      go_wp2_with fail
      go_ret
      exact ⟨rfl, hA⟩
  · have e : replS s nm b = (s, asked s nm) := by simp [replS, ha]
    rw [e]
    have ha' : (asked s nm != 0) = true := by simpa using ha
    have fin : Ans w p K (s, asked s nm) (.returned (.int .i64 (asked s nm))) w1 := Ans.same (r := (s, asked s nm)) hk T1
    generalize asked s nm = E at *
    clear hk1 hk e ha hb1 r0 r1 r2
    subst hvs
    unfold ptr strV at *
    go_enter Try.func23, Try.ntmps23
    go_wp2_with fail
    refine hr.mono ?_
    rintro e w' ⟨rfl, rfl⟩
    go_wp2_with fail
    go_ret
    exact fin

/-- What Read answers. -/
def readS (s : St) (nm : Nm) : List UInt8 := if foundE s nm = 0 then (fileOf s.fs nm).bs else []
set_option maxRecDepth 100000 in
set_option maxHeartbeats 4000000 in
theorem read20 (hk : Dk w p K s) (nm : Nm) (hnm : nm.length ≤ maxLen) :
    Calls Try.prog 31 #[ptr p, strV nm] w fun e w' => ∃ v, e = .returned (.tuple #[v, .int .i64 (foundE s nm)]) ∧ Own w' 5 v ((readS s nm).map bv) ∧ (∀ g, v.ownBlock = some g → w.heap.size ≤ g) ∧ Turn no w w' := by
  obtain ⟨bf, bt, V, h⟩ := hk
  have hf := find46 h h.inv.out nm hnm
  by_cases ha : foundE s nm = 0
  · obtain ⟨a1, a2, f, hg⟩ := foundE_ok' ha
    obtain ⟨hf1, hf2⟩ := getF_mem hg
    have e : readS s nm = f.bs := by simp [readS, ha, fileOf, hg]
    rw [e]
    rw [ha, if_pos rfl] at hf
    rw [ha]
    have e2 : foundV V s nm = fileV (V nm) f.sy := by simp [foundV, stood, hg]
    rw [e2] at hf
    have hO := h.bytes f hf1
    rw [hf2] at hO
    have hlen : f.bs.length ≤ 1073741824 := by
      have h1 := lenF_le nm s.fs
      have h2 := h.inv.used
      have h3 := h.inv.lim
      have : lenF nm s.fs = f.bs.length := by simp [lenF, hg]
      omega
    have hcp := fun W (t : Turn no w W) => copied47 W _ _ (hO.turn_no t).bs (by omega)
    obtain ⟨oa, on, oc, hsl⟩ := hO.slice
    rw [hsl] at hf hcp
    clear h e e2 hO
    unfold ptr strV fileV at *
    go_enter Try.func31, Try.ntmps31
    go_wp2_with fail
    refine hf.mono ?_
    rintro e w2 ⟨rfl, t2⟩
    have t3 := t2.alloc (.cells #[.slice oa on oc, .int .i64 f.sy] 97)
    have hcp2 := hcp _ t3
    have hs2 := t2.size
    go_wp2_with fail
    refine hcp2.mono ?_
    rintro e w3 ⟨v', rfl, hO', hB', t4⟩
    go_wp2_with fail
    go_ret2
    refine ⟨v', rfl, hO', fun g hg => ?_, t3.then_no t4⟩
    rw [hB'] at hg
    cases hg
    simp
    omega
  · rw [if_neg ha] at hf
    have e : readS s nm = [] := by simp [readS, ha]
    rw [e]
    have ha' : (foundE s nm != 0) = true := by simpa using ha
    generalize foundE s nm = E at *
    clear h ha e
    unfold ptr strV zfile at *
    go_enter Try.func31, Try.ntmps31
    go_wp2_with fail
    refine hf.mono ?_
    rintro e w' ⟨rfl, t2⟩
    go_wp2_with fail
    go_ret2
    exact ⟨.slice none 0 0, rfl, Own.nil _ 5, (fun g hg => by cases hg), t2.alloc _⟩

/-- What Size answers. -/
def sizeS (s : St) (nm : Nm) : Nat × Nat := if foundE s nm = 0 then ((fileOf s.fs nm).bs.length, (fileOf s.fs nm).sy) else (0, 0)
set_option maxRecDepth 100000 in
set_option maxHeartbeats 4000000 in
theorem size40 (hk : Dk w p K s) (nm : Nm) (hnm : nm.length ≤ maxLen) :
    Calls Try.prog 58 #[ptr p, strV nm] w fun e w' => e = .returned (.tuple #[.int .i64 (sizeS s nm).1, .int .i64 (sizeS s nm).2, .int .i64 (foundE s nm)]) ∧ Turn no w w' := by
  obtain ⟨bf, bt, V, h⟩ := hk
  have hf := find46 h h.inv.out nm hnm
  by_cases ha : foundE s nm = 0
  · obtain ⟨a1, a2, f, hg⟩ := foundE_ok' ha
    obtain ⟨hf1, hf2⟩ := getF_mem hg
    have e : sizeS s nm = (f.bs.length, f.sy) := by simp [sizeS, ha, fileOf, hg]
    rw [e]
    rw [ha, if_pos rfl] at hf
    rw [ha]
    have e2 : foundV V s nm = fileV (V nm) f.sy := by simp [foundV, stood, hg]
    rw [e2] at hf
    have hO := h.bytes f hf1
    rw [hf2] at hO
    obtain ⟨oa, oc, hsl⟩ : ∃ oa oc, V nm = .slice oa f.bs.length oc := by
      rcases hO.shape with ⟨e, q⟩ | ⟨g, cap, cur, e, _⟩
      · exact ⟨none, 0, by have := List.map_eq_nil_iff.1 q; rw [e, this]; rfl⟩
      · exact ⟨_, _, by simpa using e⟩
    rw [hsl] at hf
    clear h e e2 hO
    unfold ptr strV fileV at *
    go_enter Try.func58, Try.ntmps58
    go_wp2_with fail
    refine hf.mono ?_
    rintro e w2 ⟨rfl, t2⟩
    have t3 := t2.alloc (.cells #[.slice oa f.bs.length oc, .int .i64 f.sy] 97)
    go_wp2_with fail
    go_quiet (fail)
    go_wp2_with fail
    refine ⟨rfl, _, results_tmp3 rfl _ _ _, rfl, t3.drewN _⟩
  · rw [if_neg ha] at hf
    have e : sizeS s nm = (0, 0) := by simp [sizeS, ha]
    rw [e]
    have ha' : (foundE s nm != 0) = true := by simpa using ha
    generalize foundE s nm = E at *
    clear h ha e
    unfold ptr strV zfile at *
    go_enter Try.func58, Try.ntmps58
    go_wp2_with fail
    refine hf.mono ?_
    rintro e w' ⟨rfl, t2⟩
    go_wp2_with fail
    refine ⟨rfl, _, results_tmp3 rfl _ _ _, rfl, t2.alloc _⟩

end
end Go.Proofs.Ytcdogciacchigab
