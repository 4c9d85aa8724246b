/- accountAt with the place; the places that are shown; two proofs held against each other. -/
import Derived.Test.YtaoigopjfelgpaaGreatDoorGa
import Derived.Test.YtaoigopjfelgpaaGreatDoorKa
namespace Go.Proofs.YtaoigopjfelgpaaGreatDoor
open Go.RowKit Go.Shelf Go.Lib Go.Sort
set_option linter.unusedVariables false

set_option maxRecDepth 100000 in
set_option maxHeartbeats 8000000 in
theorem at56 (w : World) (v : Value) (l : List Ac) (hv : As w v l) (hA : Asc l) (hl : l.length ≤ 65536) (a : Nat) : Calls Tryz.prog 28 #[v, .int .u64 a] w fun e w' => ∃ k : Nat, e = .returned (.tuple #[.int .i64 k, .bool (hasB l a)]) ∧ k ≤ l.length ∧ Parts l a k k ∧ Turn no w w' := by
  obtain ⟨ad, cap, rfl, h⟩ := hv
  have HC := shut h.cells
  obtain ⟨n, hn⟩ : ∃ n, Hid (l.length = n) := ⟨_, rfl⟩
  have hn' : l.length = n := hn.out
  rw [hn'] at hl ⊢
  clear hn'
  obtain ⟨W0, hW0⟩ : ∃ W0, (w.alloc (.cells #[.slice ad n cap] 22)).alloc (.cells #[.int .u64 a] 26) = W0 := ⟨_, rfl⟩
  have T0 : Turn no w W0 := by rw [← hW0]; exact ((Turn.refl no w).alloc _).alloc _
  have ca : W0.cell? ⟨w.heap.size, 0, none⟩ = some (.slice ad n cap) := by
    rw [← hW0]
    exact ((Turn.refl no _).alloc _).keep (cell_of_row _ _ 0 _ 22 (0, 0) (heap_alloc_new w _)) (fun q => q)
  have hs1 : (w.alloc (.cells #[.slice ad n cap] 22)).heap.size = w.heap.size + 1 := by simp
  have cx : W0.cell? ⟨w.heap.size + 1, 0, none⟩ = some (.int .u64 a) := by
    rw [← hW0, ← hs1]
    exact cell_of_row _ _ 0 _ 26 (0, 0) (heap_alloc_new _ _)
  have hsz : W0.heap.size = w.heap.size + 2 := by rw [← hW0]; simp
  have hmono : ∀ x y, x ≤ y → y < n → decide (a ≤ (l.getD x acZ).ad) = true → decide (a ≤ (l.getD y acZ).ad) = true := fun x y h1 h2 h3 => by
    simp only [decide_eq_true_eq] at h3 ⊢
    rcases Nat.lt_or_ge x y with q | q
    · have := hA.at q (List.getElem?_eq_getElem (show x < l.length by have := hn.out; omega)) (List.getElem?_eq_getElem (show y < l.length by have := hn.out; omega))
      simp only [List.getD_eq_getElem?_getD, List.getElem?_eq_getElem (show x < l.length by have := hn.out; omega), List.getElem?_eq_getElem (show y < l.length by have := hn.out; omega), Option.getD_some] at h3 ⊢
      omega
    · have : x = y := by omega
      rw [← this]; exact h3
  have eg : ∀ args w, (callFunc 57 args).run Tryz.prog w = .ok (.enter 57 args) w := enters_of Tryz.func57 (by kernel_rfl) rfl
  have hS := Any.sort_Search searchT 57 #[.pointer (some ⟨w.heap.size, 0, none⟩), .pointer (some ⟨w.heap.size + 1, 0, none⟩)] n (fun i => decide (a ≤ (l.getD i acZ).ad)) W0 eg (by omega)
    (fun m os i hi => by
      obtain ⟨x, hx⟩ : ∃ x, l[i]? = some x := ⟨l[i]'(by rw [hn.out]; exact hi), List.getElem?_eq_getElem _⟩
      obtain ⟨b, off, e, c0, _⟩ := HC.out i x hx
      subst e
      have hxd : (l.getD i acZ) = x := by simp [List.getD_eq_getElem?_getD, hx]
      rw [hxd]
      have hb : b < w.heap.size := by
        rcases Nat.lt_or_ge b w.heap.size with q | q
        · exact q
        · rw [show w.cell? ⟨b, off + i * 5, none⟩ = none by simp [World.cell?, Array.getElem?_eq_none q]] at c0
          cases c0
      have c1 := T0.keep c0 (fun q => q)
      refine (close55 _ w.heap.size (w.heap.size + 1) b off n cap i a x.ad hi (cell_grown (by show w.heap.size < W0.heap.size; omega) ca m os) (cell_grown (by show w.heap.size + 1 < W0.heap.size; omega) cx m os) (cell_grown (by show b < W0.heap.size; omega) c1 m os)).mono ?_
      rintro e w' ⟨he, q, hq⟩
      exact ⟨he, q, #[], by rw [hq, grow_empty]⟩) hmono
  change Calls Tryz.prog 26 _ _ _ at hS
  have hsp := count_split (fun i => decide (a ≤ (l.getD i acZ).ad)) n hmono
  generalize (List.range n).countP (fun i => !decide (a ≤ (l.getD i acZ).ad)) = c at *
  obtain ⟨hcn, hp1, hp2⟩ := hsp
  have HP : Shut (Parts l a c c) := ⟨fun i m hm q => by
    have := hp1 i q
    simp only [List.getD_eq_getElem?_getD, hm, Option.getD_some, decide_eq_false_iff_not] at this
    omega, fun i m hm q => by
    have := hp2 i q (by have := (List.getElem?_eq_some_iff.1 hm).1; have := hn.out; omega)
    simp only [List.getD_eq_getElem?_getD, hm, Option.getD_some, decide_eq_true_eq] at this
    exact this⟩
  have HE : Shut (hasB l a = (match l[c]? with | some m => decide (m.ad = a) | none => false)) := has_lo hA HP.out
  have HN : Shut (c ≤ n) := hcn
  have HT0 := shut T0
  have HCA := shut ca
  have HCX := shut cx
  clear hp1 hp2 hmono eg hsz hs1 h hA T0 cx
  generalize hasB l a = R at *
  go_enter Tryz.func28, Tryz.ntmps28
  go_upto_region 1 with fail
  try rw [hW0]
  clear hW0
  go_upto_region 2 with (go_at_call 26; refine hS.mono ?_; clear hS; rintro e w1 ⟨rfl, q, os, rfl⟩)
  obtain ⟨w1, hw1⟩ : ∃ w1, grow (W0.drewN q) os = w1 := ⟨_, rfl⟩
  have T1 : Turn no W0 w1 := Gw.turn ⟨q, os, hw1.symm⟩
  rw [hw1]
  clear hw1 ca
  have ca := T1.keep HCA.out (fun q => q)
  have cx := T1.keep HCX.out (fun q => q)
  have HTT := shut (HT0.out.then_no T1)
  by_cases hq : c < n
  · obtain ⟨m, hm⟩ : ∃ m, l[c]? = some m := ⟨l[c]'(by rw [hn.out]; exact hq), List.getElem?_eq_getElem _⟩
    obtain ⟨b, off, rfl, c0, _⟩ := HC.out c m hm
    have c0 := HTT.out.keep c0 (fun q => q)
    have hq' : (c : Int) < (n : Int) := by omega
    have HE2 : Shut (R = decide (m.ad = a)) := by have := HE.out; rw [hm] at this; exact this
    clear hm HE HC
    by_cases hc : m.ad = a
    · have hc' : ((m.ad : Int) == (a : Int)) = true := by simp; omega
      have HE3 : Shut (R = true) := by show _ = _; rw [HE2.out]; simp [hc]
      clear hc
      go_quiet (fail)
      go_wp2_with fail
      go_ret2
      exact ⟨c, by rw [HE3.out]; rfl, HN.out, HP.out, HTT.out.drewN _⟩
    · have hc' : ((m.ad : Int) == (a : Int)) = false := by simp; omega
      have HE3 : Shut (R = false) := by show _ = _; rw [HE2.out]; simp [hc]
      clear hc
      go_quiet (fail)
      go_wp2_with fail
      go_ret2
      exact ⟨c, by rw [HE3.out]; rfl, HN.out, HP.out, HTT.out.drewN _⟩
  · have hq' : ¬ (c : Int) < (n : Int) := by omega
    have HE3 : Shut (R = false) := by
      have := HE.out
      rw [List.getElem?_eq_none (by rw [hn.out]; omega)] at this
      exact this
    clear HE HC hq
    go_quiet (fail)
    go_wp2_with fail
    go_ret2
    exact ⟨c, by rw [HE3.out]; rfl, HN.out, HP.out, HTT.out.drewN _⟩

/-- The places of the accounts that are shown: a's own, or its neighbours'. -/
def shN (l : List Ac) (a c : Nat) : List Nat := if hasB l a = true then [c] else (if 0 < c then [c - 1] else []) ++ (if c < l.length then [c] else [])
def plC (l : List Nat) : List Value := l.map fun k : Nat => .int .i64 (k : Int)
theorem plC_append (l : List Nat) (x : Nat) : plC (l ++ [x]) = plC l ++ [.int .i64 (x : Int)] := by simp [plC]
theorem plC_len (l : List Nat) : (plC l).length = l.length := by simp [plC]
theorem bsl1 (w : World) (x : Int) : (Instr.buildSlice 89 1 #[(0, .int .i64 x)]).run Tryz.prog w = .ok (.slice (some ⟨w.heap.size, 0, none⟩) 1 1) (w.alloc (.cells #[.int .i64 x] 3)) := by kernel_rfl
theorem info3 : (Tryz.prog.info? 3).map (fun i => (i.zero, i.size, i.bytes)) = some (some (.int .i64 0), 1, 8) := by kernel_rfl
/-- A list of places in new memory. -/
def Pl (w : World) (l : List Nat) (v : Value) (w' : World) : Prop := OwnN w' 3 1 v l.length (plC l) ∧ (∀ g, v.ownBlock = some g → w.heap.size ≤ g) ∧ Turn no w w'
theorem pl_one (w W : World) (T : Turn no w W) (x : Nat) : Pl w [x] (.slice (some ⟨W.heap.size, 0, none⟩) 1 1) (W.alloc (.cells #[.int .i64 (x : Int)] 3)) := by
  refine ⟨⟨by simp [plC], .inr ⟨W.heap.size, 1, #[.int .i64 (x : Int)], rfl, Nat.zero_le _, heap_alloc_new W _, Nat.le_refl _, by simp [maxLen], rfl, rfl⟩⟩, ?_, T.alloc _⟩
  intro g hg
  cases hg
  exact T.size
theorem pl_app {w W : World} {v : Value} {l : List Nat} (h : Pl w l v W) (hl : l.length ≤ 4) (x : Nat) :
    ∃ v2 w2, (Builtin.append_ #[89, 89] 89 #[v, .slice (some ⟨W.heap.size, 0, none⟩) 1 1]).run Tryz.prog (W.alloc (.cells #[.int .i64 (x : Int)] 3)) = .ok v2 w2 ∧ Pl w (l ++ [x]) v2 w2 := by
  have TX : Turn no W (W.alloc (.cells #[.int .i64 (x : Int)] 3)) := (Turn.refl no W).alloc _
  obtain ⟨v2, w2, r2, O2, T2, g2, c2, e2, hc2, hg2⟩ := app_second Tryz.underlying89 info3 rfl (by decide) (h.2.2.then_no TX) (h.1.turn_no TX) h.2.1 (Row.new W #[.int .i64 (x : Int)] 3) rfl (by simp [Value.oneCell']) (by omega) (by simp only [maxLen]; omega)
  refine ⟨v2, w2, r2, ⟨?_, ?_, T2⟩⟩
  · have e : plC (l ++ [x]) = plC l ++ [.int .i64 (x : Int)] := plC_append l x
    rw [e, List.length_append]
    exact O2
  · intro g hg
    rw [e2] at hg
    cases hg
    exact hg2
theorem pl_nil {w W : World} (T : Turn no w W) : Pl w [] (.slice none 0 0) W := ⟨OwnN.nil W 3 1, (fun g hg => by cases hg), T⟩
set_option maxRecDepth 100000 in
set_option maxHeartbeats 8000000 in
theorem shown23 (w : World) (v : Value) (l : List Ac) (hv : As w v l) (hA : Asc l) (hl : l.length ≤ 65536) (a : Nat) : Calls Tryz.prog 44 #[v, .int .u64 a] w fun e w' => ∃ (c : Nat) (u : Value), e = .returned u ∧ c ≤ l.length ∧ Parts l a c c ∧ Pl w (shN l a c) u w' := by
  have hC := at56 w v l hv hA hl a
  obtain ⟨ad, cap, rfl, h⟩ := hv
  clear h
  obtain ⟨R, hR⟩ : ∃ R, Hid (hasB l a = R) := ⟨_, rfl⟩
  have hR' : hasB l a = R := hR.out
  rw [hR'] at hC
  go_enter Tryz.func44, Tryz.ntmps44
  go_upto_region 2 with (first | (go_at_call 28; refine hC.mono ?_; clear hC; rintro e w1 ⟨c, rfl, hcn, hP, hT⟩; have HP := shut hP; have HT := shut hT; have HN := shut hcn; clear hP hT hcn))
  have hN := HN.out
  cases hb : R with
  | true =>
    have hR2 := shut (hR'.trans hb)
    clear hR' hR
    subst hb
    go_wp2_with (first | (guard_target =~ wpList _ _ _ ({ dst := some 16, op := Op.buildSlice _ _ _, .. } :: _) _ _; refine wpList_bslice1 rfl 89 (.tmp 15) rfl _ rfl _ _ (bsl1 _ _) ?_))
    go_ret
    refine ⟨c, _, rfl, HN.out, HP.out, ?_⟩
    rw [show shN l a c = [c] by unfold shN; rw [if_pos hR2.out]]
    exact pl_one w _ HT.out c
  | false =>
    have hR2 := shut (hR'.trans hb)
    clear hR' hR
    subst hb
    have hS : Shut (shN l a c = (if 0 < c then [c - 1] else []) ++ (if c < l.length then [c] else [])) := by show _ = _; unfold shN; rw [if_neg (by rw [hR2.out]; decide)]
    by_cases h0 : 0 < c
    · have h0' : (0 : Int) < (c : Int) := by omega
      have ex : ((c - 1 : Nat) : Int) = (c : Int) - 1 := by omega
      obtain ⟨v2, w2, r1, I1⟩ := pl_app (pl_nil HT.out) (by simp) (c - 1)
      rw [ex] at r1
      by_cases h1 : c < l.length
      · have h1' : (c : Int) < (l.length : Int) := by omega
        obtain ⟨v3, w3, r2, I2⟩ := pl_app I1 (by simp) c
        have HF := shut I2
        have hS2 : Shut (shN l a c = [c - 1] ++ [c]) := by show _ = _; rw [hS.out, if_pos h0, if_pos h1]
        clear I1 I2 hS
        go_wp2_with (first | (guard_target =~ wpList _ _ _ ({ dst := some 22, op := Op.buildSlice _ _ _, .. } :: _) _ _; refine wpList_bslice1 rfl 89 (.tmp 21) rfl _ rfl _ _ (bsl1 _ _) ?_) | (guard_target =~ wpList _ _ _ ({ dst := some 23, op := Op.call _, .. } :: _) _ _; at_builtin; refine wpList_append_run rfl (.tmp 19) (.tmp 22) rfl _ _ rfl rfl r1 ?_) | (guard_target =~ wpList _ _ _ ({ dst := some 30, op := Op.buildSlice _ _ _, .. } :: _) _ _; refine wpList_bslice1 rfl 89 (.tmp 29) rfl _ rfl _ _ (bsl1 _ _) ?_) | (guard_target =~ wpList _ _ _ ({ dst := some 31, op := Op.call _, .. } :: _) _ _; at_builtin; refine wpList_append_run rfl (.tmp 28) (.tmp 30) rfl _ _ rfl rfl r2 ?_))
        go_ret
        exact ⟨c, _, rfl, HN.out, HP.out, by rw [hS2.out]; exact HF.out⟩
      · have h1' : ¬ (c : Int) < (l.length : Int) := by omega
        have HF := shut I1
        have hS2 : Shut (shN l a c = [c - 1]) := by show _ = _; rw [hS.out, if_pos h0, if_neg h1]; rfl
        clear I1 hS
        go_wp2_with (first | (guard_target =~ wpList _ _ _ ({ dst := some 22, op := Op.buildSlice _ _ _, .. } :: _) _ _; refine wpList_bslice1 rfl 89 (.tmp 21) rfl _ rfl _ _ (bsl1 _ _) ?_) | (guard_target =~ wpList _ _ _ ({ dst := some 23, op := Op.call _, .. } :: _) _ _; at_builtin; refine wpList_append_run rfl (.tmp 19) (.tmp 22) rfl _ _ rfl rfl r1 ?_))
        go_ret
        exact ⟨c, _, rfl, HN.out, HP.out, by rw [hS2.out]; exact HF.out⟩
    · have h0' : ¬ (0 : Int) < (c : Int) := by omega
      by_cases h1 : c < l.length
      · have h1' : (c : Int) < (l.length : Int) := by omega
        obtain ⟨v2, w2, r1, I1⟩ := pl_app (pl_nil HT.out) (by simp) c
        have HF := shut I1
        have hS2 : Shut (shN l a c = [c]) := by show _ = _; rw [hS.out, if_neg h0, if_pos h1]; rfl
        clear I1 hS
        go_wp2_with (first | (guard_target =~ wpList _ _ _ ({ dst := some 30, op := Op.buildSlice _ _ _, .. } :: _) _ _; refine wpList_bslice1 rfl 89 (.tmp 29) rfl _ rfl _ _ (bsl1 _ _) ?_) | (guard_target =~ wpList _ _ _ ({ dst := some 31, op := Op.call _, .. } :: _) _ _; at_builtin; refine wpList_append_run rfl (.tmp 28) (.tmp 30) rfl _ _ rfl rfl r1 ?_))
        go_ret
        exact ⟨c, _, rfl, HN.out, HP.out, by rw [hS2.out]; exact HF.out⟩
      · have h1' : ¬ (c : Int) < (l.length : Int) := by omega
        have HF := shut (pl_nil HT.out)
        have hS2 : Shut (shN l a c = []) := by show _ = _; rw [hS.out, if_neg h0, if_neg h1]; rfl
        clear hS
        go_wp2_with fail
        go_ret
        exact ⟨c, _, rfl, HN.out, HP.out, by rw [hS2.out]; exact HF.out⟩
end Go.Proofs.YtaoigopjfelgpaaGreatDoor

