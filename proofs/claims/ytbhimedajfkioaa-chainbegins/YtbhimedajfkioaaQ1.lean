/- num, ownCouncil, sameCouncil, markedCouncil. -/
import Derived.Test.YtbhimedajfkioaaQ0
namespace Go.Proofs.Ytbhimedajfkioaa
open Go.RowKit
set_option linter.unusedVariables false

theorem num9 (w : World) (e : Int) : Calls Try.prog 9 #[.int .i64 e] w fun x w' => x = .returned (.int .i64 e) ∧ Turn no w w' := by
  go_enter Try.func9, Try.ntmps9
  go_wp2_with fail
  go_ret
  exact ⟨rfl, Turn.refl _ _⟩

def flat (l : List Mb) : List Value := l.flatMap mbC
theorem flat_len (l : List Mb) : (flat l).length = l.length * 3 := by
  induction l with
  | nil => rfl
  | cons m r ih => simp [flat, mbC] at ih ⊢; omega
theorem flat_one (l : List Mb) : ∀ u ∈ flat l, u.oneCell' = true := by
  intro u hu
  obtain ⟨m, _, hu⟩ := List.mem_flatMap.1 hu
  simp [mbC] at hu
  rcases hu with rfl | rfl | rfl <;> rfl
theorem flat_get (l : List Mb) (j : Nat) (m : Mb) (h : l[j]? = some m) : (flat l)[j * 3]? = some (.int .u64 m.ad) ∧ (flat l)[j * 3 + 1]? = some (.int .u64 m.pw) ∧ (flat l)[j * 3 + 2]? = some (.int .i64 m.pr) := by
  induction l generalizing j with
  | nil => simp at h
  | cons x r ih =>
    cases j with
    | zero =>
      simp at h
      subst h
      simp [flat, mbC]
    | succ j =>
      have := ih j (by simpa using h)
      rw [show (j + 1) * 3 = j * 3 + 1 + 1 + 1 by omega]
      simpa [flat, mbC] using this
theorem flat_inv (l : List Mb) (j : Nat) (u : Value) (h : (flat l)[j]? = some u) : ∃ i m, l[i]? = some m ∧ ((j = i * 3 ∧ u = .int .u64 m.ad) ∨ (j = i * 3 + 1 ∧ u = .int .u64 m.pw) ∨ (j = i * 3 + 2 ∧ u = .int .i64 m.pr)) := by
  induction l generalizing j with
  | nil => simp [flat] at h
  | cons x r ih =>
    match j with
    | 0 => exact ⟨0, x, rfl, .inl ⟨rfl, by simpa [flat, mbC] using h.symm⟩⟩
    | 1 => exact ⟨0, x, rfl, .inr (.inl ⟨rfl, by simpa [flat, mbC] using h.symm⟩)⟩
    | 2 => exact ⟨0, x, rfl, .inr (.inr ⟨rfl, by simpa [flat, mbC] using h.symm⟩)⟩
    | j + 3 =>
      obtain ⟨i, m, h1, h2⟩ := ih j (by simpa [flat, mbC] using h)
      refine ⟨i + 1, m, by simpa using h1, ?_⟩
      rcases h2 with ⟨q, r⟩ | ⟨q, r⟩ | ⟨q, r⟩
      · exact .inl ⟨by omega, r⟩
      · exact .inr (.inl ⟨by omega, r⟩)
      · exact .inr (.inr ⟨by omega, r⟩)
theorem flat_append (a b : List Mb) : flat (a ++ b) = flat a ++ flat b := by simp [flat]
theorem MsAt.src {w : World} {a : Option Addr} {cap : Nat} {l : List Mb} (h : MsAt w a cap l) : Src Try.prog 3 22 (.slice a l.length cap) l.length (flat l) w := by
  cases a with
  | none =>
    have : l = [] := by
      cases l with
      | nil => rfl
      | cons m r =>
        obtain ⟨b, off, e, _⟩ := h.cells 0 m rfl
        cases e
    subst this
    exact Src.ofNil w Try.underlying22 cap
  | some a =>
    refine Src.ofSlice w Try.underlying22 a l.length cap (flat l) (flat_len l) (fun j u hu => ?_) (flat_one l)
    obtain ⟨i, m, hm, q⟩ := flat_inv l j u hu
    obtain ⟨b, off, e, c0, c1, c2⟩ := h.cells i m hm
    cases e
    rw [Addr.add_lit]
    rcases q with ⟨rfl, rfl⟩ | ⟨rfl, rfl⟩ | ⟨rfl, rfl⟩
    · exact c0
    · rw [← Nat.add_assoc]; exact c1
    · rw [← Nat.add_assoc]; exact c2
theorem info71 : (Try.prog.info? 71).map (fun i => (i.zero, i.size, i.bytes)) = some (some (.agg #[.int .u64 0, .int .u64 0, .int .i64 0]), 3, 24) := by kernel_rfl
/-- The member behind a list. -/
def mb71 : Mb := ⟨71, 72, 0⟩
theorem mb71_ok : mb71.ok := by simp [mb71, Mb.ok]
theorem src_mb71 (w : World) : Src Try.prog 3 22 (.slice (some ⟨w.heap.size, 0, none⟩) 1 1) 1 (flat [mb71]) (w.alloc (.cells #[.int .u64 71, .int .u64 72, .int .i64 0] 71)) := by
  refine Src.ofSlice _ Try.underlying22 _ _ _ _ (flat_len [mb71]) (fun j u hu => ?_) (flat_one [mb71])
  rw [Addr.add_lit, cell_of_row _ w.heap.size (0 + j) _ 71 (0, 0) (heap_alloc_new w _)]
  rw [Nat.zero_add]
  simpa [flat, mb71, mbC] using hu
/-- An owned row of members, as a list of members. -/
theorem OwnN.msAt {w : World} {v : Value} {n : Nat} {l : List Mb} (h : OwnN w 71 3 v n (flat l)) (hn : n = l.length) (h0 : 0 < n) (hok : ∀ m ∈ l, m.ok) : ∃ g cap, v = .slice (some ⟨g, 0, none⟩) n cap ∧ MsAt w (some ⟨g, 0, none⟩) cap l := by
  obtain ⟨a, cap, rfl, ha, h1, h2, h3⟩ := h.form
  rcases h.2 with ⟨_, q⟩ | ⟨g, cap', cur, e, _⟩
  · omega
  · cases e
    refine ⟨g, cap, rfl, by omega, h3, hok, fun j m hj => ⟨g, 0, rfl, ?_⟩⟩
    obtain ⟨f0, f1, f2⟩ := flat_get l j m hj
    have r := fun i v hi => World.ownsRow.cells h (g := g) rfl i v hi
    have r0 := r _ _ f0
    have r1 := r _ _ f1
    have r2 := r _ _ f2
    rw [Addr.add_lit] at r0 r1 r2
    exact ⟨r0, by rw [Nat.add_assoc]; exact r1, by rw [Nat.add_assoc]; exact r2⟩

set_option maxRecDepth 100000 in
set_option maxHeartbeats 2000000 in
theorem own5 (w : World) (v : Value) (l : List Mb) (h : Ms w v l) (hb : l.length * 24 ≤ 140737488351232) : Calls Try.prog 5 #[.agg #[v]] w fun e w' =>
    ∃ g cap, e = .returned (.agg #[.slice (some ⟨g, 0, none⟩) l.length cap]) ∧ MsAt w' (some ⟨g, 0, none⟩) cap (l ++ [mb71]) ∧ Turn no w w' := by
  obtain ⟨ad, cp, rfl, h⟩ := h
  have hok := h.ok
  have hS := fun W (T : Turn no w W) => (h.turn_no T).src
  clear h
  obtain ⟨n, hn⟩ : ∃ n, Hid (l.length = n) := ⟨_, rfl⟩
  have hn' : l.length = n := hn.out
  rw [hn'] at hS hb ⊢
  clear hn'
  go_enter Try.func5, Try.ntmps5
  have TB : Turn no w ((w.alloc (.cells #[.slice ad n cp] 24)).alloc (.cells #[.slice none 0 0] 24)) := ((Turn.refl no w).alloc _).alloc _
  have RB : Row ((w.alloc (.cells #[.slice ad n cp] 24)).alloc (.cells #[.slice none 0 0] 24)) w.heap.size #[.slice ad n cp] 24 := (Row.new w _ 24).alloc _
  go_upto_region 1 with fail
  generalize hwB : (w.alloc (.cells #[.slice ad n cp] 24)).alloc (.cells #[.slice none 0 0] 24) = wB at *
  have RC : Row wB (w.heap.size + 1) #[.slice none 0 0] 24 := by rw [← hwB]; exact Row.newAt _ _ _ _ (by simp)
  have hm : n + 1 ≤ maxLen := by simp only [maxLen]; omega
  have hbb : (n + 1) * 24 ≤ 140737488355328 := by omega
  have TA : Turn no wB (wB.alloc (.cells #[] 71)) := (Turn.refl no wB).alloc _
  obtain ⟨v1, w1, r1, O1, f1, T1, _, a1, c1, rfl⟩ := app_first Try.underlying22 info71 rfl (by decide) TA (own_empty wB 71 3) (fun g q => by cases q; exact Nat.le_refl _) (hS _ (TB.then_no TA)) hbb hm
  have TX : Turn no w1 (w1.alloc (.cells #[.int .u64 71, .int .u64 72, .int .i64 0] 71)) := (Turn.refl no w1).alloc _
  obtain ⟨v2, w2, r2, O2, T2, g2, c2, rfl, hc2, hg2⟩ := app_second Try.underlying22 info71 rfl (by decide) (T1.then_no TX) (O1.turn_no TX) f1 (Row.new w1 #[.int .u64 71, .int .u64 72, .int .i64 0] 71) rfl (flat_one [mb71]) hbb hm
  have O2' : OwnN w2 71 3 (.slice (some ⟨g2, 0, none⟩) (n + 1) c2) (n + 1) (flat (l ++ [mb71])) := by rw [flat_append]; exact O2
  obtain ⟨g3, c3, e3, HM⟩ := O2'.msAt (by simp [hn.out]) (by omega) (fun m hm => (List.mem_append.1 hm).elim (hok m) (fun q => by rw [List.mem_singleton.1 q]; exact mb71_ok))
  cases e3
  have HM := shut HM
  have HT2 := shut T2
  have HTB := shut TB
  have HG2 : Shut (¬ g2 = w.heap.size + 1) := fun q => by have := RC.lt; omega
  have HRC := shut (RC.turn T2 (fun q => q))
  have b0 := (RB.alloc (.cells #[] 71)).cell 0 _ rfl
  have b2 := (RB.turn T2 (fun q => q)).cell 0 _ rfl
  have d2 := HRC.out.cell 0 _ rfl
  have d3 := HRC.out.frozen 0
  have hc3 : n ≤ c2 := by omega
  have hcm : c2 ≤ 9223372036854775807 := by have := HM.out.cap; simp only [maxLen] at this; omega
  clear O1 O2 O2' f1 T1 TX TA T2 TB RB RC hok hS hwB hbb hm
  go_wp2_with (first | (at_builtin; refine wpList_append_run rfl (.tmp 4) (.tmp 6) rfl _ _ rfl rfl r1 ?_; clear r1) | (at_builtin; refine wpList_append_run rfl (.tmp 7) (.tmp 9) rfl _ _ rfl rfl r2 ?_; clear r2))
  have TS : Turn (fun k => k = w.heap.size + 1) w2 (w2.setCell ⟨w.heap.size + 1, 0, none⟩ (.slice (some ⟨g2, 0, none⟩) n c2)) := (Turn.refl (fun k => k = w.heap.size + 1) w2).setCell (p := ⟨w.heap.size + 1, 0, none⟩) (fun _ => rfl) _
  refine ⟨rfl, _, results_cell_row (g := w.heap.size + 1) (cs := #[.slice (some ⟨g2, 0, none⟩) n c2]) (t := 24) rfl _ _ _ _ rfl (HRC.out.set 0 _) Try.underlying24 rfl (by kernel_rfl), g2, c2, rfl, HM.out.turn TS (fun x q e => HG2.out ?_), (HTB.out.then_no HT2.out).trans TS (fun i hi q => by omega)⟩
  cases q
  exact e

set_option maxRecDepth 100000 in
set_option maxHeartbeats 2000000 in
theorem same10 (w : World) (v u : Value) (l : List Mb) (h : Ms w v l) (h' : Ms w u l) : Calls Try.prog 10 #[.agg #[v], .agg #[u]] w fun e w' => e = .returned (.bool true) ∧ Turn no w w' := by
  obtain ⟨ad, cap, rfl, h⟩ := h
  obtain ⟨ad', cap', rfl, h'⟩ := h'
  have hcells := h.cells
  have hcells' := h'.cells
  have hle : l.length ≤ 9223372036854775807 := by have := h.le; have := h.cap; simp only [maxLen] at this; omega
  clear h h'
  obtain ⟨n, hn⟩ : ∃ n, Hid (l.length = n) := ⟨_, rfl⟩
  have hn' : l.length = n := hn.out
  rw [hn'] at hle ⊢
  clear hn'
  obtain ⟨w0, hw0⟩ : ∃ w0, (w.alloc (.cells #[.slice ad n cap] 24)).alloc (.cells #[.slice ad' n cap'] 24) = w0 := ⟨_, rfl⟩
  have T0 : Turn no w w0 := by rw [← hw0]; exact ((Turn.refl no w).alloc _).alloc _
  have B0 : Row w0 w.heap.size #[.slice ad n cap] 24 := by rw [← hw0]; exact (Row.new w _ 24).alloc _
  have B1 : Row w0 (w.heap.size + 1) #[.slice ad' n cap'] 24 := by rw [← hw0]; exact Row.newAt _ _ _ _ (by simp)
  have y0 := B0.cell 0 _ rfl
  have y1 := B1.cell 0 _ rfl
  have HY : Shut (∀ W, Turn no w0 W → W.cell? ⟨w.heap.size, 0, none⟩ = some (.slice ad n cap) ∧ W.cell? ⟨w.heap.size + 1, 0, none⟩ = some (.slice ad' n cap')) := fun W t => ⟨t.keep y0 (fun q => q), t.keep y1 (fun q => q)⟩
  have HT0 := shut T0
  have hEq : ((n : Int) != (n : Int)) = false := by simp
  clear B0 B1 T0 y0 y1
  have y := HY.out w0 (Turn.refl no w0)
  obtain ⟨y0, y1⟩ := y
  go_enter Try.func10, Try.ntmps10
  go_upto_region 1 with fail
  try rw [hw0]
  go_wp2_with fail
  clear y0 y1 hw0 hEq
  go_loopw [5] (fun c wr => ∃ k : Nat, k ≤ n ∧ c = .int .i64 k ∧ Turn no w0 wr) (fun c _ => n - (intOf c).toNat)
  case atStart => exact ⟨0, by omega, rfl, Turn.refl _ _⟩
  case round =>
    obtain ⟨k, hk, rfl, T⟩ := hrel
    obtain ⟨y0, y1⟩ := HY.out wr T
    by_cases hlt : k < n
    · obtain ⟨m, hm⟩ : ∃ m, l[k]? = some m := ⟨l[k]'(by rw [hn.out]; exact hlt), List.getElem?_eq_getElem _⟩
      obtain ⟨b, off, rfl, c0, c1, c2⟩ := hcells k m hm
      obtain ⟨b', off', rfl, d0, d1, d2⟩ := hcells' k m hm
      have TT := HT0.out.then_no T
      have c0 := TT.keep c0 (fun q => q)
      have c1 := TT.keep c1 (fun q => q)
      have c2 := TT.keep c2 (fun q => q)
      have d0 := TT.keep d0 (fun q => q)
      have d1 := TT.keep d1 (fun q => q)
      have d2 := TT.keep d2 (fun q => q)
      have hlt' : (k : Int) < (n : Int) := by omega
      clear hcells hcells' hm TT
      go_wp2_with fail
      go_quiet (fail)
      go_wp2_with fail
      go_roundw
      case rel => exact ⟨k + 1, by omega, by go_num, T.drewN _⟩
      case measure => simp [intOf]; omega
    · have hkn : k = n := by omega
      subst hkn
      have hlt' : ¬ (k : Int) < (k : Int) := by omega
      go_wp2_with fail
      go_ret
      exact ⟨rfl, HT0.out.then_no T⟩

set_option maxRecDepth 100000 in
set_option maxHeartbeats 2000000 in
theorem marked12 (w : World) (g cap : Nat) (l : List Mb) (h : MsAt w (some ⟨g, 0, none⟩) cap (l ++ [mb71])) : Calls Try.prog 12 #[.agg #[.slice (some ⟨g, 0, none⟩) l.length cap]] w fun e w' => e = .returned (.bool true) ∧ Turn no w w' := by
  have hle := h.le
  have hcap := h.cap
  rw [List.length_append, List.length_singleton] at hle
  obtain ⟨b, off, e, c0, c1, c2⟩ := h.cells l.length mb71 (by rw [List.getElem?_append_right (by omega)]; simp)
  cases e
  have T0 : Turn no w (w.alloc (.cells #[.slice (some ⟨g, 0, none⟩) l.length cap] 24)) := (Turn.refl no w).alloc _
  have c0 := T0.keep c0 (fun q => q)
  have c1 := T0.keep c1 (fun q => q)
  have c2 := T0.keep c2 (fun q => q)
  have y0 := (Row.new w #[.slice (some ⟨g, 0, none⟩) l.length cap] 24).cell 0 _ rfl
  simp only [Nat.zero_add, mb71] at c0 c1 c2
  simp only [maxLen] at hcap
  clear h
  generalize l.length = n at *
  have h1 : (cap : Int) > (n : Int) := by omega
  have h1' : (n : Int) < (cap : Int) := by omega
  go_enter Try.func12, Try.ntmps12
  go_wp2_with fail
  go_ret
  exact ⟨rfl, T0⟩
end Go.Proofs.Ytbhimedajfkioaa
