/- MisdeedPairs: the walk. -/
import Derived.Test.YtdgfkaoohfdmfaaV6
import Derived.Test.YtdgfkaoohfdmfaaV7
namespace Go.Proofs.Ytdgfkaoohfdmfaa
open Go.RowKit
set_option linter.unusedVariables false

theorem ltB_not : ∀ (X Y : List UInt8), X.length = Y.length → X ≠ Y → ltB X Y = !ltB Y X
  | [], [], _, h => absurd rfl h
  | [], _ :: _, h, _ => by simp at h
  | _ :: _, [], h, _ => by simp at h
  | a :: X, b :: Y, h, hne => by
    unfold ltB
    by_cases e : a = b
    · subst e
      simp only [if_true]
      exact ltB_not X Y (by simpa using h) (fun q => hne (by rw [q]))
    · have e' : ¬ b = a := fun q => e q.symm
      rw [if_neg e, if_neg e']
      have hn : a.toNat ≠ b.toNat := fun q => e (UInt8.toNat_inj.1 q)
      by_cases hl : a.toNat < b.toNat
      · have : ¬ b.toNat < a.toNat := by omega
        simp [hl, this]
      · have : b.toNat < a.toNat := by omega
        simp [hl, this]
theorem pair_zero {a b : Vt} (h : pairE a b = 0) : plainE a = 0 ∧ plainE b = 0 ∧ conB a b = true := by
  by_cases h1 : plainE a = 0
  · by_cases h2 : plainE b = 0
    · refine ⟨h1, h2, ?_⟩
      cases hc : conB a b
      · rw [(pairE_c h1 h2 hc).1] at h
        cases h
      · rfl
    · rw [(pairE_b h1 h2).1] at h
      exact absurd h h2
  · rw [(pairE_a h1).1] at h
    exact absurd h h1
theorem con_swap {a b : Vt} (h : conB a b = true) : conB b a = true := by
  simp only [conB, Bool.and_eq_true, Bool.not_eq_true', beq_iff_eq, beq_eq_false_iff_ne] at h ⊢
  obtain ⟨⟨⟨⟨h1, h2⟩, h3⟩, h4⟩, h5⟩ := h
  exact ⟨⟨⟨⟨h1.symm, h2.symm⟩, h3.symm⟩, h4.symm⟩, fun q => h5 q.symm⟩
theorem pair_swap {a b : Vt} (ha : a.ok) (hb : b.ok) (h : pairE a b = 0) : pairC a b = pairC b a := by
  obtain ⟨h1, h2, h3⟩ := pair_zero h
  rw [(pairE_d h1 h2 h3).2, (pairE_d h2 h1 (con_swap h3)).2]
  have hne : a.id ≠ b.id := by
    simp only [conB, Bool.and_eq_true, Bool.not_eq_true', beq_eq_false_iff_ne] at h3
    exact h3.2
  rw [ltB_not a.id b.id (by rw [ha.1, hb.1]) hne]
  cases ltB b.id a.id <;> rfl
theorem pairC_size {a b : Vt} (ha : a.ok) (hb : b.ok) : (pairC a b).size = 106 := by
  unfold pairC
  split
  · exact evC_size zvt_ok zvt_ok
  · split
    · exact evC_size hb ha
    · exact evC_size ha hb
theorem pairC_one (a b : Vt) : (pairC a b).all (·.oneCell') = true := by
  unfold pairC
  split
  · exact evC_one _ _
  · split <;> exact evC_one _ _

set_option maxRecDepth 100000 in
set_option maxHeartbeats 8000000 in
theorem pairs3 (w : World) (a b : Vt) (ha : a.ok) (hb : b.ok) : Calls Try.prog 3 #[.agg a.cs.toArray, .agg b.cs.toArray] w fun e w' => e = .returned (.bool true) ∧ Turn no w w' := by
  have hsa := a.size ha
  have hsb := b.size hb
  have hia : (Try.prog.info? 29).map (·.size) = some a.cs.toArray.size := by rw [hsa]; exact size29
  have hib : (Try.prog.info? 29).map (·.size) = some b.cs.toArray.size := by rw [hsb]; exact size29
  have HPX := shut (fun W => pair5 W a b ha hb)
  have HPY := shut (fun W => pair5 W b a hb ha)
  have HPU := shut (fun W => rpair6 W a b ha hb)
  have HPV := shut (fun W => rpair6 W b a hb ha)
  have hex := fun W => pair_eq W a b ha hb
  have hey := fun W => pair_eq W b a hb ha
  have hsx := pairC_size ha hb
  have hsy := pairC_size hb ha
  have h1x := pairC_one a b
  have h1y := pairC_one b a
  have HSW : Shut (pairE a b = 0 → pairC a b = pairC b a) := pair_swap ha hb
  have z32 := zero32
  have HZS := shut (evC_size zvt_ok zvt_ok)
  generalize a.cs.toArray = CA at *
  generalize b.cs.toArray = CB at *
  generalize pairC a b = X at *
  generalize pairC b a = Y at *
  generalize pairE a b = EX at *
  generalize pairE b a = EY at *
  generalize evC zvt zvt = ZE at *
  have hix : (Try.prog.info? 32).map (·.size) = some X.size := by rw [hsx]; exact size32
  have hiy : (Try.prog.info? 32).map (·.size) = some Y.size := by rw [hsy]; exact size32
  have hzx : ZE.size = X.size := by rw [HZS.out, hsx]
  have hzy : ZE.size = Y.size := by rw [HZS.out, hsy]
  have hlx : (Try.prog.info? 32).map (·.size) = some X.toList.length := by rw [Array.length_toList]; exact hix
  have hly : (Try.prog.info? 32).map (·.size) = some Y.toList.length := by rw [Array.length_toList]; exact hiy
  have eX : X.extract 0 (0 + 106) = X := by rw [Nat.zero_add, ← hsx]; simp
  have eY : Y.extract 0 (0 + 106) = Y := by rw [Nat.zero_add, ← hsy]; simp
  have HEX := shut eX
  have HEY := shut eY
  clear ha hb HZS eX eY hsx hsy hsa hsb
  have RA := (Row.new w CA 29).alloc (.cells CB 29)
  have RB := Row.newAt (w.alloc (.cells CA 29)) CB 29 (w.heap.size + 1) (by simp)
  have T0 : Turn no w ((w.alloc (.cells CA 29)).alloc (.cells CB 29)) := ((Turn.refl no w).alloc _).alloc _
  go_enter Try.func3, Try.ntmps3
  go_wp2_with fail
  generalize (w.alloc (.cells CA 29)).alloc (.cells CB 29) = w0 at *
  refine (alive4 w0).mono ?_
  rintro e w1 ⟨rfl, t1⟩
  have RA1 := RA.turn t1 (fun q => q)
  have RB1 := RB.turn t1 (fun q => q)
  have T1 := shut (T0.then_no t1)
  clear t1 RA RB T0
  generalize w.heap.size = g at *
  go_upto_region 4 with fail
  go_wp2_with (first | (refine wpList_load_row rfl 29 (.tmp 2) rfl g rfl 29 CA _ _ RA1 Try.underlying29 rfl hia ?_) | (refine wpList_load_row rfl 29 (.tmp 3) rfl (g + 1) rfl 29 CB _ _ RB1 Try.underlying29 rfl hib ?_))
  refine (HPX.out w1).mono ?_
  rintro e u1 ⟨rfl, t1⟩
  go_upto_region 5 with (refine wpList_store_any rfl 32 (.tmp 6) (.tmp 21) rfl u1.heap.size X rfl rfl 32 ZE (Row.new u1 ZE 32) hix hzx h1x ?_; intro v1 S1 d1)
  have D1 : Turn no w1 v1 := t1.then_no (((Turn.refl no u1).alloc _).trans d1 (fun i hi e => by omega))
  have A1 := RA1.turn D1 (fun q => q)
  have B1 := RB1.turn D1 (fun q => q)
  have TT1 := shut (T1.out.then_no D1)
  clear t1 d1 D1 RA1 RB1 T1 
  obtain ⟨q1, hq1⟩ : ∃ q, u1.heap.size = q := ⟨_, rfl⟩
  rw [hq1] at S1
  simp only [hq1]
  clear hq1
  go_wp2_with (first | (refine wpList_load_row rfl 29 (.tmp 2) rfl g rfl 29 CA _ _ A1 Try.underlying29 rfl hia ?_) | (refine wpList_load_row rfl 29 (.tmp 3) rfl (g + 1) rfl 29 CB _ _ B1 Try.underlying29 rfl hib ?_))
  refine (HPY.out v1).mono ?_
  rintro e u2 ⟨rfl, t2⟩
  go_upto_region 6 with (refine wpList_store_any rfl 32 (.tmp 8) (.tmp 27) rfl u2.heap.size Y rfl rfl 32 ZE (Row.new u2 ZE 32) hiy hzy h1y ?_; intro v2 S2 d2)
  have D2 : Turn no v1 v2 := t2.then_no (((Turn.refl no u2).alloc _).trans d2 (fun i hi e => by omega))
  have A2 := A1.turn D2 (fun q => q)
  have B2 := B1.turn D2 (fun q => q)
  have TT2 := shut (TT1.out.then_no D2)
  have S12 := S1.turn D2 (fun q => q)
  clear t2 d2 D2 A1 B1 TT1 S1
  obtain ⟨q2, hq2⟩ : ∃ q, u2.heap.size = q := ⟨_, rfl⟩
  rw [hq2] at S2
  simp only [hq2]
  clear hq2
  go_wp2_with (first | (refine wpList_load_row rfl 29 (.tmp 2) rfl g rfl 29 CA _ _ A2 Try.underlying29 rfl hia ?_) | (refine wpList_load_row rfl 29 (.tmp 3) rfl (g + 1) rfl 29 CB _ _ B2 Try.underlying29 rfl hib ?_))
  refine (HPU.out v2).mono ?_
  rintro e u3 ⟨rfl, t3⟩
  go_upto_region 7 with (refine wpList_store_any rfl 32 (.tmp 10) (.tmp 33) rfl u3.heap.size X rfl rfl 32 ZE (Row.new u3 ZE 32) hix hzx h1x ?_; intro v3 S3 d3)
  have D3 : Turn no v2 v3 := t3.then_no (((Turn.refl no u3).alloc _).trans d3 (fun i hi e => by omega))
  have A3 := A2.turn D3 (fun q => q)
  have B3 := B2.turn D3 (fun q => q)
  have TT3 := shut (TT2.out.then_no D3)
  have S123 := S12.turn D3 (fun q => q)
  have S23 := S2.turn D3 (fun q => q)
  clear t3 d3 D3 A2 B2 TT2 S12 S2
  obtain ⟨q3, hq3⟩ : ∃ q, u3.heap.size = q := ⟨_, rfl⟩
  rw [hq3] at S3
  simp only [hq3]
  clear hq3
  go_wp2_with (first | (refine wpList_load_row rfl 29 (.tmp 2) rfl g rfl 29 CA _ _ A3 Try.underlying29 rfl hia ?_) | (refine wpList_load_row rfl 29 (.tmp 3) rfl (g + 1) rfl 29 CB _ _ B3 Try.underlying29 rfl hib ?_))
  refine (HPV.out v3).mono ?_
  rintro e u4 ⟨rfl, t4⟩
  go_upto_region 8 with (refine wpList_store_any rfl 32 (.tmp 12) (.tmp 39) rfl u4.heap.size Y rfl rfl 32 ZE (Row.new u4 ZE 32) hiy hzy h1y ?_; intro v4 S4 d4)
  have D4 : Turn no v3 v4 := t4.then_no (((Turn.refl no u4).alloc _).trans d4 (fun i hi e => by omega))
  have A4 := A3.turn D4 (fun q => q)
  have B4 := B3.turn D4 (fun q => q)
  have TT4 := shut (TT3.out.then_no D4)
  have S1234 := S123.turn D4 (fun q => q)
  have S234 := S23.turn D4 (fun q => q)
  have S34 := S3.turn D4 (fun q => q)
  clear t4 d4 D4 A3 B3 TT3 S123 S23 S3
  obtain ⟨q4, hq4⟩ : ∃ q, u4.heap.size = q := ⟨_, rfl⟩
  rw [hq4] at S4
  simp only [hq4]
  clear hq4
  have r6 := World.rangeAt_of_block S1234 0 106
  have r8 := World.rangeAt_of_block S234 0 106
  have r10 := World.rangeAt_of_block S34 0 106
  have r12 := World.rangeAt_of_block S4 0 106
  rw [HEX.out] at r6 r10
  rw [HEY.out] at r8 r12
  clear S1234 S234 S34 S4 A4 B4 HEX HEY
  go_upto_region 10 with (first | (refine wpList_load_midG (by rfl) 32 (.tmp 6) rfl q1 0 rfl X.toList _ r6 Try.underlying32 rfl hlx ?_) | (refine wpList_load_midG (by rfl) 32 (.tmp 10) rfl q3 0 rfl X.toList _ r10 Try.underlying32 rfl hlx ?_) | (refine wpList_load_midG (by rfl) 32 (.tmp 8) rfl q2 0 rfl Y.toList _ r8 Try.underlying32 rfl hly ?_) | (refine wpList_load_midG (by rfl) 32 (.tmp 12) rfl q4 0 rfl Y.toList _ r12 Try.underlying32 rfl hly ?_))
  by_cases h0 : EX = 0
  · have hxy : ∀ W, (Op.equalIn 10000 32 (.agg X) (.agg Y)).run Try.prog W = .ok true W := by
      rw [← HSW.out h0]
      exact hex
    have hzb : (EX != 0) = false := by simp [h0]
    clear hex hey h0 HSW
    go_wp2_with (first | (refine wpList_load_midG (by rfl) 32 (.tmp 6) rfl q1 0 rfl X.toList _ r6 Try.underlying32 rfl hlx ?_) | (refine wpList_load_midG (by rfl) 32 (.tmp 8) rfl q2 0 rfl Y.toList _ r8 Try.underlying32 rfl hly ?_))
    go_ret
    exact ⟨rfl, TT4.out⟩
  · have hzb : (EX != 0) = true := by simpa using h0
    clear hex hey h0 HSW r6 r8 r10 r12
    go_wp2_with fail
    go_ret
    exact ⟨rfl, TT4.out⟩
end Go.Proofs.Ytdgfkaoohfdmfaa
