/- Pair of the program. -/
import Derived.Test.YtmghliakheniiaaGreatDoorMVa
import Derived.Test.YtmghliakheniiaaGreatDoorMV4
import Derived.Deep.CutRange
namespace Go.Proofs.YtmghliakheniiaaGreatDoor
open Go.RowKit
set_option linter.unusedVariables false

/-- No vote. -/
def zvt : Vt := ⟨0, 0, 0, zid, 0, 0, List.replicate 16 0⟩
theorem zvt_ok : zvt.ok := ⟨rfl, rfl⟩
theorem zero32 (w : World) : (zeroValue 52).run Tryz.prog w = .ok (.agg (evC zvt zvt)) w := by kernel_rfl
theorem zero29 (w : World) : (zeroValue 43).run Tryz.prog w = .ok (.agg zvt.cs.toArray) w := by kernel_rfl
/-- What Pair answers: the number. -/
def pairE (a b : Vt) : Int := if plainE a ≠ 0 then plainE a else if plainE b ≠ 0 then plainE b else if conB a b then 0 else 110
/-- What Pair answers: the evidence. -/
def pairC (a b : Vt) : Array Value := if pairE a b ≠ 0 then evC zvt zvt else if ltB b.id a.id then evC b a else evC a b
theorem pairE_a {a b : Vt} (h : plainE a ≠ 0) : pairE a b = plainE a ∧ pairC a b = evC zvt zvt := by
  have e : pairE a b = plainE a := by unfold pairE; rw [if_pos h]
  exact ⟨e, by unfold pairC; rw [e, if_pos h]⟩
theorem pairE_b {a b : Vt} (h : plainE a = 0) (h' : plainE b ≠ 0) : pairE a b = plainE b ∧ pairC a b = evC zvt zvt := by
  have e : pairE a b = plainE b := by unfold pairE; rw [if_neg (by simp [h]), if_pos h']
  exact ⟨e, by unfold pairC; rw [e, if_pos h']⟩
theorem pairE_c {a b : Vt} (h : plainE a = 0) (h' : plainE b = 0) (hc : conB a b = false) : pairE a b = 110 ∧ pairC a b = evC zvt zvt := by
  have e : pairE a b = 110 := by unfold pairE; rw [if_neg (by simp [h]), if_neg (by simp [h']), hc]; rfl
  exact ⟨e, by unfold pairC; rw [e]; rfl⟩
theorem pairE_d {a b : Vt} (h : plainE a = 0) (h' : plainE b = 0) (hc : conB a b = true) : pairE a b = 0 ∧ pairC a b = if ltB b.id a.id then evC b a else evC a b := by
  have e : pairE a b = 0 := by unfold pairE; rw [if_neg (by simp [h]), if_neg (by simp [h']), hc]; rfl
  exact ⟨e, by unfold pairC; rw [e]; rfl⟩
theorem evC_eq (a b : Vt) : a.cs.toArray ++ b.cs.toArray = evC a b := by simp [evC]
theorem evC_one (a b : Vt) : (evC a b).all (·.oneCell') = true := all_oneCell_toArray (fun v hv => by
  rcases List.mem_append.1 hv with h | h
  · exact a.one v h
  · exact b.one v h)
theorem Vt.all1 (a : Vt) : a.cs.toArray.all (·.oneCell') = true := all_oneCell_toArray a.one

set_option maxRecDepth 100000 in
set_option maxHeartbeats 8000000 in
theorem pair5 (w : World) (a b : Vt) (ha : a.ok) (hb : b.ok) : Calls Tryz.prog 11 #[.agg a.cs.toArray, .agg b.cs.toArray] w fun e w' => e = .returned (.tuple #[.agg (pairC a b), .int .i64 (pairE a b)]) ∧ Turn no w w' := by
  have hsa := a.size ha
  have hsb := b.size hb
  have hia : (Tryz.prog.info? 43).map (·.size) = some a.cs.toArray.size := by rw [hsa]; exact qsize29
  have hib : (Tryz.prog.info? 43).map (·.size) = some b.cs.toArray.size := by rw [hsb]; exact qsize29
  have hbu := built40 a.cs.toArray b.cs.toArray hsa hsb
  have hix := index40 a.cs.toArray b.cs.toArray hsa hsb
  have HPA := shut (fun W => plain9 W a ha)
  have HPB := shut (fun W => plain9 W b hb)
  have HC := shut (fun W => con10 W a b ha hb)
  have h1a := a.all1
  have h1b := b.all1
  have HVA : Shut (∀ W g, Row W g a.cs.toArray 43 → W.rangeAt g 3 (a.id.map bv)) := fun W g r => (r.vt ha).cid
  have HVB : Shut (∀ W g, Row W g b.cs.toArray 43 → W.rangeAt g 3 (b.id.map bv)) := fun W g r => (r.vt hb).cid
  have HEA := shut (evC_eq a b)
  have HEB := shut (evC_eq b a)
  have HOK := shut (And.intro ha hb)
  generalize a.cs.toArray = CA at *
  generalize b.cs.toArray = CB at *
  clear ha hb
  have HB32 : Shut (Tryz.prog.built 52 [(0, .agg CA), (1, .agg CB)] = some (evC a b) ∧ Tryz.prog.built 52 [(0, .agg CB), (1, .agg CA)] = some (evC b a)) := ⟨by rw [built32 CA CB hsa hsb, HEA.out], by rw [built32 CB CA hsb hsa, HEB.out]⟩
  have z32 := zero32
  have z29 := zero29
  have HZS := shut (evC_size zvt_ok zvt_ok)
  have HZ2 := shut (zvt.size zvt_ok)
  obtain ⟨ZE, hZ⟩ : ∃ ZE, evC zvt zvt = ZE := ⟨_, rfl⟩
  rw [hZ] at HZS
  simp only [hZ] at z32
  have HZ := shut hZ
  clear hZ
  generalize zvt.cs.toArray = Z29 at *
  have RA := ((Row.new w CA 43).alloc (.cells CB 43)).alloc (.cells ZE 52)
  have RB := (Row.newAt (w.alloc (.cells CA 43)) CB 43 (w.heap.size + 1) (by simp)).alloc (.cells ZE 52)
  have RZ := Row.newAt ((w.alloc (.cells CA 43)).alloc (.cells CB 43)) ZE 52 (w.heap.size + 1 + 1) (by simp)
  have T0 : Turn no w (((w.alloc (.cells CA 43)).alloc (.cells CB 43)).alloc (.cells ZE 52)) := (((Turn.refl no w).alloc _).alloc _).alloc _
  have HT0 := shut T0
  have HRZ := shut RZ
  clear T0 RZ
  go_enter Tryz.func11, Tryz.ntmps11
  go_wp2_with (first | (refine wpList_load_row rfl 43 (.tmp 2) rfl w.heap.size rfl 43 CA _ _ RA Tryz.underlying43 rfl hia ?_) | (refine wpList_load_row rfl 43 (.tmp 3) rfl (w.heap.size + 1) rfl 43 CB _ _ RB Tryz.underlying43 rfl hib ?_) | (refine wpList_build_as rfl 119 0 1 (.tmp 9) (.tmp 10) rfl _ _ rfl rfl (CA ++ CB) hbu ?_))
  have HRA := shut RA
  have HRB := shut RB
  clear RA RB hbu
  generalize ((w.alloc (.cells CA 43)).alloc (.cells CB 43)).alloc (.cells ZE 52) = w0 at *
  have HIX := shut hix
  clear hix
  generalize CA ++ CB = AB at *
  go_loopw [12] (fun x wr => Shut (Row wr w.heap.size CA 43 ∧ Row wr (w.heap.size + 1) CB 43 ∧ Row wr (w.heap.size + 1 + 1) ZE 52 ∧ Turn no w wr) ∧ (x = .int .i64 0 ∨ (x = .int .i64 1 ∧ Shut (plainE a = 0)) ∨ (x = .int .i64 2 ∧ Shut (plainE a = 0 ∧ plainE b = 0)))) (fun x _ => 2 - (intOf x).toNat)
  case atStart => exact ⟨⟨HRA.out, HRB.out, HRZ.out, HT0.out⟩, Or.inl rfl⟩
  case round =>
    obtain ⟨HI, hx⟩ := hrel
    clear HRA HRB HRZ HT0
    rcases hx with hx | hx | hx
    · -- the vote a
      obtain ⟨rfl⟩ := hx
      have ix := fun W => (HIX.out W).1
      have hzz : Z29.size = CA.size := by rw [HZ2.out, hsa]
      go_wp2_with (first | (refine wpList_store_any rfl 43 (.tmp 7) (.tmp 14) rfl wr.heap.size CA rfl rfl 43 Z29 (Row.new wr Z29 43) hia hzz h1a ?_; intro w1 R1 t1) | (refine wpList_load_row rfl 43 (.tmp 7) rfl wr.heap.size rfl 43 CA _ _ R1 Tryz.underlying43 rfl hia ?_))
      have T1 : Turn no wr w1 := ((Turn.refl no wr).alloc _).trans t1 (fun i hi e => by omega)
      clear t1 R1 ix
      refine (HPA.out w1).mono ?_
      rintro e w2 ⟨rfl, t2⟩
      have T2 : Turn no wr w2 := T1.then_no t2
      have I2 : Shut (Row w2 w.heap.size CA 43 ∧ Row w2 (w.heap.size + 1) CB 43 ∧ Row w2 (w.heap.size + 1 + 1) ZE 52 ∧ Turn no w w2) := by
        obtain ⟨r1, r2, r3, tt⟩ := HI.out
        exact ⟨r1.turn T2 (fun q => q), r2.turn T2 (fun q => q), r3.turn T2 (fun q => q), tt.then_no T2⟩
      clear T1 t2 T2
      by_cases hz : plainE a = 0
      · rw [hz]
        go_wp2_with fail
        go_roundw
        case rel => exact ⟨I2, Or.inr (Or.inl ⟨rfl, hz⟩)⟩
        case measure => simp [intOf]
      · have hzb : (plainE a != 0) = true := by simpa using hz
        have HE := shut (pairE_a (b := b) hz)
        have hR := I2.out.2.2.1
        have hZZ := HZ.out
        rw [hZZ] at HE
        have hiz : (Tryz.prog.info? 52).map (·.size) = some ZE.size := by rw [HZS.out]; exact size32
        have h1z : ZE.all (·.oneCell') = true := by rw [← hZZ]; exact evC_one _ _
        clear hZZ hz
        generalize plainE a = E at *
        go_wp2_with (refine wpList_store_any rfl 52 (.tmp 4) (.tmp 19) rfl (w.heap.size + 1 + 1) ZE rfl rfl 52 ZE hR hiz rfl h1z ?_; intro w3 R3 t3)
        refine bodyPost_ret (v := .tuple #[.agg ZE, .int .i64 E]) ?_ rfl ⟨by rw [HE.out.1, HE.out.2], I2.out.2.2.2.trans t3 (fun i hi e => by omega)⟩
        exact results_cell_row_tmpQ Tryz.results11 _ _ (w.heap.size + 1 + 1) 52 ZE (0, 0) _ rfl R3 Tryz.underlying52 rfl hiz
    · -- the vote b
      obtain ⟨rfl, HA0⟩ := hx
      have ix := fun W => (HIX.out W).2
      have hzz : Z29.size = CB.size := by rw [HZ2.out, hsb]
      go_wp2_with (first | (refine wpList_store_any rfl 43 (.tmp 7) (.tmp 14) rfl wr.heap.size CB rfl rfl 43 Z29 (Row.new wr Z29 43) hib hzz h1b ?_; intro w1 R1 t1) | (refine wpList_load_row rfl 43 (.tmp 7) rfl wr.heap.size rfl 43 CB _ _ R1 Tryz.underlying43 rfl hib ?_))
      have T1 : Turn no wr w1 := ((Turn.refl no wr).alloc _).trans t1 (fun i hi e => by omega)
      clear t1 R1 ix
      refine (HPB.out w1).mono ?_
      rintro e w2 ⟨rfl, t2⟩
      have T2 : Turn no wr w2 := T1.then_no t2
      have I2 : Shut (Row w2 w.heap.size CA 43 ∧ Row w2 (w.heap.size + 1) CB 43 ∧ Row w2 (w.heap.size + 1 + 1) ZE 52 ∧ Turn no w w2) := by
        obtain ⟨r1, r2, r3, tt⟩ := HI.out
        exact ⟨r1.turn T2 (fun q => q), r2.turn T2 (fun q => q), r3.turn T2 (fun q => q), tt.then_no T2⟩
      clear T1 t2 T2
      by_cases hz : plainE b = 0
      · rw [hz]
        go_wp2_with fail
        go_roundw
        case rel => exact ⟨I2, Or.inr (Or.inr ⟨rfl, HA0.out, hz⟩)⟩
        case measure => simp [intOf]
      · have hzb : (plainE b != 0) = true := by simpa using hz
        have HE := shut (pairE_b HA0.out hz)
        have hR := I2.out.2.2.1
        have hZZ := HZ.out
        rw [hZZ] at HE
        have hiz : (Tryz.prog.info? 52).map (·.size) = some ZE.size := by rw [HZS.out]; exact size32
        have h1z : ZE.all (·.oneCell') = true := by rw [← hZZ]; exact evC_one _ _
        clear hZZ hz
        generalize plainE b = E at *
        go_wp2_with (refine wpList_store_any rfl 52 (.tmp 4) (.tmp 19) rfl (w.heap.size + 1 + 1) ZE rfl rfl 52 ZE hR hiz rfl h1z ?_; intro w3 R3 t3)
        refine bodyPost_ret (v := .tuple #[.agg ZE, .int .i64 E]) ?_ rfl ⟨by rw [HE.out.1, HE.out.2], I2.out.2.2.2.trans t3 (fun i hi e => by omega)⟩
        exact results_cell_row_tmpQ Tryz.results11 _ _ (w.heap.size + 1 + 1) 52 ZE (0, 0) _ rfl R3 Tryz.underlying52 rfl hiz
    · obtain ⟨rfl, HAB⟩ := hx
      obtain ⟨rA, rB, rZ, tt⟩ := HI.out
      go_wp2_with (first | (refine wpList_load_row rfl 43 (.tmp 2) rfl w.heap.size rfl 43 CA _ _ rA Tryz.underlying43 rfl hia ?_) | (refine wpList_load_row rfl 43 (.tmp 3) rfl (w.heap.size + 1) rfl 43 CB _ _ rB Tryz.underlying43 rfl hib ?_))
      refine (HC.out wr).mono ?_
      rintro e w2 ⟨rfl, t2⟩
      have rA2 := rA.turn t2 (fun q => q)
      have rB2 := rB.turn t2 (fun q => q)
      have rZ2 := rZ.turn t2 (fun q => q)
      have TT := shut (tt.then_no t2)
      clear rA rB rZ tt t2 HI
      have hZZ := HZ.out
      have hiz : (Tryz.prog.info? 52).map (·.size) = some ZE.size := by rw [HZS.out]; exact size32
      have h1z : ZE.all (·.oneCell') = true := by rw [← hZZ]; exact evC_one _ _
      cases hc : conB a b
      · have HE := shut (pairE_c HAB.out.1 HAB.out.2 hc)
        rw [hZZ] at HE
        clear hZZ hc
        go_wp2_with (refine wpList_store_any rfl 52 (.tmp 4) (.tmp 26) rfl (w.heap.size + 1 + 1) ZE rfl rfl 52 ZE rZ2 hiz rfl h1z ?_; intro w3 R3 t3)
        refine bodyPost_ret (v := .tuple #[.agg ZE, .int .i64 110]) ?_ rfl ⟨by rw [HE.out.1, HE.out.2], TT.out.trans t3 (fun i hi e => by omega)⟩
        exact results_cell_row_tmpQ Tryz.results11 _ _ (w.heap.size + 1 + 1) 52 ZE (0, 0) _ rfl R3 Tryz.underlying52 rfl hiz
      · have HE := shut (pairE_d HAB.out.1 HAB.out.2 hc)
        clear hZZ hc
        have hsA : ∀ W a, (Instr.sliceAt 26 (.pointer (some a)) none none none).run Tryz.prog W = .ok (.slice (some a) 32 32) W := fun W a => by
          rw [run_sliceAt_array_all (P := Tryz.prog) W 26 a (by kernel_rfl)]
          rw [show (sizeOf (Tryz.prog.elem 26)).run Tryz.prog W = .ok 1 W by kernel_rfl, show Tryz.prog.arrayLen 26 = 32 by kernel_rfl]
          simp [slicedAt, Addr.add_zero']
        have HCP : Shut (∀ n, Calls Tryz.prog 43 #[.slice (some ⟨w.heap.size, 3, none⟩) 32 32, .slice (some ⟨w.heap.size + 1, 3, none⟩) 32 32] (w2.drewN n) fun e w' => e = .returned (.int .i64 (Lib.compareBytes a.id b.id)) ∧ w' = w2.drewN n) := fun n =>
          (compare11 (w2.drewN n) a.id b.id w.heap.size 3 (w.heap.size + 1) 3 HOK.out.1.1 HOK.out.2.1 (HVA.out _ _ (rA2.drewN n)) (HVB.out _ _ (rB2.drewN n))).mono fun e w' h => ⟨h.1, h.2.symm⟩
        have HLT := shut (compare_lt a.id b.id (by rw [HOK.out.1.1, HOK.out.2.1]))
        go_wp2_with fail
        go_quiet ((go_at_call 43; exact Calls.quiet_of_same (HCP.out _)))
        have rA3 := rA2.drewN nq
        have rB3 := rB2.drewN nq
        have rZ3 := rZ2.drewN nq
        have T3 := shut (TT.out.drewN nq)
        clear rA2 rB2 rZ2 TT HCP hsA
        generalize w2.drewN nq = w3 at *
        have hne : w.heap.size ≠ w.heap.size + 1 := by omega
        have hsab : CA.size = CB.size := by rw [hsa, hsb]
        have hab := HB32.out.1
        have hba := HB32.out.2
        have hiE : ∀ x y : Vt, x.ok → y.ok → (Tryz.prog.info? 52).map (·.size) = some (evC x y).size := fun x y hx hy => by rw [evC_size hx hy]; exact size32
        have hiab := hiE a b HOK.out.1 HOK.out.2
        have hiba := hiE b a HOK.out.2 HOK.out.1
        have hzab : ZE.size = (evC a b).size := by rw [HZS.out, evC_size HOK.out.1 HOK.out.2]
        have hzba : ZE.size = (evC b a).size := by rw [HZS.out, evC_size HOK.out.2 HOK.out.1]
        have h1ab := evC_one a b
        have h1ba := evC_one b a
        clear hiE hiz h1z
        cases hl : ltB b.id a.id
        · have hcm : ¬ 0 < Lib.compareBytes a.id b.id := by
            have := HLT.out
            rw [hl] at this
            simpa using this
          have HE2 : Shut (pairE a b = 0 ∧ pairC a b = evC a b) := ⟨HE.out.1, by rw [HE.out.2, hl]; rfl⟩
          clear HE HLT hl
          generalize Lib.compareBytes a.id b.id = cmp at *
          generalize evC a b = EAB at *
          go_wp2_with (first | (refine wpList_load_row rfl 43 (.tmp 2) rfl w.heap.size rfl 43 CA _ _ rA3 Tryz.underlying43 rfl hia ?_) | (refine wpList_load_row rfl 43 (.tmp 3) rfl (w.heap.size + 1) rfl 43 CB _ _ rB3 Tryz.underlying43 rfl hib ?_) | (refine wpList_build_as rfl 52 0 1 (.tmp 35) (.tmp 36) rfl _ _ rfl rfl EAB hab ?_) | (refine wpList_store_any rfl 52 (.tmp 4) (.tmp 37) rfl (w.heap.size + 1 + 1) EAB rfl rfl 52 ZE rZ3 hiab hzab h1ab ?_; intro w4 R4 t4))
          refine bodyPost_ret (v := .tuple #[.agg EAB, .int .i64 0]) ?_ rfl ⟨by rw [HE2.out.1, HE2.out.2], T3.out.trans t4 (fun i hi e => by omega)⟩
          exact results_cell_row_tmpQ Tryz.results11 _ _ (w.heap.size + 1 + 1) 52 EAB (0, 0) _ rfl R4 Tryz.underlying52 rfl hiab
        · have hcm : 0 < Lib.compareBytes a.id b.id := by
            have := HLT.out
            rw [hl] at this
            simpa using this
          have HE2 : Shut (pairE a b = 0 ∧ pairC a b = evC b a) := ⟨HE.out.1, by rw [HE.out.2, hl]; rfl⟩
          clear HE HLT hl
          generalize Lib.compareBytes a.id b.id = cmp at *
          generalize evC b a = EBA at *
          go_upto_region 12 with (first | (refine wpList_load_row rfl 43 (.tmp 3) rfl (w.heap.size + 1) rfl 43 CB _ _ rB3 Tryz.underlying43 rfl hib ?_) | (refine wpList_load_row rfl 43 (.tmp 2) rfl w.heap.size rfl 43 CA _ _ rA3 Tryz.underlying43 rfl hia ?_) | (refine wpList_store_any rfl 43 (.tmp 2) (.tmp 33) rfl w.heap.size CB rfl rfl 43 CA rA3 hib hsab h1b ?_; intro w4 R4 t4; have rB4 := rB3.turn t4 (fun q => hne q.symm); have rZ4 := rZ3.turn t4 (fun q => by omega); have T4 := shut (T3.out.trans t4 (fun i hi e => by omega)); clear rA3 rB3 rZ3 t4 T3) | (refine wpList_store_any rfl 43 (.tmp 3) (.tmp 34) rfl (w.heap.size + 1) CA rfl rfl 43 CB rB4 hia hsab.symm h1a ?_; intro w5 R5 t5; have rA5 := R4.turn t5 (fun q => hne q); have rZ5 := rZ4.turn t5 (fun q => by omega); have T5 := shut (T4.out.trans t5 (fun i hi e => by omega)); clear R4 rB4 rZ4 t5 T4))
          go_wp2_with (first | (refine wpList_load_row rfl 43 (.tmp 2) rfl w.heap.size rfl 43 CB _ _ rA5 Tryz.underlying43 rfl hib ?_) | (refine wpList_load_row rfl 43 (.tmp 3) rfl (w.heap.size + 1) rfl 43 CA _ _ R5 Tryz.underlying43 rfl hia ?_) | (refine wpList_build_as rfl 52 0 1 (.tmp 35) (.tmp 36) rfl _ _ rfl rfl EBA hba ?_) | (refine wpList_store_any rfl 52 (.tmp 4) (.tmp 37) rfl (w.heap.size + 1 + 1) EBA rfl rfl 52 ZE rZ5 hiba hzba h1ba ?_; intro w6 R6 t6))
          refine bodyPost_ret (v := .tuple #[.agg EBA, .int .i64 0]) ?_ rfl ⟨by rw [HE2.out.1, HE2.out.2], T5.out.trans t6 (fun i hi e => by omega)⟩
          exact results_cell_row_tmpQ Tryz.results11 _ _ (w.heap.size + 1 + 1) 52 EBA (0, 0) _ rfl R6 Tryz.underlying52 rfl hiba
end Go.Proofs.YtmghliakheniiaaGreatDoor

