/- Texts in one. -/
import Derived.Test.YtgbcdjjnpadddaaGreatDoorMVa
import Derived.Test.YtgbcdjjnpadddaaGreatDoorMV4
import Derived.Deep.CutRange
import Derived.LaidMore
/- Pair of the program. -/
namespace Go.Proofs.YtgbcdjjnpadddaaGreatDoor
open Go.RowKit
set_option linter.unusedVariables false

/-- No vote. -/
def zvt : Vt := ⟨0, 0, 0, zid, 0, 0, List.replicate 16 0⟩
theorem zvt_ok : zvt.ok := ⟨rfl, rfl⟩
theorem zero32 (w : World) : (zeroValue 52).run Tryz.prog w = .ok (.agg (evC zvt zvt)) w := by kernel_rfl
theorem zero29 (w : World) : (zeroValue 50).run Tryz.prog w = .ok (.agg zvt.cs.toArray) w := by kernel_rfl
/-- What Pair answers: the number. -/
def pairE (a b : Vt) : Int := if plainE a ≠ 0 then plainE a else if plainE b ≠ 0 then plainE b else if conB a b then 0 else 110
/-- What Pair answers: the evidence. -/
def pairC (a b : Vt) : Array Value := if pairE a b ≠ 0 then evC zvt zvt else if ltB b.id a.id then evC b a else evC a b
theorem pairE_a {a b : Vt} (h : plainE a ≠ 0) : pairE a b = plainE a ∧ pairC a b = evC zvt zvt := by
  have e : pairE a b = plainE a := by unfold pairE; rw [if_pos h]
  exact ⟨e, by unfold pairC; rw [e, if_pos h]⟩
theorem pairE_b {a b : Vt} (h : plainE a = 0) (h' : plainE b ≠ 0) : pairE a b = plainE b ∧ pairC a b = evC zvt zvt := by
  have e : pairE a b = plainE b := by unfold pairE; rw [if_neg (by simp [h]), if_pos h']
  exact ⟨e, by unfold pairC; rw [e, if_pos h']⟩
theorem pairE_c {a b : Vt} (h : plainE a = 0) (h' : plainE b = 0) (hc : conB a b = false) : pairE a b = 110 ∧ pairC a b = evC zvt zvt := by
  have e : pairE a b = 110 := by unfold pairE; rw [if_neg (by simp [h]), if_neg (by simp [h']), hc]; rfl
  exact ⟨e, by unfold pairC; rw [e]; rfl⟩
theorem pairE_d {a b : Vt} (h : plainE a = 0) (h' : plainE b = 0) (hc : conB a b = true) : pairE a b = 0 ∧ pairC a b = if ltB b.id a.id then evC b a else evC a b := by
  have e : pairE a b = 0 := by unfold pairE; rw [if_neg (by simp [h]), if_neg (by simp [h']), hc]; rfl
  exact ⟨e, by unfold pairC; rw [e]; rfl⟩
theorem evC_eq (a b : Vt) : a.cs.toArray ++ b.cs.toArray = evC a b := by simp [evC]
theorem evC_one (a b : Vt) : (evC a b).all (·.oneCell') = true := all_oneCell_toArray (fun v hv => by
  rcases List.mem_append.1 hv with h | h
  · exact a.one v h
  · exact b.one v h)
theorem Vt.all1 (a : Vt) : a.cs.toArray.all (·.oneCell') = true := all_oneCell_toArray a.one

set_option maxRecDepth 100000 in
set_option maxHeartbeats 8000000 in
theorem pair5 (w : World) (a b : Vt) (ha : a.ok) (hb : b.ok) : Calls Tryz.prog 21 #[.agg a.cs.toArray, .agg b.cs.toArray] w fun e w' => e = .returned (.tuple #[.agg (pairC a b), .int .i64 (pairE a b)]) ∧ Turn no w w' := by
  have hsa := a.size ha
  have hsb := b.size hb
  have hia : (Tryz.prog.info? 50).map (·.size) = some a.cs.toArray.size := by rw [hsa]; exact qsize29
  have hib : (Tryz.prog.info? 50).map (·.size) = some b.cs.toArray.size := by rw [hsb]; exact qsize29
  have hbu := built40 a.cs.toArray b.cs.toArray hsa hsb
  have hix := index40 a.cs.toArray b.cs.toArray hsa hsb
  have HPA := shut (fun W => plain9 W a ha)
  have HPB := shut (fun W => plain9 W b hb)
  have HC := shut (fun W => con10 W a b ha hb)
  have h1a := a.all1
  have h1b := b.all1
  have HVA : Shut (∀ W g, Row W g a.cs.toArray 50 → W.rangeAt g 3 (a.id.map bv)) := fun W g r => (r.vt ha).cid
  have HVB : Shut (∀ W g, Row W g b.cs.toArray 50 → W.rangeAt g 3 (b.id.map bv)) := fun W g r => (r.vt hb).cid
  have HEA := shut (evC_eq a b)
  have HEB := shut (evC_eq b a)
  have HOK := shut (And.intro ha hb)
  generalize a.cs.toArray = CA at *
  generalize b.cs.toArray = CB at *
  clear ha hb
  have HB32 : Shut (Tryz.prog.built 52 [(0, .agg CA), (1, .agg CB)] = some (evC a b) ∧ Tryz.prog.built 52 [(0, .agg CB), (1, .agg CA)] = some (evC b a)) := ⟨by rw [built32 CA CB hsa hsb, HEA.out], by rw [built32 CB CA hsb hsa, HEB.out]⟩
  have z32 := zero32
  have z29 := zero29
  have HZS := shut (evC_size zvt_ok zvt_ok)
  have HZ2 := shut (zvt.size zvt_ok)
  obtain ⟨ZE, hZ⟩ : ∃ ZE, evC zvt zvt = ZE := ⟨_, rfl⟩
  rw [hZ] at HZS
  simp only [hZ] at z32
  have HZ := shut hZ
  clear hZ
  generalize zvt.cs.toArray = Z29 at *
  have RA := ((Row.new w CA 50).alloc (.cells CB 50)).alloc (.cells ZE 52)
  have RB := (Row.newAt (w.alloc (.cells CA 50)) CB 50 (w.heap.size + 1) (by simp)).alloc (.cells ZE 52)
  have RZ := Row.newAt ((w.alloc (.cells CA 50)).alloc (.cells CB 50)) ZE 52 (w.heap.size + 1 + 1) (by simp)
  have T0 : Turn no w (((w.alloc (.cells CA 50)).alloc (.cells CB 50)).alloc (.cells ZE 52)) := (((Turn.refl no w).alloc _).alloc _).alloc _
  have HT0 := shut T0
  have HRZ := shut RZ
  clear T0 RZ
  go_enter Tryz.func21, Tryz.ntmps21
  go_wp2_with (first | (refine wpList_load_row rfl 50 (.tmp 2) rfl w.heap.size rfl 50 CA _ _ RA Tryz.underlying50 rfl hia ?_) | (refine wpList_load_row rfl 50 (.tmp 3) rfl (w.heap.size + 1) rfl 50 CB _ _ RB Tryz.underlying50 rfl hib ?_) | (refine wpList_build_as rfl 120 0 1 (.tmp 9) (.tmp 10) rfl _ _ rfl rfl (CA ++ CB) hbu ?_))
  have HRA := shut RA
  have HRB := shut RB
  clear RA RB hbu
  generalize ((w.alloc (.cells CA 50)).alloc (.cells CB 50)).alloc (.cells ZE 52) = w0 at *
  have HIX := shut hix
  clear hix
  generalize CA ++ CB = AB at *
  go_loopw [12] (fun x wr => Shut (Row wr w.heap.size CA 50 ∧ Row wr (w.heap.size + 1) CB 50 ∧ Row wr (w.heap.size + 1 + 1) ZE 52 ∧ Turn no w wr) ∧ (x = .int .i64 0 ∨ (x = .int .i64 1 ∧ Shut (plainE a = 0)) ∨ (x = .int .i64 2 ∧ Shut (plainE a = 0 ∧ plainE b = 0)))) (fun x _ => 2 - (intOf x).toNat)
  case atStart => exact ⟨⟨HRA.out, HRB.out, HRZ.out, HT0.out⟩, Or.inl rfl⟩
  case round =>
    obtain ⟨HI, hx⟩ := hrel
    clear HRA HRB HRZ HT0
    rcases hx with hx | hx | hx
    · -- the vote a
      obtain ⟨rfl⟩ := hx
      have ix := fun W => (HIX.out W).1
      have hzz : Z29.size = CA.size := by rw [HZ2.out, hsa]
      go_wp2_with (first | (refine wpList_store_any rfl 50 (.tmp 7) (.tmp 14) rfl wr.heap.size CA rfl rfl 50 Z29 (Row.new wr Z29 50) hia hzz h1a ?_; intro w1 R1 t1) | (refine wpList_load_row rfl 50 (.tmp 7) rfl wr.heap.size rfl 50 CA _ _ R1 Tryz.underlying50 rfl hia ?_))
      have T1 : Turn no wr w1 := ((Turn.refl no wr).alloc _).trans t1 (fun i hi e => by omega)
      clear t1 R1 ix
      refine (HPA.out w1).mono ?_
      rintro e w2 ⟨rfl, t2⟩
      have T2 : Turn no wr w2 := T1.then_no t2
      have I2 : Shut (Row w2 w.heap.size CA 50 ∧ Row w2 (w.heap.size + 1) CB 50 ∧ Row w2 (w.heap.size + 1 + 1) ZE 52 ∧ Turn no w w2) := by
        obtain ⟨r1, r2, r3, tt⟩ := HI.out
        exact ⟨r1.turn T2 (fun q => q), r2.turn T2 (fun q => q), r3.turn T2 (fun q => q), tt.then_no T2⟩
      clear T1 t2 T2
      by_cases hz : plainE a = 0
      · rw [hz]
        go_wp2_with fail
        go_roundw
        case rel => exact ⟨I2, Or.inr (Or.inl ⟨rfl, hz⟩)⟩
        case measure => simp [intOf]
      · have hzb : (plainE a != 0) = true := by simpa using hz
        have HE := shut (pairE_a (b := b) hz)
        have hR := I2.out.2.2.1
        have hZZ := HZ.out
        rw [hZZ] at HE
        have hiz : (Tryz.prog.info? 52).map (·.size) = some ZE.size := by rw [HZS.out]; exact size32
        have h1z : ZE.all (·.oneCell') = true := by rw [← hZZ]; exact evC_one _ _
        clear hZZ hz
        generalize plainE a = E at *
        go_wp2_with (refine wpList_store_any rfl 52 (.tmp 4) (.tmp 19) rfl (w.heap.size + 1 + 1) ZE rfl rfl 52 ZE hR hiz rfl h1z ?_; intro w3 R3 t3)
        refine bodyPost_ret (v := .tuple #[.agg ZE, .int .i64 E]) ?_ rfl ⟨by rw [HE.out.1, HE.out.2], I2.out.2.2.2.trans t3 (fun i hi e => by omega)⟩
        exact results_cell_row_tmpQ Tryz.results21 _ _ (w.heap.size + 1 + 1) 52 ZE (0, 0) _ rfl R3 Tryz.underlying52 rfl hiz
    · -- the vote b
      obtain ⟨rfl, HA0⟩ := hx
      have ix := fun W => (HIX.out W).2
      have hzz : Z29.size = CB.size := by rw [HZ2.out, hsb]
      go_wp2_with (first | (refine wpList_store_any rfl 50 (.tmp 7) (.tmp 14) rfl wr.heap.size CB rfl rfl 50 Z29 (Row.new wr Z29 50) hib hzz h1b ?_; intro w1 R1 t1) | (refine wpList_load_row rfl 50 (.tmp 7) rfl wr.heap.size rfl 50 CB _ _ R1 Tryz.underlying50 rfl hib ?_))
      have T1 : Turn no wr w1 := ((Turn.refl no wr).alloc _).trans t1 (fun i hi e => by omega)
      clear t1 R1 ix
      refine (HPB.out w1).mono ?_
      rintro e w2 ⟨rfl, t2⟩
      have T2 : Turn no wr w2 := T1.then_no t2
      have I2 : Shut (Row w2 w.heap.size CA 50 ∧ Row w2 (w.heap.size + 1) CB 50 ∧ Row w2 (w.heap.size + 1 + 1) ZE 52 ∧ Turn no w w2) := by
        obtain ⟨r1, r2, r3, tt⟩ := HI.out
        exact ⟨r1.turn T2 (fun q => q), r2.turn T2 (fun q => q), r3.turn T2 (fun q => q), tt.then_no T2⟩
      clear T1 t2 T2
      by_cases hz : plainE b = 0
      · rw [hz]
        go_wp2_with fail
        go_roundw
        case rel => exact ⟨I2, Or.inr (Or.inr ⟨rfl, HA0.out, hz⟩)⟩
        case measure => simp [intOf]
      · have hzb : (plainE b != 0) = true := by simpa using hz
        have HE := shut (pairE_b HA0.out hz)
        have hR := I2.out.2.2.1
        have hZZ := HZ.out
        rw [hZZ] at HE
        have hiz : (Tryz.prog.info? 52).map (·.size) = some ZE.size := by rw [HZS.out]; exact size32
        have h1z : ZE.all (·.oneCell') = true := by rw [← hZZ]; exact evC_one _ _
        clear hZZ hz
        generalize plainE b = E at *
        go_wp2_with (refine wpList_store_any rfl 52 (.tmp 4) (.tmp 19) rfl (w.heap.size + 1 + 1) ZE rfl rfl 52 ZE hR hiz rfl h1z ?_; intro w3 R3 t3)
        refine bodyPost_ret (v := .tuple #[.agg ZE, .int .i64 E]) ?_ rfl ⟨by rw [HE.out.1, HE.out.2], I2.out.2.2.2.trans t3 (fun i hi e => by omega)⟩
        exact results_cell_row_tmpQ Tryz.results21 _ _ (w.heap.size + 1 + 1) 52 ZE (0, 0) _ rfl R3 Tryz.underlying52 rfl hiz
    · obtain ⟨rfl, HAB⟩ := hx
      obtain ⟨rA, rB, rZ, tt⟩ := HI.out
      go_wp2_with (first | (refine wpList_load_row rfl 50 (.tmp 2) rfl w.heap.size rfl 50 CA _ _ rA Tryz.underlying50 rfl hia ?_) | (refine wpList_load_row rfl 50 (.tmp 3) rfl (w.heap.size + 1) rfl 50 CB _ _ rB Tryz.underlying50 rfl hib ?_))
      refine (HC.out wr).mono ?_
      rintro e w2 ⟨rfl, t2⟩
      have rA2 := rA.turn t2 (fun q => q)
      have rB2 := rB.turn t2 (fun q => q)
      have rZ2 := rZ.turn t2 (fun q => q)
      have TT := shut (tt.then_no t2)
      clear rA rB rZ tt t2 HI
      have hZZ := HZ.out
      have hiz : (Tryz.prog.info? 52).map (·.size) = some ZE.size := by rw [HZS.out]; exact size32
      have h1z : ZE.all (·.oneCell') = true := by rw [← hZZ]; exact evC_one _ _
      cases hc : conB a b
      · have HE := shut (pairE_c HAB.out.1 HAB.out.2 hc)
        rw [hZZ] at HE
        clear hZZ hc
        go_wp2_with (refine wpList_store_any rfl 52 (.tmp 4) (.tmp 26) rfl (w.heap.size + 1 + 1) ZE rfl rfl 52 ZE rZ2 hiz rfl h1z ?_; intro w3 R3 t3)
        refine bodyPost_ret (v := .tuple #[.agg ZE, .int .i64 110]) ?_ rfl ⟨by rw [HE.out.1, HE.out.2], TT.out.trans t3 (fun i hi e => by omega)⟩
        exact results_cell_row_tmpQ Tryz.results21 _ _ (w.heap.size + 1 + 1) 52 ZE (0, 0) _ rfl R3 Tryz.underlying52 rfl hiz
      · have HE := shut (pairE_d HAB.out.1 HAB.out.2 hc)
        clear hZZ hc
        have hsA : ∀ W a, (Instr.sliceAt 26 (.pointer (some a)) none none none).run Tryz.prog W = .ok (.slice (some a) 32 32) W := fun W a => by
          rw [run_sliceAt_array_all (P := Tryz.prog) W 26 a (by kernel_rfl)]
          rw [show (sizeOf (Tryz.prog.elem 26)).run Tryz.prog W = .ok 1 W by kernel_rfl, show Tryz.prog.arrayLen 26 = 32 by kernel_rfl]
          simp [slicedAt, Addr.add_zero']
        have HCP : Shut (∀ n, Calls Tryz.prog 46 #[.slice (some ⟨w.heap.size, 3, none⟩) 32 32, .slice (some ⟨w.heap.size + 1, 3, none⟩) 32 32] (w2.drewN n) fun e w' => e = .returned (.int .i64 (Lib.compareBytes a.id b.id)) ∧ w' = w2.drewN n) := fun n =>
          (compare11 (w2.drewN n) a.id b.id w.heap.size 3 (w.heap.size + 1) 3 HOK.out.1.1 HOK.out.2.1 (HVA.out _ _ (rA2.drewN n)) (HVB.out _ _ (rB2.drewN n))).mono fun e w' h => ⟨h.1, h.2.symm⟩
        have HLT := shut (compare_lt a.id b.id (by rw [HOK.out.1.1, HOK.out.2.1]))
        go_wp2_with fail
        go_quiet ((go_at_call 46; exact Calls.quiet_of_same (HCP.out _)))
        have rA3 := rA2.drewN nq
        have rB3 := rB2.drewN nq
        have rZ3 := rZ2.drewN nq
        have T3 := shut (TT.out.drewN nq)
        clear rA2 rB2 rZ2 TT HCP hsA
        generalize w2.drewN nq = w3 at *
        have hne : w.heap.size ≠ w.heap.size + 1 := by omega
        have hsab : CA.size = CB.size := by rw [hsa, hsb]
        have hab := HB32.out.1
        have hba := HB32.out.2
        have hiE : ∀ x y : Vt, x.ok → y.ok → (Tryz.prog.info? 52).map (·.size) = some (evC x y).size := fun x y hx hy => by rw [evC_size hx hy]; exact size32
        have hiab := hiE a b HOK.out.1 HOK.out.2
        have hiba := hiE b a HOK.out.2 HOK.out.1
        have hzab : ZE.size = (evC a b).size := by rw [HZS.out, evC_size HOK.out.1 HOK.out.2]
        have hzba : ZE.size = (evC b a).size := by rw [HZS.out, evC_size HOK.out.2 HOK.out.1]
        have h1ab := evC_one a b
        have h1ba := evC_one b a
        clear hiE hiz h1z
        cases hl : ltB b.id a.id
        · have hcm : ¬ 0 < Lib.compareBytes a.id b.id := by
            have := HLT.out
            rw [hl] at this
            simpa using this
          have HE2 : Shut (pairE a b = 0 ∧ pairC a b = evC a b) := ⟨HE.out.1, by rw [HE.out.2, hl]; rfl⟩
          clear HE HLT hl
          generalize Lib.compareBytes a.id b.id = cmp at *
          generalize evC a b = EAB at *
          go_wp2_with (first | (refine wpList_load_row rfl 50 (.tmp 2) rfl w.heap.size rfl 50 CA _ _ rA3 Tryz.underlying50 rfl hia ?_) | (refine wpList_load_row rfl 50 (.tmp 3) rfl (w.heap.size + 1) rfl 50 CB _ _ rB3 Tryz.underlying50 rfl hib ?_) | (refine wpList_build_as rfl 52 0 1 (.tmp 35) (.tmp 36) rfl _ _ rfl rfl EAB hab ?_) | (refine wpList_store_any rfl 52 (.tmp 4) (.tmp 37) rfl (w.heap.size + 1 + 1) EAB rfl rfl 52 ZE rZ3 hiab hzab h1ab ?_; intro w4 R4 t4))
          refine bodyPost_ret (v := .tuple #[.agg EAB, .int .i64 0]) ?_ rfl ⟨by rw [HE2.out.1, HE2.out.2], T3.out.trans t4 (fun i hi e => by omega)⟩
          exact results_cell_row_tmpQ Tryz.results21 _ _ (w.heap.size + 1 + 1) 52 EAB (0, 0) _ rfl R4 Tryz.underlying52 rfl hiab
        · have hcm : 0 < Lib.compareBytes a.id b.id := by
            have := HLT.out
            rw [hl] at this
            simpa using this
          have HE2 : Shut (pairE a b = 0 ∧ pairC a b = evC b a) := ⟨HE.out.1, by rw [HE.out.2, hl]; rfl⟩
          clear HE HLT hl
          generalize Lib.compareBytes a.id b.id = cmp at *
          generalize evC b a = EBA at *
          go_upto_region 12 with (first | (refine wpList_load_row rfl 50 (.tmp 3) rfl (w.heap.size + 1) rfl 50 CB _ _ rB3 Tryz.underlying50 rfl hib ?_) | (refine wpList_load_row rfl 50 (.tmp 2) rfl w.heap.size rfl 50 CA _ _ rA3 Tryz.underlying50 rfl hia ?_) | (refine wpList_store_any rfl 50 (.tmp 2) (.tmp 33) rfl w.heap.size CB rfl rfl 50 CA rA3 hib hsab h1b ?_; intro w4 R4 t4; have rB4 := rB3.turn t4 (fun q => hne q.symm); have rZ4 := rZ3.turn t4 (fun q => by omega); have T4 := shut (T3.out.trans t4 (fun i hi e => by omega)); clear rA3 rB3 rZ3 t4 T3) | (refine wpList_store_any rfl 50 (.tmp 3) (.tmp 34) rfl (w.heap.size + 1) CA rfl rfl 50 CB rB4 hia hsab.symm h1a ?_; intro w5 R5 t5; have rA5 := R4.turn t5 (fun q => hne q); have rZ5 := rZ4.turn t5 (fun q => by omega); have T5 := shut (T4.out.trans t5 (fun i hi e => by omega)); clear R4 rB4 rZ4 t5 T4))
          go_wp2_with (first | (refine wpList_load_row rfl 50 (.tmp 2) rfl w.heap.size rfl 50 CB _ _ rA5 Tryz.underlying50 rfl hib ?_) | (refine wpList_load_row rfl 50 (.tmp 3) rfl (w.heap.size + 1) rfl 50 CA _ _ R5 Tryz.underlying50 rfl hia ?_) | (refine wpList_build_as rfl 52 0 1 (.tmp 35) (.tmp 36) rfl _ _ rfl rfl EBA hba ?_) | (refine wpList_store_any rfl 52 (.tmp 4) (.tmp 37) rfl (w.heap.size + 1 + 1) EBA rfl rfl 52 ZE rZ5 hiba hzba h1ba ?_; intro w6 R6 t6))
          refine bodyPost_ret (v := .tuple #[.agg EBA, .int .i64 0]) ?_ rfl ⟨by rw [HE2.out.1, HE2.out.2], T5.out.trans t6 (fun i hi e => by omega)⟩
          exact results_cell_row_tmpQ Tryz.results21 _ _ (w.heap.size + 1 + 1) 52 EBA (0, 0) _ rfl R6 Tryz.underlying52 rfl hiba
end Go.Proofs.YtgbcdjjnpadddaaGreatDoor



/- Pair of the document. -/
namespace Go.Proofs.YtgbcdjjnpadddaaGreatDoor
open Go.RowKit
set_option linter.unusedVariables false

set_option maxRecDepth 100000 in
set_option maxHeartbeats 8000000 in
theorem rpair6 (w : World) (a b : Vt) (ha : a.ok) (hb : b.ok) : Calls Tryz.prog 69 #[.agg a.cs.toArray, .agg b.cs.toArray] w fun e w' => e = .returned (.tuple #[.agg (pairC a b), .int .i64 (pairE a b)]) ∧ Turn no w w' := by
  have hsa := a.size ha
  have hsb := b.size hb
  have hia : (Tryz.prog.info? 50).map (·.size) = some a.cs.toArray.size := by rw [hsa]; exact qsize29
  have hib : (Tryz.prog.info? 50).map (·.size) = some b.cs.toArray.size := by rw [hsb]; exact qsize29
  have HPA := shut (fun W => plain12 W a ha)
  have HPB := shut (fun W => plain12 W b hb)
  have HBL := shut (fun W => below13 W b.id a.id hb.1 ha.1)
  have h1a := a.all1
  have h1b := b.all1
  have HVA : Shut (∀ W g, Row W g a.cs.toArray 50 → At W g a) := fun W g r => r.vt ha
  have HVB : Shut (∀ W g, Row W g b.cs.toArray 50 → At W g b) := fun W g r => r.vt hb
  have HB32 : Shut (Tryz.prog.built 52 [(0, .agg a.cs.toArray), (1, .agg b.cs.toArray)] = some (evC a b) ∧ Tryz.prog.built 52 [(0, .agg b.cs.toArray), (1, .agg a.cs.toArray)] = some (evC b a)) := ⟨by rw [built32 _ _ hsa hsb, evC_eq], by rw [built32 _ _ hsb hsa, evC_eq]⟩
  have HOK := shut (And.intro ha hb)
  generalize a.cs.toArray = CA at *
  generalize b.cs.toArray = CB at *
  clear ha hb
  have z32 := zero32
  have HZS := shut (evC_size zvt_ok zvt_ok)
  obtain ⟨ZE, hZ⟩ : ∃ ZE, evC zvt zvt = ZE := ⟨_, rfl⟩
  rw [hZ] at HZS
  simp only [hZ] at z32
  have HZ := shut hZ
  have hiz : (Tryz.prog.info? 52).map (·.size) = some ZE.size := by rw [HZS.out]; exact size32
  have h1z : ZE.all (·.oneCell') = true := by rw [← hZ]; exact evC_one _ _
  clear hZ
  have RA := ((Row.new w CA 50).alloc (.cells CB 50)).alloc (.cells ZE 52)
  have RB := (Row.newAt (w.alloc (.cells CA 50)) CB 50 (w.heap.size + 1) (by simp)).alloc (.cells ZE 52)
  have RZ := Row.newAt ((w.alloc (.cells CA 50)).alloc (.cells CB 50)) ZE 52 (w.heap.size + 1 + 1) (by simp)
  have T0 : Turn no w (((w.alloc (.cells CA 50)).alloc (.cells CB 50)).alloc (.cells ZE 52)) := (((Turn.refl no w).alloc _).alloc _).alloc _
  have HT0 := shut T0
  have HRZ := shut RZ
  have HRB := shut RB
  clear T0 RZ RB
  go_enter Tryz.func69, Tryz.ntmps69
  go_wp2_with (refine wpList_load_row rfl 50 (.tmp 2) rfl w.heap.size rfl 50 CA _ _ RA Tryz.underlying50 rfl hia ?_)
  have HRA := shut RA
  clear RA
  generalize ((w.alloc (.cells CA 50)).alloc (.cells CB 50)).alloc (.cells ZE 52) = w0 at *
  refine (HPA.out w0).mono ?_
  rintro e w1 ⟨rfl, t1⟩
  have RA1 := shut (HRA.out.turn t1 (fun q => q))
  have RB1 := HRB.out.turn t1 (fun q => q)
  have RZ1 := HRZ.out.turn t1 (fun q => q)
  have T1 := shut (HT0.out.then_no t1)
  clear t1 HRA HRB HRZ HT0 HPA
  by_cases hza : plainE a = 0
  · have HA0 := shut hza
    rw [hza]
    clear hza
    go_wp2_with (refine wpList_load_row rfl 50 (.tmp 3) rfl (w.heap.size + 1) rfl 50 CB _ _ RB1 Tryz.underlying50 rfl hib ?_)
    refine (HPB.out w1).mono ?_
    rintro e w2 ⟨rfl, t2⟩
    have RA2 := shut (RA1.out.turn t2 (fun q => q))
    have RB2 := shut (RB1.turn t2 (fun q => q))
    have RZ2 := RZ1.turn t2 (fun q => q)
    have T2 := shut (T1.out.then_no t2)
    clear t2 RA1 RB1 RZ1 T1 HPB
    by_cases hzb : plainE b = 0
    · have HB0 := shut hzb
      rw [hzb]
      clear hzb
      obtain ⟨a0, a1, a2, _, a36, aid⟩ := HVA.out _ _ RA2.out
      obtain ⟨b0, b1, b2, _, b36, bid⟩ := HVB.out _ _ RB2.out
      have hda : (Tryz.prog.info? 26).map (·.size) = some (a.id.map bv).length := by rw [List.length_map, HOK.out.1.1]; exact qsize24
      have hdb : (Tryz.prog.info? 26).map (·.size) = some (b.id.map bv).length := by rw [List.length_map, HOK.out.2.1]; exact qsize24
      have he := fun W => eqIn24 W 9998 a.id b.id HOK.out.1.1 HOK.out.2.1
      have hno : conB a b = false → Shut (pairE a b = 110 ∧ pairC a b = ZE) := fun hc => by
        have := pairE_c HA0.out HB0.out hc
        rw [HZ.out] at this
        exact this
      have HNO := shut hno
      clear hno
      refine cut5 (a.f == b.f) (a.h == b.h) (a.r == b.r) (a.k == b.k) ?_ ?_ ?_ ?_ ?_
      · intro q0
        have HE := HNO.out (by simp [conB, q0])
        clear HNO aid bid hda hdb he
        have p0 := bne_of q0
        generalize a.k = ak at *
        generalize a.h = ah at *
        generalize a.r = ar at *
        generalize a.f = af at *
        generalize b.k = bk at *
        generalize b.h = bh at *
        generalize b.r = br at *
        generalize b.f = bf at *
        go_wp2_with (refine wpList_store_any rfl 52 (.tmp 4) (.tmp 50) rfl (w.heap.size + 1 + 1) ZE rfl rfl 52 ZE RZ2 hiz rfl h1z ?_; intro w3 R3 t3)
        refine bodyPost_ret (v := .tuple #[.agg ZE, .int .i64 110]) ?_ rfl ⟨by rw [HE.out.1, HE.out.2], T2.out.trans t3 (fun i hi e => by omega)⟩
        exact results_cell_row_tmpQ Tryz.results69 _ _ (w.heap.size + 1 + 1) 52 ZE (0, 0) _ rfl R3 Tryz.underlying52 rfl hiz
      · intro q0 q1
        have HE := HNO.out (by simp [conB, q0, q1])
        clear HNO aid bid hda hdb he
        have p0 := bne_of q0
        have p1 := bne_of q1
        generalize a.k = ak at *
        generalize a.h = ah at *
        generalize a.r = ar at *
        generalize a.f = af at *
        generalize b.k = bk at *
        generalize b.h = bh at *
        generalize b.r = br at *
        generalize b.f = bf at *
        go_wp2_with (refine wpList_store_any rfl 52 (.tmp 4) (.tmp 50) rfl (w.heap.size + 1 + 1) ZE rfl rfl 52 ZE RZ2 hiz rfl h1z ?_; intro w3 R3 t3)
        refine bodyPost_ret (v := .tuple #[.agg ZE, .int .i64 110]) ?_ rfl ⟨by rw [HE.out.1, HE.out.2], T2.out.trans t3 (fun i hi e => by omega)⟩
        exact results_cell_row_tmpQ Tryz.results69 _ _ (w.heap.size + 1 + 1) 52 ZE (0, 0) _ rfl R3 Tryz.underlying52 rfl hiz
      · intro q0 q1 q2
        have HE := HNO.out (by simp [conB, q0, q1, q2])
        clear HNO aid bid hda hdb he
        have p0 := bne_of q0
        have p1 := bne_of q1
        have p2 := bne_of q2
        generalize a.k = ak at *
        generalize a.h = ah at *
        generalize a.r = ar at *
        generalize a.f = af at *
        generalize b.k = bk at *
        generalize b.h = bh at *
        generalize b.r = br at *
        generalize b.f = bf at *
        go_wp2_with (refine wpList_store_any rfl 52 (.tmp 4) (.tmp 50) rfl (w.heap.size + 1 + 1) ZE rfl rfl 52 ZE RZ2 hiz rfl h1z ?_; intro w3 R3 t3)
        refine bodyPost_ret (v := .tuple #[.agg ZE, .int .i64 110]) ?_ rfl ⟨by rw [HE.out.1, HE.out.2], T2.out.trans t3 (fun i hi e => by omega)⟩
        exact results_cell_row_tmpQ Tryz.results69 _ _ (w.heap.size + 1 + 1) 52 ZE (0, 0) _ rfl R3 Tryz.underlying52 rfl hiz
      · intro q0 q1 q2 q3
        have HE := HNO.out (by simp [conB, q0, q1, q2, q3])
        clear HNO aid bid hda hdb he
        have p0 := bne_of q0
        have p1 := bne_of q1
        have p2 := bne_of q2
        have p3 := bne_of q3
        generalize a.k = ak at *
        generalize a.h = ah at *
        generalize a.r = ar at *
        generalize a.f = af at *
        generalize b.k = bk at *
        generalize b.h = bh at *
        generalize b.r = br at *
        generalize b.f = bf at *
        go_wp2_with (refine wpList_store_any rfl 52 (.tmp 4) (.tmp 50) rfl (w.heap.size + 1 + 1) ZE rfl rfl 52 ZE RZ2 hiz rfl h1z ?_; intro w3 R3 t3)
        refine bodyPost_ret (v := .tuple #[.agg ZE, .int .i64 110]) ?_ rfl ⟨by rw [HE.out.1, HE.out.2], T2.out.trans t3 (fun i hi e => by omega)⟩
        exact results_cell_row_tmpQ Tryz.results69 _ _ (w.heap.size + 1 + 1) 52 ZE (0, 0) _ rfl R3 Tryz.underlying52 rfl hiz
      · intro q0 q1 q2 q3
        have p0 := bne_of q0
        have p1 := bne_of q1
        have p2 := bne_of q2
        have p3 := bne_of q3
        cases hid : (a.id == b.id)
        · have HE := shut (pairE_d HA0.out HB0.out (by simp [conB, q0, q1, q2, q3, hid]))
          have HE2 : Shut (pairE a b = 0 ∧ (ltB b.id a.id = true → pairC a b = evC b a) ∧ (ltB b.id a.id = false → pairC a b = evC a b)) := ⟨HE.out.1, fun q => by rw [HE.out.2, q]; rfl, fun q => by rw [HE.out.2, q]; rfl⟩
          have hiE : ∀ x y : Vt, x.ok → y.ok → (Tryz.prog.info? 52).map (·.size) = some (evC x y).size := fun x y hx hy => by rw [evC_size hx hy]; exact size32
          have hiab := hiE a b HOK.out.1 HOK.out.2
          have hiba := hiE b a HOK.out.2 HOK.out.1
          have hzab : ZE.size = (evC a b).size := by rw [HZS.out, evC_size HOK.out.1 HOK.out.2]
          have hzba : ZE.size = (evC b a).size := by rw [HZS.out, evC_size HOK.out.2 HOK.out.1]
          have h1ab := evC_one a b
          have h1ba := evC_one b a
          have hab := HB32.out.1
          have hba := HB32.out.2
          rw [hid] at he
          clear HNO HE hiE hid HB32 HA0 HB0 HOK
          generalize evC a b = EAB at *
          generalize evC b a = EBA at *
          generalize ltB b.id a.id = LT at *
          generalize a.id.map bv = DA at *
          generalize b.id.map bv = DB at *
          generalize a.k = ak at *
          generalize a.h = ah at *
          generalize a.r = ar at *
          generalize a.f = af at *
          generalize b.k = bk at *
          generalize b.h = bh at *
          generalize b.r = br at *
          generalize b.f = bf at *
          go_wp2_with (first | (refine wpList_load_midG (by rfl) 26 (.tmp 44) rfl w.heap.size 3 rfl DA _ aid Tryz.underlying26 rfl hda ?_) | (refine wpList_load_midG (by rfl) 26 (.tmp 46) rfl (w.heap.size + 1) 3 rfl DB _ bid Tryz.underlying26 rfl hdb ?_) | (refine wpList_load_mid rfl 26 (.tmp 51) rfl (w.heap.size + 1) 3 rfl DB _ bid Tryz.underlying26 rfl hdb ?_) | (refine wpList_load_mid rfl 26 (.tmp 53) rfl w.heap.size 3 rfl DA _ aid Tryz.underlying26 rfl hda ?_))
          refine (HBL.out w2).mono ?_
          rintro e w3 ⟨rfl, t3⟩
          have rA3 := RA2.out.turn t3 (fun q => q)
          have rB3 := RB2.out.turn t3 (fun q => q)
          have rZ3 := RZ2.turn t3 (fun q => q)
          have T3 := shut (T2.out.then_no t3)
          clear t3 RA2 RB2 RZ2 T2 aid bid hda hdb he a0 a1 a2 a36 b0 b1 b2 b36 HBL
          cases LT
          · have hE := HE2.out.2.2 rfl
            have HE3 := shut (And.intro HE2.out.1 hE)
            clear HE2 hE
            go_wp2_with (first | (refine wpList_load_row rfl 50 (.tmp 2) rfl w.heap.size rfl 50 CA _ _ rA3 Tryz.underlying50 rfl hia ?_) | (refine wpList_load_row rfl 50 (.tmp 3) rfl (w.heap.size + 1) rfl 50 CB _ _ rB3 Tryz.underlying50 rfl hib ?_) | (refine wpList_build_as rfl 52 0 1 (.tmp 59) (.tmp 60) rfl _ _ rfl rfl EAB hab ?_) | (refine wpList_store_any rfl 52 (.tmp 4) (.tmp 61) rfl (w.heap.size + 1 + 1) EAB rfl rfl 52 ZE rZ3 hiab hzab h1ab ?_; intro w4 R4 t4))
            refine bodyPost_ret (v := .tuple #[.agg EAB, .int .i64 0]) ?_ rfl ⟨by rw [HE3.out.1, HE3.out.2], T3.out.trans t4 (fun i hi e => by omega)⟩
            exact results_cell_row_tmpQ Tryz.results69 _ _ (w.heap.size + 1 + 1) 52 EAB (0, 0) _ rfl R4 Tryz.underlying52 rfl hiab
          · have hE := HE2.out.2.1 rfl
            have HE3 := shut (And.intro HE2.out.1 hE)
            clear HE2 hE
            go_wp2_with (first | (refine wpList_load_row rfl 50 (.tmp 2) rfl w.heap.size rfl 50 CA _ _ rA3 Tryz.underlying50 rfl hia ?_) | (refine wpList_load_row rfl 50 (.tmp 3) rfl (w.heap.size + 1) rfl 50 CB _ _ rB3 Tryz.underlying50 rfl hib ?_) | (refine wpList_build_as rfl 52 0 1 (.tmp 56) (.tmp 57) rfl _ _ rfl rfl EBA hba ?_) | (refine wpList_store_any rfl 52 (.tmp 4) (.tmp 58) rfl (w.heap.size + 1 + 1) EBA rfl rfl 52 ZE rZ3 hiba hzba h1ba ?_; intro w4 R4 t4))
            refine bodyPost_ret (v := .tuple #[.agg EBA, .int .i64 0]) ?_ rfl ⟨by rw [HE3.out.1, HE3.out.2], T3.out.trans t4 (fun i hi e => by omega)⟩
            exact results_cell_row_tmpQ Tryz.results69 _ _ (w.heap.size + 1 + 1) 52 EBA (0, 0) _ rfl R4 Tryz.underlying52 rfl hiba
        · have HE := HNO.out (by simp [conB, q0, q1, q2, q3, hid])
          rw [hid] at he
          clear HNO hid
          generalize a.id.map bv = DA at *
          generalize b.id.map bv = DB at *
          generalize a.k = ak at *
          generalize a.h = ah at *
          generalize a.r = ar at *
          generalize a.f = af at *
          generalize b.k = bk at *
          generalize b.h = bh at *
          generalize b.r = br at *
          generalize b.f = bf at *
          go_wp2_with (first | (refine wpList_load_midG (by rfl) 26 (.tmp 44) rfl w.heap.size 3 rfl DA _ aid Tryz.underlying26 rfl hda ?_) | (refine wpList_load_midG (by rfl) 26 (.tmp 46) rfl (w.heap.size + 1) 3 rfl DB _ bid Tryz.underlying26 rfl hdb ?_) | (refine wpList_store_any rfl 52 (.tmp 4) (.tmp 50) rfl (w.heap.size + 1 + 1) ZE rfl rfl 52 ZE RZ2 hiz rfl h1z ?_; intro w3 R3 t3))
          refine bodyPost_ret (v := .tuple #[.agg ZE, .int .i64 110]) ?_ rfl ⟨by rw [HE.out.1, HE.out.2], T2.out.trans t3 (fun i hi e => by omega)⟩
          exact results_cell_row_tmpQ Tryz.results69 _ _ (w.heap.size + 1 + 1) 52 ZE (0, 0) _ rfl R3 Tryz.underlying52 rfl hiz
    · have hzz : (plainE b != 0) = true := by simpa using hzb
      have HE := shut (pairE_b HA0.out hzb)
      rw [HZ.out] at HE
      clear hzb
      generalize plainE b = E at *
      go_wp2_with (refine wpList_store_any rfl 52 (.tmp 4) (.tmp 15) rfl (w.heap.size + 1 + 1) ZE rfl rfl 52 ZE RZ2 hiz rfl h1z ?_; intro w3 R3 t3)
      refine bodyPost_ret (v := .tuple #[.agg ZE, .int .i64 E]) ?_ rfl ⟨by rw [HE.out.1, HE.out.2], T2.out.trans t3 (fun i hi e => by omega)⟩
      exact results_cell_row_tmpQ Tryz.results69 _ _ (w.heap.size + 1 + 1) 52 ZE (0, 0) _ rfl R3 Tryz.underlying52 rfl hiz
  · have hzz : (plainE a != 0) = true := by simpa using hza
    have hzq : (plainE a == 0) = false := by simpa using hza
    have HE := shut (pairE_a (b := b) hza)
    rw [HZ.out] at HE
    clear hza
    generalize plainE a = E at *
    go_wp2_with (refine wpList_store_any rfl 52 (.tmp 4) (.tmp 15) rfl (w.heap.size + 1 + 1) ZE rfl rfl 52 ZE RZ1 hiz rfl h1z ?_; intro w3 R3 t3)
    refine bodyPost_ret (v := .tuple #[.agg ZE, .int .i64 E]) ?_ rfl ⟨by rw [HE.out.1, HE.out.2], T1.out.trans t3 (fun i hi e => by omega)⟩
    exact results_cell_row_tmpQ Tryz.results69 _ _ (w.heap.size + 1 + 1) 52 ZE (0, 0) _ rfl R3 Tryz.underlying52 rfl hiz
end Go.Proofs.YtgbcdjjnpadddaaGreatDoor



/- Evidence held against itself; New, Len; alive. -/
namespace Go.Proofs.YtgbcdjjnpadddaaGreatDoor
open Go.RowKit
set_option linter.unusedVariables false

theorem eqFields_self (w : World) (d : Nat) (xs : Array Value) : ∀ fs : List Field, (∀ f ∈ fs, ∃ v, (part f.type xs f.offset).run Tryz.prog w = .ok v w ∧ (Op.equalIn d f.type v v).run Tryz.prog w = .ok true w) → (Op.eqFields d xs xs fs).run Tryz.prog w = .ok true w
  | [], _ => by simp [Op.eqFields]
  | f :: fs, h => by
    obtain ⟨v, h1, h2⟩ := h f (by simp)
    have ih := eqFields_self w d xs fs (fun g hg => h g (by simp [hg]))
    simp only [Op.eqFields, Sem.run_bind, Sem.run_ite]
    split
    · simp only [h1, h2, Result.andThen_ok, Bool.not_true, Bool.false_eq_true, if_false]
      exact ih
    · exact ih
theorem fields29 : (Tryz.prog.fieldsOf 50).toList.map (fun f => (f.type, f.offset)) = [(3, 0), (22, 1), (3, 2), (26, 3), (22, 35), (46, 36), (48, 37)] := by kernel_rfl
theorem fields32 : (Tryz.prog.fieldsOf 52).toList.map (fun f => (f.type, f.offset)) = [(50, 0), (50, 53)] := by kernel_rfl
theorem Vt.x24 {v : Vt} (h : v.ok) : v.cs.toArray.extract 3 35 = (v.id.map bv).toArray := by
  apply Array.ext'
  simp only [Array.toList_extract, Vt.cs, List.extract_eq_take_drop]
  simp [h.1]
theorem Vt.x27 {v : Vt} (h : v.ok) : v.cs.toArray.extract 37 53 = (v.se.map bv).toArray := by
  apply Array.ext'
  simp only [Array.toList_extract, Vt.cs, List.extract_eq_take_drop]
  simp [List.drop_append, h.1]
  rw [List.drop_eq_nil_of_le (by simp [h.1]), List.nil_append]
  exact List.take_of_length_le (by simp [h.2])
theorem cell_part {t : TypeId} (w : World) {xs : Array Value} {o : Nat} {v : Value} (ha : (isAgg t).run Tryz.prog w = .ok false w) (h : xs[o]? = some v) : (part t xs o).run Tryz.prog w = .ok v w := by
  simp [part, ha, h]
theorem agg_part {t : TypeId} (w : World) {xs ys : Array Value} {o n : Nat} (ha : (isAgg t).run Tryz.prog w = .ok true w) (hs : (Tryz.prog.info? t).map (·.size) = some n) (h : xs.extract o (o + n) = ys) : (part t xs o).run Tryz.prog w = .ok (.agg ys) w := by
  cases hq : Tryz.prog.info? t with
  | none => simp [hq] at hs
  | some i =>
    have hi : i.size = n := by simpa [hq] using hs
    simp [part, ha, sizeOf, typeInfo, hq, hi, h]
theorem mqsize27 : (Tryz.prog.info? 48).map (·.size) = some 16 := by kernel_rfl
theorem eq29 (w : World) (d : Nat) (v : Vt) (h : v.ok) : (Op.equalIn (d + 3) 50 (.agg v.cs.toArray) (.agg v.cs.toArray)).run Tryz.prog w = .ok true w := by
  rw [run_equalIn_struct w (d + 2) 50 _ _ (by kernel_rfl) (by kernel_rfl)]
  refine eqFields_self w (d + 2) _ _ (fun f hf => ?_)
  have hm : (f.type, f.offset) ∈ [(3, 0), (22, 1), (3, 2), (26, 3), (22, 35), (46, 36), (48, 37)] := by
    rw [← fields29]
    exact List.mem_map.2 ⟨f, hf, rfl⟩
  generalize f.type = t at *
  generalize f.offset = o at *
  simp only [List.mem_cons, Prod.mk.injEq, List.not_mem_nil, or_false] at hm
  rcases hm with ⟨rfl, rfl⟩ | ⟨rfl, rfl⟩ | ⟨rfl, rfl⟩ | ⟨rfl, rfl⟩ | ⟨rfl, rfl⟩ | ⟨rfl, rfl⟩ | ⟨rfl, rfl⟩
  · exact ⟨_, cell_part w (by kernel_rfl) v.c0, by rw [run_equalIn_int w (d + 1) 3 .i64 .i64 _ _ Tryz.underlying3]; simp⟩
  · exact ⟨_, cell_part w (by kernel_rfl) v.c1, by rw [run_equalIn_int w (d + 1) 22 .u64 .u64 _ _ Tryz.underlying22]; simp⟩
  · exact ⟨_, cell_part w (by kernel_rfl) v.c2, by rw [run_equalIn_int w (d + 1) 3 .i64 .i64 _ _ Tryz.underlying3]; simp⟩
  · exact ⟨_, agg_part w (by kernel_rfl) qsize24 (Vt.x24 h), by rw [eqIn24 w d _ _ h.1 h.1]; simp⟩
  · exact ⟨_, cell_part w (by kernel_rfl) (Vt.c35 h), by rw [run_equalIn_int w (d + 1) 22 .u64 .u64 _ _ Tryz.underlying22]; simp⟩
  · exact ⟨_, cell_part w (by kernel_rfl) (Vt.c36 h), by rw [run_equalIn_int w (d + 1) 46 .u64 .u64 _ _ Tryz.underlying46]; simp⟩
  · exact ⟨_, agg_part w (by kernel_rfl) mqsize27 (Vt.x27 h), by rw [eqIn27 w d _ _ h.2 h.2]; simp⟩
theorem evC_a {a b : Vt} (ha : a.ok) (hb : b.ok) : (evC a b).extract 0 53 = a.cs.toArray := by
  apply Array.ext'
  simp [evC, a.len ha]
theorem evC_b {a b : Vt} (ha : a.ok) (hb : b.ok) : (evC a b).extract 53 106 = b.cs.toArray := by
  apply Array.ext'
  simp [evC, a.len ha]
  exact List.take_of_length_le (by rw [b.len hb]; omega)
theorem eq32 (w : World) (a b : Vt) (ha : a.ok) (hb : b.ok) : (Op.equalIn 10000 52 (.agg (evC a b)) (.agg (evC a b))).run Tryz.prog w = .ok true w := by
  rw [run_equalIn_struct w 9999 52 _ _ (by kernel_rfl) (by kernel_rfl)]
  refine eqFields_self w 9999 _ _ (fun f hf => ?_)
  have hm : (f.type, f.offset) ∈ [(50, 0), (50, 53)] := by
    rw [← fields32]
    exact List.mem_map.2 ⟨f, hf, rfl⟩
  generalize f.type = t at *
  generalize f.offset = o at *
  simp only [List.mem_cons, Prod.mk.injEq, List.not_mem_nil, or_false] at hm
  rcases hm with ⟨rfl, rfl⟩ | ⟨rfl, rfl⟩
  · exact ⟨_, agg_part w (by kernel_rfl) qsize29 (evC_a ha hb), eq29 w 9996 a ha⟩
  · exact ⟨_, agg_part w (by kernel_rfl) qsize29 (evC_b ha hb), eq29 w 9996 b hb⟩
theorem pair_eq (w : World) (a b : Vt) (ha : a.ok) (hb : b.ok) : (Op.equalIn 10000 52 (.agg (pairC a b)) (.agg (pairC a b))).run Tryz.prog w = .ok true w := by
  unfold pairC
  split
  · exact eq32 w _ _ zvt_ok zvt_ok
  · split
    · exact eq32 w _ _ hb ha
    · exact eq32 w _ _ ha hb
theorem eql37_same (a : Addr) (w : World) : (binOp .eql 44 (.pointer (some a)) (.pointer (some a))).run Tryz.prog w = .ok (.bool true) w := by
  obtain ⟨j, hj⟩ := Option.isSome_iff_exists.1 (show (Tryz.prog.info? 96).isSome = true by kernel_rfl)
  exact run_eql_ptr_same w a Tryz.underlying44 hj
theorem made14 (w : World) (p : Nat) (h0 : w.cell? ⟨p, 0, none⟩ = some (.pointer (some ⟨p, 0, none⟩))) : Calls Tryz.prog 29 #[.pointer (some ⟨p, 0, none⟩)] w fun e w' => e = .returned (.bool true) ∧ w' = w := by
  have e1 := fun a w => eql37_same a w
  go_enter Tryz.func29, Tryz.ntmps29
  go_wp2_with fail
  go_ret
  exact ⟨rfl, rfl⟩
theorem new7 (w : World) : Calls Tryz.prog 7 #[] w fun e w' => ∃ p m, e = .returned (.pointer (some ⟨p, 0, none⟩)) ∧ w'.cell? ⟨p, 0, none⟩ = some (.pointer (some ⟨p, 0, none⟩)) ∧ w'.cell? ⟨p, 1, none⟩ = some (.map (some m)) ∧ w'.heap[m]? = some (.map #[] 0) ∧ Turn no w w' := by
  have m1 := fun W => run_makeMap (P := Tryz.prog) 94 W
  go_enter Tryz.func7, Tryz.ntmps7
  go_wp2_with fail
  go_ret
  refine ⟨w.heap.size + 1, w.heap.size, rfl, ?_, ?_, ?_, ?_⟩
  · simp
  · simp
  · exact heap_alloc2_old w _ _
  · exact ((Turn.refl no w).alloc _).alloc _
set_option maxRecDepth 100000 in
theorem len8 (w : World) (p m : Nat) (h0 : w.cell? ⟨p, 0, none⟩ = some (.pointer (some ⟨p, 0, none⟩))) (h1 : w.cell? ⟨p, 1, none⟩ = some (.map (some m))) (hm : w.heap[m]? = some (.map #[] 0)) : Calls Tryz.prog 11 #[.pointer (some ⟨p, 0, none⟩)] w fun e w' => e = .returned (.int .i64 0) ∧ w = w' := by
  have hl : (Builtin.len_ #[94] 3 #[.map (some m)]).run Tryz.prog w = .ok (.int .i64 0) w := by
    simp [Builtin.len_, run_underlying Tryz.underlying94, MapKept.run_getObj_map hm, goInt]
  go_enter Tryz.func11, Tryz.ntmps11
  go_wp2_with fail
  refine (made14 w p h0).mono ?_
  rintro e w' ⟨rfl, rfl⟩
  go_wp2_with fail
  go_ret
  exact ⟨rfl, rfl⟩
section
variable {P : Program} {ops : Array Oper} {rest : List Oper} {o : Oper} {a : Act} {w : World} {Q : Exit → Act → World → Prop}
theorem wpList_build1 (hg : o.guard = none) (t : TypeId) (i0 : Nat) (x0 : Operand) (ho : o.op = .build t #[(i0, x0)]) (v0 : Value) (h0 : a.eval x0 = v0) (cells : Array Value)
    (hf : P.built t [(i0, v0)] = some cells) (h : wpList P ops Q rest (a.put o.dst (.agg cells)) w) : wpList P ops Q (o :: rest) a w := by
  have e : (#[(i0, x0)].map fun (i, x) => (i, a.eval x)).toList = [(i0, v0)] := by simp [h0]
  exact wpList_build hg t _ ho (by rw [e, hf]; rfl) (by rw [e, hf]; exact h)
theorem wpList_build4 (hg : o.guard = none) (t : TypeId) (i0 i1 i2 i3 : Nat) (x0 x1 x2 x3 : Operand) (ho : o.op = .build t #[(i0, x0), (i1, x1), (i2, x2), (i3, x3)]) (v0 v1 v2 v3 : Value) (h0 : a.eval x0 = v0) (h1 : a.eval x1 = v1) (h2 : a.eval x2 = v2) (h3 : a.eval x3 = v3) (cells : Array Value)
    (hf : P.built t [(i0, v0), (i1, v1), (i2, v2), (i3, v3)] = some cells) (h : wpList P ops Q rest (a.put o.dst (.agg cells)) w) : wpList P ops Q (o :: rest) a w := by
  have e : (#[(i0, x0), (i1, x1), (i2, x2), (i3, x3)].map fun (i, x) => (i, a.eval x)).toList = [(i0, v0), (i1, v1), (i2, v2), (i3, v3)] := by simp [h0, h1, h2, h3]
  exact wpList_build hg t _ ho (by rw [e, hf]; rfl) (by rw [e, hf]; exact h)
end
def idA (n : UInt8) : List UInt8 := n :: List.replicate 31 0
/-- The two votes of alive. -/
def vtA (n : UInt8) : Vt := ⟨1, 5, 0, idA n, 0, 3, List.replicate 16 0⟩
theorem vtA_ok (n : UInt8) : (vtA n).ok := ⟨rfl, rfl⟩
theorem b24 (n : UInt8) : Tryz.prog.built 26 [(0, .int .u8 n.toNat)] = some ((idA n).map bv).toArray := by kernel_rfl
theorem b29 (n : UInt8) : Tryz.prog.built 50 [(0, .int .i64 1), (1, .int .u64 5), (5, .int .u64 3), (3, .agg ((idA n).map bv).toArray)] = some (vtA n).cs.toArray := by kernel_rfl
theorem alive_pair : pairE (vtA 2) (vtA 1) = 0 ∧ pairC (vtA 2) (vtA 1) = evC (vtA 1) (vtA 2) := by
  have h : pairE (vtA 2) (vtA 1) = 0 := by decide
  have hl : ltB (vtA 1).id (vtA 2).id = true := by decide
  refine ⟨h, ?_⟩
  unfold pairC
  rw [h, hl]
  rfl

set_option maxRecDepth 100000 in
set_option maxHeartbeats 4000000 in
theorem alive4 (w : World) : Calls Tryz.prog 5 #[] w fun e w' => e = .returned (.bool true) ∧ Turn no w w' := by
  have h2a := b24 2
  have h2b := b29 2
  have h1a := b24 1
  have h1b := b29 1
  have hsA := (vtA 2).size (vtA_ok 2)
  have hsB := (vtA 1).size (vtA_ok 1)
  have HP := shut (fun W => pair5 W (vtA 2) (vtA 1) (vtA_ok 2) (vtA_ok 1))
  rw [alive_pair.1, alive_pair.2] at HP
  have oA := (vtA 2).all1
  have oB := (vtA 1).all1
  have HQ := shut (fun W => eq29 W 9997 (vtA 2) (vtA_ok 2))
  have HR := shut (fun W => eq29 W 9997 (vtA 1) (vtA_ok 1))
  have hsE := evC_size (vtA_ok 1) (vtA_ok 2)
  have oE := evC_one (vtA 1) (vtA 2)
  have HX0 := shut (evC_a (vtA_ok 1) (vtA_ok 2))
  have HX1 := shut (evC_b (vtA_ok 1) (vtA_ok 2))
  have z29 := zero29
  have z32 := zero32
  have HZ := shut (zvt.size zvt_ok)
  have HZE := shut (evC_size zvt_ok zvt_ok)
  generalize (vtA 2).cs.toArray = VA at *
  generalize (vtA 1).cs.toArray = VB at *
  generalize evC (vtA 1) (vtA 2) = EV at *
  generalize evC zvt zvt = ZE at *
  generalize zvt.cs.toArray = Z29 at *
  generalize ((idA 2).map bv).toArray = IA at *
  generalize ((idA 1).map bv).toArray = IB at *
  have hiA : (Tryz.prog.info? 50).map (·.size) = some VA.size := by rw [hsA]; exact qsize29
  have hiB : (Tryz.prog.info? 50).map (·.size) = some VB.size := by rw [hsB]; exact qsize29
  have hiE : (Tryz.prog.info? 52).map (·.size) = some EV.size := by rw [hsE]; exact size32
  have hzA : Z29.size = VA.size := by rw [HZ.out, hsA]
  have hzB : Z29.size = VB.size := by rw [HZ.out, hsB]
  have hzE : ZE.size = EV.size := by rw [HZE.out, hsE]
  go_enter Tryz.func5, Tryz.ntmps5
  go_upto_region 3 with (first | (refine wpList_build1 rfl 26 0 _ rfl _ rfl IA h2a ?_) | (refine wpList_build4 rfl 50 0 1 5 3 _ _ _ (.tmp 6) rfl _ _ _ _ rfl rfl rfl rfl VA h2b ?_) | (refine wpList_store_any rfl 50 (.tmp 1) (.tmp 7) rfl w.heap.size VA rfl rfl 50 Z29 (Row.new w Z29 50) hiA hzA oA ?_; intro w1 R1 t1; clear h2a h2b) | (refine wpList_build1 rfl 26 0 _ rfl _ rfl IB h1a ?_) | (refine wpList_build4 rfl 50 0 1 5 3 _ _ _ (.tmp 8) rfl _ _ _ _ rfl rfl rfl rfl VB h1b ?_) | (refine wpList_store_any rfl 50 (.tmp 2) (.tmp 9) rfl w1.heap.size VB rfl rfl 50 Z29 (Row.new w1 Z29 50) hiB hzB oB ?_; intro w2 R2 t2; clear h1a h1b))
  have T1 : Turn no w w1 := ((Turn.refl no w).alloc _).trans t1 (fun i hi e => by omega)
  have T2 : Turn no w1 w2 := ((Turn.refl no w1).alloc _).trans t2 (fun i hi e => by omega)
  have RA := R1.turn T2 (fun q => q)
  have TT := shut (T1.then_no T2)
  clear t1 t2 T1 R1 T2
  generalize w1.heap.size = g1 at *
  generalize hg0 : w.heap.size = g0 at *
  clear hg0
  go_wp2_with (first | (refine wpList_load_row rfl 50 (.tmp 1) rfl g0 rfl 50 VA _ _ RA Tryz.underlying50 rfl hiA ?_) | (refine wpList_load_row rfl 50 (.tmp 2) rfl g1 rfl 50 VB _ _ R2 Tryz.underlying50 rfl hiB ?_))
  refine (HP.out w2).mono ?_
  rintro e w3 ⟨rfl, t3⟩
  have RA3 := RA.turn t3 (fun q => q)
  have RB3 := R2.turn t3 (fun q => q)
  have TT3 := shut (TT.out.then_no t3)
  clear RA R2 TT t3 HP
  go_wp2_with (refine wpList_store_any rfl 52 (.tmp 3) (.tmp 14) rfl w3.heap.size EV rfl rfl 52 ZE (Row.new w3 ZE 52) hiE hzE oE ?_; intro w4 R4 t4)
  have T4 : Turn no w3 w4 := ((Turn.refl no w3).alloc _).trans t4 (fun i hi e => by omega)
  have RA4 := RA3.turn T4 (fun q => q)
  have RB4 := RB3.turn T4 (fun q => q)
  have TT4 := shut (TT3.out.then_no T4)
  clear t4 T4 RA3 RB3 TT3
  generalize w3.heap.size = g3 at *
  refine (new7 w4).mono ?_
  rintro e w5 ⟨p, m, rfl, c0, c1, hm, t5⟩
  have hl := shut (len8 w5 p m c0 c1 hm)
  have rA := World.rangeAt_of_block (RA4.turn t5 (fun q => q)) 0 53
  have rB := World.rangeAt_of_block (RB4.turn t5 (fun q => q)) 0 53
  have r0 := World.rangeAt_of_block (R4.turn t5 (fun q => q)) 0 53
  have r1 := World.rangeAt_of_block (R4.turn t5 (fun q => q)) 53 53
  have e0 : EV.extract 0 (0 + 53) = VB := HX0.out
  have e1 : EV.extract 53 (53 + 53) = VA := HX1.out
  have eA : VA.extract 0 (0 + 53) = VA := by rw [Nat.zero_add, ← hsA]; simp
  have eB : VB.extract 0 (0 + 53) = VB := by rw [Nat.zero_add, ← hsB]; simp
  rw [e0] at r0
  rw [e1] at r1
  rw [eA] at rA
  rw [eB] at rB
  have TT5 := shut (TT4.out.then_no t5)
  have hq := HQ.out
  have hr := HR.out
  have hlA : (Tryz.prog.info? 50).map (·.size) = some VA.toList.length := by rw [Array.length_toList]; exact hiA
  have hlB : (Tryz.prog.info? 50).map (·.size) = some VB.toList.length := by rw [Array.length_toList]; exact hiB
  clear e0 e1 eA eB RA4 RB4 R4 TT4 t5 hm c0 c1 HX0 HX1 HQ HR
  go_wp2_with (first | (refine wpList_load_midG (by rfl) 50 (.tmp 20) rfl g3 0 rfl VB.toList _ r0 Tryz.underlying50 rfl hlB ?_) | (refine wpList_load_midG (by rfl) 50 (.tmp 2) rfl g1 0 rfl VB.toList _ rB Tryz.underlying50 rfl hlB ?_) | (refine wpList_load_midG (by rfl) 50 (.tmp 26) rfl g3 53 rfl VA.toList _ r1 Tryz.underlying50 rfl hlA ?_) | (refine wpList_load_midG (by rfl) 50 (.tmp 1) rfl g0 0 rfl VA.toList _ rA Tryz.underlying50 rfl hlA ?_))
  refine hl.out.mono ?_
  rintro e w6 ⟨rfl, rfl⟩
  go_wp2_with fail
  go_ret
  exact ⟨rfl, TT5.out⟩
end Go.Proofs.YtgbcdjjnpadddaaGreatDoor


