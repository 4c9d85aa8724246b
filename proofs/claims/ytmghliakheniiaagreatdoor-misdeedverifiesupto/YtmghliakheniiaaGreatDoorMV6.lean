/- Pair of the document. -/
import Derived.Test.YtmghliakheniiaaGreatDoorMV5
namespace Go.Proofs.YtmghliakheniiaaGreatDoor
open Go.RowKit
set_option linter.unusedVariables false

set_option maxRecDepth 100000 in
set_option maxHeartbeats 8000000 in
theorem rpair6 (w : World) (a b : Vt) (ha : a.ok) (hb : b.ok) : Calls Tryz.prog 28 #[.agg a.cs.toArray, .agg b.cs.toArray] w fun e w' => e = .returned (.tuple #[.agg (pairC a b), .int .i64 (pairE a b)]) ∧ Turn no w w' := by
  have hsa := a.size ha
  have hsb := b.size hb
  have hia : (Tryz.prog.info? 43).map (·.size) = some a.cs.toArray.size := by rw [hsa]; exact qsize29
  have hib : (Tryz.prog.info? 43).map (·.size) = some b.cs.toArray.size := by rw [hsb]; exact qsize29
  have HPA := shut (fun W => plain12 W a ha)
  have HPB := shut (fun W => plain12 W b hb)
  have HBL := shut (fun W => below13 W b.id a.id hb.1 ha.1)
  have h1a := a.all1
  have h1b := b.all1
  have HVA : Shut (∀ W g, Row W g a.cs.toArray 43 → At W g a) := fun W g r => r.vt ha
  have HVB : Shut (∀ W g, Row W g b.cs.toArray 43 → At W g b) := fun W g r => r.vt hb
  have HB32 : Shut (Tryz.prog.built 52 [(0, .agg a.cs.toArray), (1, .agg b.cs.toArray)] = some (evC a b) ∧ Tryz.prog.built 52 [(0, .agg b.cs.toArray), (1, .agg a.cs.toArray)] = some (evC b a)) := ⟨by rw [built32 _ _ hsa hsb, evC_eq], by rw [built32 _ _ hsb hsa, evC_eq]⟩
  have HOK := shut (And.intro ha hb)
  generalize a.cs.toArray = CA at *
  generalize b.cs.toArray = CB at *
  clear ha hb
  have z32 := zero32
  have HZS := shut (evC_size zvt_ok zvt_ok)
  obtain ⟨ZE, hZ⟩ : ∃ ZE, evC zvt zvt = ZE := ⟨_, rfl⟩
  rw [hZ] at HZS
  simp only [hZ] at z32
  have HZ := shut hZ
  have hiz : (Tryz.prog.info? 52).map (·.size) = some ZE.size := by rw [HZS.out]; exact size32
  have h1z : ZE.all (·.oneCell') = true := by rw [← hZ]; exact evC_one _ _
  clear hZ
  have RA := ((Row.new w CA 43).alloc (.cells CB 43)).alloc (.cells ZE 52)
  have RB := (Row.newAt (w.alloc (.cells CA 43)) CB 43 (w.heap.size + 1) (by simp)).alloc (.cells ZE 52)
  have RZ := Row.newAt ((w.alloc (.cells CA 43)).alloc (.cells CB 43)) ZE 52 (w.heap.size + 1 + 1) (by simp)
  have T0 : Turn no w (((w.alloc (.cells CA 43)).alloc (.cells CB 43)).alloc (.cells ZE 52)) := (((Turn.refl no w).alloc _).alloc _).alloc _
  have HT0 := shut T0
  have HRZ := shut RZ
  have HRB := shut RB
  clear T0 RZ RB
  go_enter Tryz.func28, Tryz.ntmps28
  go_wp2_with (refine wpList_load_row rfl 43 (.tmp 2) rfl w.heap.size rfl 43 CA _ _ RA Tryz.underlying43 rfl hia ?_)
  have HRA := shut RA
  clear RA
  generalize ((w.alloc (.cells CA 43)).alloc (.cells CB 43)).alloc (.cells ZE 52) = w0 at *
  refine (HPA.out w0).mono ?_
  rintro e w1 ⟨rfl, t1⟩
  have RA1 := shut (HRA.out.turn t1 (fun q => q))
  have RB1 := HRB.out.turn t1 (fun q => q)
  have RZ1 := HRZ.out.turn t1 (fun q => q)
  have T1 := shut (HT0.out.then_no t1)
  clear t1 HRA HRB HRZ HT0 HPA
  by_cases hza : plainE a = 0
  · have HA0 := shut hza
    rw [hza]
    clear hza
    go_wp2_with (refine wpList_load_row rfl 43 (.tmp 3) rfl (w.heap.size + 1) rfl 43 CB _ _ RB1 Tryz.underlying43 rfl hib ?_)
    refine (HPB.out w1).mono ?_
    rintro e w2 ⟨rfl, t2⟩
    have RA2 := shut (RA1.out.turn t2 (fun q => q))
    have RB2 := shut (RB1.turn t2 (fun q => q))
    have RZ2 := RZ1.turn t2 (fun q => q)
    have T2 := shut (T1.out.then_no t2)
    clear t2 RA1 RB1 RZ1 T1 HPB
    by_cases hzb : plainE b = 0
    · have HB0 := shut hzb
      rw [hzb]
      clear hzb
      obtain ⟨a0, a1, a2, _, a36, aid⟩ := HVA.out _ _ RA2.out
      obtain ⟨b0, b1, b2, _, b36, bid⟩ := HVB.out _ _ RB2.out
      have hda : (Tryz.prog.info? 26).map (·.size) = some (a.id.map bv).length := by rw [List.length_map, HOK.out.1.1]; exact qsize24
      have hdb : (Tryz.prog.info? 26).map (·.size) = some (b.id.map bv).length := by rw [List.length_map, HOK.out.2.1]; exact qsize24
      have he := fun W => eqIn24 W 9998 a.id b.id HOK.out.1.1 HOK.out.2.1
      have hno : conB a b = false → Shut (pairE a b = 110 ∧ pairC a b = ZE) := fun hc => by
        have := pairE_c HA0.out HB0.out hc
        rw [HZ.out] at this
        exact this
      have HNO := shut hno
      clear hno
      refine cut5 (a.f == b.f) (a.h == b.h) (a.r == b.r) (a.k == b.k) ?_ ?_ ?_ ?_ ?_
      · intro q0
        have HE := HNO.out (by simp [conB, q0])
        clear HNO aid bid hda hdb he
        have p0 := bne_of q0
        generalize a.k = ak at *
        generalize a.h = ah at *
        generalize a.r = ar at *
        generalize a.f = af at *
        generalize b.k = bk at *
        generalize b.h = bh at *
        generalize b.r = br at *
        generalize b.f = bf at *
        go_wp2_with (refine wpList_store_any rfl 52 (.tmp 4) (.tmp 50) rfl (w.heap.size + 1 + 1) ZE rfl rfl 52 ZE RZ2 hiz rfl h1z ?_; intro w3 R3 t3)
        refine bodyPost_ret (v := .tuple #[.agg ZE, .int .i64 110]) ?_ rfl ⟨by rw [HE.out.1, HE.out.2], T2.out.trans t3 (fun i hi e => by omega)⟩
        exact results_cell_row_tmpQ Tryz.results28 _ _ (w.heap.size + 1 + 1) 52 ZE (0, 0) _ rfl R3 Tryz.underlying52 rfl hiz
      · intro q0 q1
        have HE := HNO.out (by simp [conB, q0, q1])
        clear HNO aid bid hda hdb he
        have p0 := bne_of q0
        have p1 := bne_of q1
        generalize a.k = ak at *
        generalize a.h = ah at *
        generalize a.r = ar at *
        generalize a.f = af at *
        generalize b.k = bk at *
        generalize b.h = bh at *
        generalize b.r = br at *
        generalize b.f = bf at *
        go_wp2_with (refine wpList_store_any rfl 52 (.tmp 4) (.tmp 50) rfl (w.heap.size + 1 + 1) ZE rfl rfl 52 ZE RZ2 hiz rfl h1z ?_; intro w3 R3 t3)
        refine bodyPost_ret (v := .tuple #[.agg ZE, .int .i64 110]) ?_ rfl ⟨by rw [HE.out.1, HE.out.2], T2.out.trans t3 (fun i hi e => by omega)⟩
        exact results_cell_row_tmpQ Tryz.results28 _ _ (w.heap.size + 1 + 1) 52 ZE (0, 0) _ rfl R3 Tryz.underlying52 rfl hiz
      · intro q0 q1 q2
        have HE := HNO.out (by simp [conB, q0, q1, q2])
        clear HNO aid bid hda hdb he
        have p0 := bne_of q0
        have p1 := bne_of q1
        have p2 := bne_of q2
        generalize a.k = ak at *
        generalize a.h = ah at *
        generalize a.r = ar at *
        generalize a.f = af at *
        generalize b.k = bk at *
        generalize b.h = bh at *
        generalize b.r = br at *
        generalize b.f = bf at *
        go_wp2_with (refine wpList_store_any rfl 52 (.tmp 4) (.tmp 50) rfl (w.heap.size + 1 + 1) ZE rfl rfl 52 ZE RZ2 hiz rfl h1z ?_; intro w3 R3 t3)
        refine bodyPost_ret (v := .tuple #[.agg ZE, .int .i64 110]) ?_ rfl ⟨by rw [HE.out.1, HE.out.2], T2.out.trans t3 (fun i hi e => by omega)⟩
        exact results_cell_row_tmpQ Tryz.results28 _ _ (w.heap.size + 1 + 1) 52 ZE (0, 0) _ rfl R3 Tryz.underlying52 rfl hiz
      · intro q0 q1 q2 q3
        have HE := HNO.out (by simp [conB, q0, q1, q2, q3])
        clear HNO aid bid hda hdb he
        have p0 := bne_of q0
        have p1 := bne_of q1
        have p2 := bne_of q2
        have p3 := bne_of q3
        generalize a.k = ak at *
        generalize a.h = ah at *
        generalize a.r = ar at *
        generalize a.f = af at *
        generalize b.k = bk at *
        generalize b.h = bh at *
        generalize b.r = br at *
        generalize b.f = bf at *
        go_wp2_with (refine wpList_store_any rfl 52 (.tmp 4) (.tmp 50) rfl (w.heap.size + 1 + 1) ZE rfl rfl 52 ZE RZ2 hiz rfl h1z ?_; intro w3 R3 t3)
        refine bodyPost_ret (v := .tuple #[.agg ZE, .int .i64 110]) ?_ rfl ⟨by rw [HE.out.1, HE.out.2], T2.out.trans t3 (fun i hi e => by omega)⟩
        exact results_cell_row_tmpQ Tryz.results28 _ _ (w.heap.size + 1 + 1) 52 ZE (0, 0) _ rfl R3 Tryz.underlying52 rfl hiz
      · intro q0 q1 q2 q3
        have p0 := bne_of q0
        have p1 := bne_of q1
        have p2 := bne_of q2
        have p3 := bne_of q3
        cases hid : (a.id == b.id)
        · have HE := shut (pairE_d HA0.out HB0.out (by simp [conB, q0, q1, q2, q3, hid]))
          have HE2 : Shut (pairE a b = 0 ∧ (ltB b.id a.id = true → pairC a b = evC b a) ∧ (ltB b.id a.id = false → pairC a b = evC a b)) := ⟨HE.out.1, fun q => by rw [HE.out.2, q]; rfl, fun q => by rw [HE.out.2, q]; rfl⟩
          have hiE : ∀ x y : Vt, x.ok → y.ok → (Tryz.prog.info? 52).map (·.size) = some (evC x y).size := fun x y hx hy => by rw [evC_size hx hy]; exact size32
          have hiab := hiE a b HOK.out.1 HOK.out.2
          have hiba := hiE b a HOK.out.2 HOK.out.1
          have hzab : ZE.size = (evC a b).size := by rw [HZS.out, evC_size HOK.out.1 HOK.out.2]
          have hzba : ZE.size = (evC b a).size := by rw [HZS.out, evC_size HOK.out.2 HOK.out.1]
          have h1ab := evC_one a b
          have h1ba := evC_one b a
          have hab := HB32.out.1
          have hba := HB32.out.2
          rw [hid] at he
          clear HNO HE hiE hid HB32 HA0 HB0 HOK
          generalize evC a b = EAB at *
          generalize evC b a = EBA at *
          generalize ltB b.id a.id = LT at *
          generalize a.id.map bv = DA at *
          generalize b.id.map bv = DB at *
          generalize a.k = ak at *
          generalize a.h = ah at *
          generalize a.r = ar at *
          generalize a.f = af at *
          generalize b.k = bk at *
          generalize b.h = bh at *
          generalize b.r = br at *
          generalize b.f = bf at *
          go_wp2_with (first | (refine wpList_load_midG (by rfl) 26 (.tmp 44) rfl w.heap.size 3 rfl DA _ aid Tryz.underlying26 rfl hda ?_) | (refine wpList_load_midG (by rfl) 26 (.tmp 46) rfl (w.heap.size + 1) 3 rfl DB _ bid Tryz.underlying26 rfl hdb ?_) | (refine wpList_load_mid rfl 26 (.tmp 51) rfl (w.heap.size + 1) 3 rfl DB _ bid Tryz.underlying26 rfl hdb ?_) | (refine wpList_load_mid rfl 26 (.tmp 53) rfl w.heap.size 3 rfl DA _ aid Tryz.underlying26 rfl hda ?_))
          refine (HBL.out w2).mono ?_
          rintro e w3 ⟨rfl, t3⟩
          have rA3 := RA2.out.turn t3 (fun q => q)
          have rB3 := RB2.out.turn t3 (fun q => q)
          have rZ3 := RZ2.turn t3 (fun q => q)
          have T3 := shut (T2.out.then_no t3)
          clear t3 RA2 RB2 RZ2 T2 aid bid hda hdb he a0 a1 a2 a36 b0 b1 b2 b36 HBL
          cases LT
          · have hE := HE2.out.2.2 rfl
            have HE3 := shut (And.intro HE2.out.1 hE)
            clear HE2 hE
            go_wp2_with (first | (refine wpList_load_row rfl 43 (.tmp 2) rfl w.heap.size rfl 43 CA _ _ rA3 Tryz.underlying43 rfl hia ?_) | (refine wpList_load_row rfl 43 (.tmp 3) rfl (w.heap.size + 1) rfl 43 CB _ _ rB3 Tryz.underlying43 rfl hib ?_) | (refine wpList_build_as rfl 52 0 1 (.tmp 59) (.tmp 60) rfl _ _ rfl rfl EAB hab ?_) | (refine wpList_store_any rfl 52 (.tmp 4) (.tmp 61) rfl (w.heap.size + 1 + 1) EAB rfl rfl 52 ZE rZ3 hiab hzab h1ab ?_; intro w4 R4 t4))
            refine bodyPost_ret (v := .tuple #[.agg EAB, .int .i64 0]) ?_ rfl ⟨by rw [HE3.out.1, HE3.out.2], T3.out.trans t4 (fun i hi e => by omega)⟩
            exact results_cell_row_tmpQ Tryz.results28 _ _ (w.heap.size + 1 + 1) 52 EAB (0, 0) _ rfl R4 Tryz.underlying52 rfl hiab
          · have hE := HE2.out.2.1 rfl
            have HE3 := shut (And.intro HE2.out.1 hE)
            clear HE2 hE
            go_wp2_with (first | (refine wpList_load_row rfl 43 (.tmp 2) rfl w.heap.size rfl 43 CA _ _ rA3 Tryz.underlying43 rfl hia ?_) | (refine wpList_load_row rfl 43 (.tmp 3) rfl (w.heap.size + 1) rfl 43 CB _ _ rB3 Tryz.underlying43 rfl hib ?_) | (refine wpList_build_as rfl 52 0 1 (.tmp 56) (.tmp 57) rfl _ _ rfl rfl EBA hba ?_) | (refine wpList_store_any rfl 52 (.tmp 4) (.tmp 58) rfl (w.heap.size + 1 + 1) EBA rfl rfl 52 ZE rZ3 hiba hzba h1ba ?_; intro w4 R4 t4))
            refine bodyPost_ret (v := .tuple #[.agg EBA, .int .i64 0]) ?_ rfl ⟨by rw [HE3.out.1, HE3.out.2], T3.out.trans t4 (fun i hi e => by omega)⟩
            exact results_cell_row_tmpQ Tryz.results28 _ _ (w.heap.size + 1 + 1) 52 EBA (0, 0) _ rfl R4 Tryz.underlying52 rfl hiba
        · have HE := HNO.out (by simp [conB, q0, q1, q2, q3, hid])
          rw [hid] at he
          clear HNO hid
          generalize a.id.map bv = DA at *
          generalize b.id.map bv = DB at *
          generalize a.k = ak at *
          generalize a.h = ah at *
          generalize a.r = ar at *
          generalize a.f = af at *
          generalize b.k = bk at *
          generalize b.h = bh at *
          generalize b.r = br at *
          generalize b.f = bf at *
          go_wp2_with (first | (refine wpList_load_midG (by rfl) 26 (.tmp 44) rfl w.heap.size 3 rfl DA _ aid Tryz.underlying26 rfl hda ?_) | (refine wpList_load_midG (by rfl) 26 (.tmp 46) rfl (w.heap.size + 1) 3 rfl DB _ bid Tryz.underlying26 rfl hdb ?_) | (refine wpList_store_any rfl 52 (.tmp 4) (.tmp 50) rfl (w.heap.size + 1 + 1) ZE rfl rfl 52 ZE RZ2 hiz rfl h1z ?_; intro w3 R3 t3))
          refine bodyPost_ret (v := .tuple #[.agg ZE, .int .i64 110]) ?_ rfl ⟨by rw [HE.out.1, HE.out.2], T2.out.trans t3 (fun i hi e => by omega)⟩
          exact results_cell_row_tmpQ Tryz.results28 _ _ (w.heap.size + 1 + 1) 52 ZE (0, 0) _ rfl R3 Tryz.underlying52 rfl hiz
    · have hzz : (plainE b != 0) = true := by simpa using hzb
      have HE := shut (pairE_b HA0.out hzb)
      rw [HZ.out] at HE
      clear hzb
      generalize plainE b = E at *
      go_wp2_with (refine wpList_store_any rfl 52 (.tmp 4) (.tmp 15) rfl (w.heap.size + 1 + 1) ZE rfl rfl 52 ZE RZ2 hiz rfl h1z ?_; intro w3 R3 t3)
      refine bodyPost_ret (v := .tuple #[.agg ZE, .int .i64 E]) ?_ rfl ⟨by rw [HE.out.1, HE.out.2], T2.out.trans t3 (fun i hi e => by omega)⟩
      exact results_cell_row_tmpQ Tryz.results28 _ _ (w.heap.size + 1 + 1) 52 ZE (0, 0) _ rfl R3 Tryz.underlying52 rfl hiz
  · have hzz : (plainE a != 0) = true := by simpa using hza
    have hzq : (plainE a == 0) = false := by simpa using hza
    have HE := shut (pairE_a (b := b) hza)
    rw [HZ.out] at HE
    clear hza
    generalize plainE a = E at *
    go_wp2_with (refine wpList_store_any rfl 52 (.tmp 4) (.tmp 15) rfl (w.heap.size + 1 + 1) ZE rfl rfl 52 ZE RZ1 hiz rfl h1z ?_; intro w3 R3 t3)
    refine bodyPost_ret (v := .tuple #[.agg ZE, .int .i64 E]) ?_ rfl ⟨by rw [HE.out.1, HE.out.2], T1.out.trans t3 (fun i hi e => by omega)⟩
    exact results_cell_row_tmpQ Tryz.results28 _ _ (w.heap.size + 1 + 1) 52 ZE (0, 0) _ rfl R3 Tryz.underlying52 rfl hiz
end Go.Proofs.YtmghliakheniiaaGreatDoor

