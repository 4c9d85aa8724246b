/- Digest of the program. -/
import Derived.Test.YtgjhhmdpepdepaaDoorN2
namespace Go.Proofs.YtgjhhmdpepdepaaDoor
open Go.RowKit
set_option linter.unusedVariables false

theorem Own.setAt {w : World} {e : TypeId} {g n cap : Nat} {xs : List Value} (h : Own w e (.slice (some ⟨g, 0, none⟩) n cap) xs) (k : Nat) (u : Value) : Own (w.setCell ⟨g, k, none⟩ u) e (.slice (some ⟨g, 0, none⟩) n cap) (xs.set k u) := by
  rcases h.shape with ⟨e1, _⟩ | ⟨g', cap', cur, e1, hg, h1, h2, h3, h4⟩
  · cases e1
  · cases e1
    have := Own.of (w := w.setCell ⟨g, k, none⟩ u) (e := e) (xs := xs.set k u) (g := g) (cap := cap) (cur := cur.setIfInBounds k u) (heap_setCell_same w g k cur e u hg) (by simpa using h1) h2 (by simpa using h3) (by
      rw [Array.toList_setIfInBounds, List.length_set, List.take_set, h4])
    simpa using this
theorem mk42 (w : World) (n : Nat) (hn : n ≤ 1000) : (Instr.makeSlice 42 (.int .i64 n) (.int .i64 n)).run Tryd.prog w = .ok (.slice (some ⟨w.heap.size, 0, none⟩) n n) (w.alloc (.cells (madeCells #[.slice none 0 0] n) 43)) := by
  obtain ⟨i, hi, hz0, hz1, hz2⟩ := info_parts info43
  have := run_make (P := Tryd.prog) w 42 43 i (.slice none 0 0) Tryd.underlying42 hi hz0 .i64 .i64 n n (by omega) (Int.le_refl _) (by rw [hz2]; omega) (by omega)
  rw [hz1, show (Value.slice none 0 0).cells = #[.slice none 0 0] from rfl] at this
  simpa using this
theorem mk_own (w : World) (n : Nat) (hn : n ≤ 1000) : Own (w.alloc (.cells (madeCells #[.slice none 0 0] n) 43)) 43 (.slice (some ⟨w.heap.size, 0, none⟩) n n) (List.replicate n (.slice none 0 0)) := by
  have hl : (madeCells #[.slice none 0 0] n).toList = List.replicate n (.slice none 0 0) := toList_madeCells_one _ _
  have := Own.of (w := w.alloc (.cells (madeCells #[.slice none 0 0] n) 43)) (e := 43) (xs := List.replicate n (.slice none 0 0)) (g := w.heap.size) (cap := n) (cur := madeCells #[.slice none 0 0] n) (heap_alloc_new w _) (by simp) (by simp only [maxLen]; omega) (by rw [← Array.length_toList, hl]; simp) (by rw [hl]; simp)
  simpa using this
theorem size37 : (Tryd.prog.info? 37).map (·.size) = some 3 := by kernel_rfl
set_option maxRecDepth 100000 in
set_option maxHeartbeats 8000000 in
theorem digest5 (w : World) (v : Value) (l : List Mb) (h : Ms w v l) (hl : Laid1 w) (h2 : 2 ≤ w.heap.size) : Calls Tryd.prog 5 #[.agg #[v]] w fun e w' => e = .returned (.tuple #[.agg (hb32 (dgH l)), .int .i64 (soundE l)]) ∧ Turn no w w' := by
  have hZ := hb32_size z32_len
  have oZ := hb32_one z32
  have iZ := hb32_info z32_len
  have hzv := zero35v
  have hbd := shut bld35
  obtain ⟨w0, hw0⟩ : ∃ w0, (w.alloc (.cells #[v] 24)).alloc (.cells (hb32 z32) 27) = w0 := ⟨_, rfl⟩
  have T0 : Turn no w w0 := by rw [← hw0]; exact ((Turn.refl no w).alloc _).alloc _
  have RB : Row w0 w.heap.size #[v] 24 := by rw [← hw0]; exact (Row.new w _ 24).alloc _
  have RZ : Row w0 (w.heap.size + 1) (hb32 z32) 27 := by rw [← hw0]; exact Row.newAt _ _ _ _ (by simp)
  have hs := sound27 w0 v l (h.turn_no T0)
  have HR : Shut (soundE l = 0 → ∀ W, Turn no w W → ∀ a cap its, BlAt W a cap its → txs its = l.map itB → Calls Tryd.prog 12 #[.slice a its.length cap] W fun e w' => e = .returned (.tuple #[.agg (hb32 (dgH l)), .int .i64 0]) ∧ Turn no W w') := fun e W t a cap its B q => by
    have := root7 W a cap its B (hl.turn t (fun q => q)) (by have := t.size; omega)
    obtain ⟨r1, r2⟩ := root_its q (sound_small e).1
    rw [r1, r2] at this
    have ed : dgH l = hashOf (rtT (l.map itB)) := if_pos e
    rwa [ed]
  have HD : Shut (¬ soundE l = 0 → dgH l = z32) := fun e => if_neg e
  have ld := dgH_len l
  have sD := hb32_size ld
  have oD := hb32_one (dgH l)
  have iD := hb32_info ld
  have HDz : Shut (¬ soundE l = 0 → hb32 (dgH l) = hb32 z32) := fun e => by rw [HD.out e]
  obtain ⟨a, cap, hv, hM⟩ := h
  have HM := shut hM
  have HSm : Shut (soundE l = 0 → l.length ≤ 64) := fun e => (sound_small e).1
  clear hM hl HD ld
  have rB := Row.rng RB
  have HTB : Shut (∀ W, Turn no w0 W → Row W (w.heap.size + 1) (hb32 z32) 27 ∧ W.rangeAt w.heap.size 0 [v]) := fun W t => ⟨Row.turn RZ t (fun q => q), Row.rng (Row.turn RB t (fun q => q))⟩
  have rB : w0.rangeAt w.heap.size 0 [v] := (HTB.out w0 (Turn.refl no w0)).2
  subst hv
  generalize hb32 (dgH l) = D at *
  generalize hb32 z32 = Z at *
  generalize soundE l = se at *
  obtain ⟨n, hln⟩ : ∃ n, Hid (l.length = n) := ⟨_, rfl⟩
  rw [show l.length = n from hln.out] at hs rB HTB HSm hw0 ⊢
  clear RB
  by_cases hse : se = 0
  · have HR1 := shut (HR.out hse)
    have hn : n ≤ 64 := HSm.out hse
    clear HR HDz
    subst hse
    go_enter Tryd.func5, Tryd.ntmps5
    go_upto_region 1 with fail
    try rw [hw0]
    clear hw0
    go_upto_region 4 with (first | (guard_target =~ wpList _ _ _ ({ dst := _, op := Op.load 24 _, .. } :: _) _ _; refine wpList_load_midG (by kernel_rfl) 24 (.tmp 1) rfl w.heap.size 0 rfl [.slice a n cap] _ rB Tryd.underlying24 rfl sizeC ?_) | (go_at_call 10; refine hs.mono ?_; clear hs; rintro e w1 ⟨rfl, t1⟩))
    have T1 := T0.then_no t1
    have hmk := mk42 w1 n (by omega)
    have O1 := mk_own w1 n (by omega)
    obtain ⟨w2, hw2⟩ : ∃ w2, w1.alloc (.cells (madeCells #[.slice none 0 0] n) 43) = w2 := ⟨_, rfl⟩
    have t2 : Turn no w1 w2 := by rw [← hw2]; exact (Turn.refl no w1).alloc _
    rw [hw2] at O1 hmk
    have hB1 : Shut (w0.heap.size ≤ w1.heap.size) := t1.size
    have HT2 := shut (T1.then_no t2)
    have Ht2 := shut (t1.then_no t2)
    have x1 : w1.cell? ⟨w.heap.size, 0, none⟩ = some (.slice a n cap) := by have := (HTB.out w1 t1).2 0 _ rfl; simpa using this
    have x2 : w2.cell? ⟨w.heap.size, 0, none⟩ = some (.slice a n cap) := t2.keep x1 (fun q => q)
    have HO1 := shut O1
    clear rB RZ O1 t1 t2 hw2 T1
    go_wp2_with fail
    generalize w1.heap.size = gi at *
    go_loopw [23] (fun x wr => ∃ (k : Nat) (us : List Value), k ≤ n ∧ x = .int .i64 k ∧ Shut (Il w0.heap.size wr (.slice (some ⟨gi, 0, none⟩) n n) us (l.take k) ∧ us.length = n ∧ Turn no w0 wr)) (fun x _ => n - (intOf x).toNat)
    case atStart => exact ⟨0, List.replicate n (.slice none 0 0), by omega, rfl, ⟨HO1.out, (fun g q => by cases q; exact hB1.out), (fun j m q => by simp at q)⟩, by simp, Ht2.out⟩
    case round =>
      obtain ⟨k, us, hk, rfl, HK⟩ := hrel
      by_cases hlt : k < n
      · have hlt' : (k : Int) < (n : Int) := by omega
        obtain ⟨m, hm⟩ : ∃ m, l[k]? = some m := ⟨l[k]'(by rw [hln.out]; exact hlt), List.getElem?_eq_getElem _⟩
        have hmo := HM.out.ok m (List.mem_of_getElem? hm)
        obtain ⟨b, off, rfl, y0, y1, y2⟩ := (HM.out.turn_no (T0.then_no HK.out.2.2)).cells k m hm
        have rM : wr.rangeAt b (off + k * 3) [.int .u64 m.ad, .int .u64 m.pw, .int .i64 m.pr] := fun j u hu => by
          match j, hu with
          | 0, hu => simp at hu; subst hu; exact y0
          | 1, hu => simp at hu; subst hu; exact y1
          | 2, hu => simp at hu; subst hu; exact y2
          | j + 3, hu => simp at hu
        have HMk := shut hm
        have k11 : Shut (∀ W, Calls Tryd.prog 11 #[.agg #[.int .u64 m.ad, .int .u64 m.pw, .int .i64 m.pr]] W fun e w' => ∃ v, e = .returned (.tuple #[v, .int .i64 0]) ∧ Own w' 5 v ((itB m).map bv) ∧ (∀ g, v.ownBlock = some g → W.heap.size ≤ g) ∧ Turn no W w') := fun W => itemOf11 W m hmo
        have one3 : (#[Value.int .u64 m.ad, .int .u64 m.pw, .int .i64 m.pr].all (·.oneCell')) = true := by simp [Value.oneCell']
        have hsz := HK.out.2.2.size
        have HRM := shut rM
        clear y0 y1 y2 hm hmo rM x1 x2
        obtain ⟨ma, hma⟩ : ∃ ma : Int, Hid ((m.ad : Int) = ma) := ⟨_, rfl⟩
        obtain ⟨mp, hmp⟩ : ∃ mp : Int, Hid ((m.pw : Int) = mp) := ⟨_, rfl⟩
        obtain ⟨mr, hmr⟩ : ∃ mr : Int, Hid (m.pr = mr) := ⟨_, rfl⟩
        rw [show (m.ad : Int) = ma from hma.out, show (m.pw : Int) = mp from hmp.out, show m.pr = mr from hmr.out] at HRM k11 one3
        go_upto_region 8 with (first | (guard_target =~ wpList _ _ _ ({ dst := some 27, op := Op.load 37 _, .. } :: _) _ _; refine wpList_load_midG (by kernel_rfl) 37 (.tmp 26) rfl b (off + k * 3) rfl [.int .u64 ma, .int .u64 mp, .int .i64 mr] _ HRM.out Tryd.underlying37 rfl size37 ?_) | (guard_target =~ wpList _ _ _ ({ dst := _, op := Op.store 37 _ _, .. } :: _) _ _; refine wpList_store_anyN rfl rfl 37 (.tmp 7) (.tmp 27) rfl _ #[.int .u64 ma, .int .u64 mp, .int .i64 mr] rfl rfl 37 #[.int .u64 0, .int .u64 0, .int .i64 0] (Row.new _ _ 37) size37 rfl one3 ?_; intro w3 R3 t3))
        have u3 : Turn (fun q => q = wr.heap.size) wr w3 := ((Turn.refl no wr).alloc _).of_no.trans t3 (fun _ _ e => e)
        have T3 : Turn no wr w3 := u3.mono (fun i hi e => by omega)
        have c11 := k11.out w3
        clear u3 t3 k11
        generalize wr.heap.size = g7 at *
        have rng3 := shut (Row.rng R3)
        go_upto_region 11 with (first | (guard_target =~ wpList _ _ _ ({ dst := some 29, op := Op.load 37 _, .. } :: _) _ _; refine wpList_load_midG (by kernel_rfl) 37 (.tmp 7) rfl g7 0 rfl [.int .u64 ma, .int .u64 mp, .int .i64 mr] _ rng3.out Tryd.underlying37 rfl size37 ?_) | (go_at_call 11; refine c11.mono ?_; clear c11; rintro e w4 ⟨v4, rfl, O4, f4, t4⟩; obtain ⟨a4, l4, c4, rfl⟩ := O4.form))
        have T4 := T3.then_no t4
        have I4 := HK.out.1.turn_no T4
        have hll : (l.take k).length = k := by rw [List.length_take, hln.out]; omega
        obtain ⟨u0, hu0⟩ : ∃ u0, us[k]? = some u0 := ⟨us[k]'(by rw [HK.out.2.1]; exact hlt), List.getElem?_eq_getElem _⟩
        have cg := I4.own.cell k _ hu0
        have fz : w4.frozen? ⟨gi, k, none⟩ = false := by
          rcases I4.own.shape with ⟨e, _⟩ | ⟨g', cap', cur, e, ho, _⟩
          · cases e
          · have eg := congrArg Value.ownBlock e
            simp [Value.ownBlock] at eg
            subst eg
            exact frozen_of_row w4 gi k _ 43 ho
        have TS := (Turn.refl (fun b => b = gi) w4).setCell (p := ⟨gi, k, none⟩) (fun _ => rfl) (.slice a4 l4 c4)
        have O5 := I4.own.setAt k (.slice a4 l4 c4)
        have hgi : w0.heap.size ≤ gi := hB1.out
        have HN : Shut (Il w0.heap.size (w4.setCell ⟨gi, k, none⟩ (.slice a4 l4 c4)) (.slice (some ⟨gi, 0, none⟩) n n) (us.set k (.slice a4 l4 c4)) (l.take (k + 1)) ∧ (us.set k (Value.slice a4 l4 c4)).length = n ∧ Turn no w0 (w4.setCell ⟨gi, k, none⟩ (.slice a4 l4 c4))) := by
          have q1 : Turn (fun k => w0.heap.size ≤ k) w0 w4 := (HK.out.2.2.then_no T4).of_no
          have q2 : Turn (fun k => w0.heap.size ≤ k) w0 (w4.setCell ⟨gi, k, none⟩ (.slice a4 l4 c4)) := q1.trans TS (fun i hi e => by
            have e' : i = gi := e
            rw [e']
            exact hgi)
          have q3 : Turn no w0 (w4.setCell ⟨gi, k, none⟩ (.slice a4 l4 c4)) := q2.mono (fun i hi q => absurd hi (by
            have q' : w0.heap.size ≤ i := q
            omega))
          refine ⟨?_, by rw [List.length_set]; exact HK.out.2.1, q3⟩
          rw [List.take_add_one, HMk.out]
          have := I4.put (m := m) (u := .slice a4 l4 c4) (g := gi) (w' := w4.setCell ⟨gi, k, none⟩ (.slice a4 l4 c4)) (by rw [hll, HK.out.2.1]; exact hlt) rfl O4 (fun g hg => by have := f4 g hg; have := T3.size; have := HK.out.2.2.size; omega) (by rw [hll]; exact O5) TS
          rw [hll] at this
          exact this
        clear I4 O4 f4 t4 T4 T3 TS O5 R3 rng3
        go_wp2_with fail
        go_roundw
        case rel => exact ⟨k + 1, _, by omega, by go_num, HN⟩
        case measure => simp [intOf]; omega
      · have hlt' : ¬ (k : Int) < (n : Int) := by omega
        have HE : Shut (Il w0.heap.size wr (.slice (some ⟨gi, 0, none⟩) n n) us l ∧ us.length = l.length) := by
          have : k = n := by omega
          subst this
          have e : l.take k = l := by rw [← hln.out, List.take_length]
          refine ⟨?_, by rw [HK.out.2.1, hln.out]⟩
          have := HK.out.1
          rwa [e] at this
        obtain ⟨xa, xc, its, e1, B1, e2⟩ := HE.out.1.bl HE.out.2 (by rw [hln.out]; exact hn)
        have k12 := HR1.out wr (T0.then_no HK.out.2.2) xa xc its B1 e2
        rw [← e1] at k12
        clear B1 e2 HE e1 x1 x2
        obtain ⟨RZ3, _⟩ := HTB.out wr HK.out.2.2
        go_wp2_with (first | (go_at_call 12; refine k12.mono ?_; clear k12; rintro e w3 ⟨rfl, t3⟩; have RZ4 := Row.turn RZ3 t3 (fun q => q)) | (guard_target =~ wpList _ _ _ ({ dst := _, op := Op.store 27 _ _, .. } :: _) _ _; refine wpList_store_row rfl 27 (.tmp 2) (.tmp 44) rfl (w.heap.size + 1) D rfl rfl 27 Z RZ4 iD (by rw [hZ, sD]) oD ?_))
        refine bodyPost_ret (v := .tuple #[.agg D, .int .i64 0]) ?_ rfl ⟨rfl, ((T0.then_no HK.out.2.2).then_no t3).setRow _ _ (fun q => by omega)⟩
        exact results_cell_row_tmp (P := Tryd.prog) Tryd.results5 _ _ (w.heap.size + 1) 27 D (0, 0) _ rfl (setRow_heap _ _ _ _ _ _ RZ4) Tryd.underlying27 rfl iD
  · have hd := HDz.out hse
    subst hd
    have n1 : (se != 0) = true := by simpa using hse
    clear HR HDz hse HSm
    go_enter Tryd.func5, Tryd.ntmps5
    go_upto_region 1 with fail
    try rw [hw0]
    clear hw0 hzv
    go_wp2_with (first | (guard_target =~ wpList _ _ _ ({ dst := _, op := Op.load 24 _, .. } :: _) _ _; refine wpList_load_midG (by kernel_rfl) 24 (.tmp 1) rfl w.heap.size 0 rfl [.slice a n cap] _ rB Tryd.underlying24 rfl sizeC ?_) | (go_at_call 10; refine hs.mono ?_; clear hs; rintro e w1 ⟨rfl, t1⟩; obtain ⟨RZ1, _⟩ := HTB.out w1 t1) | (guard_target =~ wpList _ _ _ ({ dst := _, op := Op.build 27 _, .. } :: _) _ _; refine wpList_buildG (by kernel_rfl) 27 rfl _ (hbd.out _) ?_) | (guard_target =~ wpList _ _ _ ({ dst := _, op := Op.store 27 _ _, .. } :: _) _ _; refine wpList_store_row rfl 27 (.tmp 2) (.tmp 14) rfl (w.heap.size + 1) _ rfl rfl 27 _ RZ1 iZ rfl oZ ?_))
    refine bodyPost_ret (v := .tuple #[.agg _, .int .i64 se]) ?_ rfl ⟨rfl, (T0.then_no t1).setRow _ _ (fun q => by omega)⟩
    exact results_cell_row_tmp (P := Tryd.prog) Tryd.results5 _ _ (w.heap.size + 1) 27 _ (0, 0) _ rfl (setRow_heap _ _ _ _ _ _ RZ1) Tryd.underlying27 rfl iZ
end Go.Proofs.YtgjhhmdpepdepaaDoor
