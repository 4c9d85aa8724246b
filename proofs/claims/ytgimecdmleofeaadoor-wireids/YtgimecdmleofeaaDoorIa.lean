/- idOf of a transaction. -/
import Derived.Test.YtgimecdmleofeaaDoorJz
import Derived.Test.YtgimecdmleofeaaDoorI0
namespace Go.Proofs.YtgimecdmleofeaaDoor
open Go.RowKit
set_option linter.unusedVariables false

set_option maxRecDepth 100000 in
set_option maxHeartbeats 2000000 in
theorem clo50 (w : World) (D : List Value) (hz : (Tryd.prog.info? 27).map (·.size) = some D.length) (SB : List UInt8)
    (CL : ∀ W p v (bs : List UInt8), Turn no w W → Wr W p v bs 0 → bs.length = 1 → w.heap.size ≤ p → (∀ g, v.ownBlock = some g → w.heap.size ≤ g) → Calls Tryd.prog 21 #[.pointer (some ⟨p, 0, none⟩), .agg D.toArray] W fun e w' => e = .returned (.tuple #[]) ∧ Laid W p v (bs ++ SB) 0 w')
    (W : World) (t : Turn no w W) (p : Nat) (hp : w.heap.size ≤ p) (h : Wr W p (.slice none 0 0) [] 0) (mk : Nat) (hm : mk < 256) (mb fb : Nat) (nm : mb ≠ p) (nf : fb ≠ p) (c1 : W.cell? ⟨mb, 0, none⟩ = some (.int .u8 mk)) (c2 : W.cell? ⟨fb, 0, none⟩ = some (.func (.func 21) #[] #[])) :
    Calls Tryd.prog 50 #[.pointer (some ⟨p, 0, none⟩), .agg D.toArray, .pointer (some ⟨mb, 0, none⟩), .pointer (some ⟨fb, 0, none⟩)] W fun e w' => e = .returned (.tuple #[]) ∧ Laid W p (.slice none 0 0) (leB mk 1 ++ SB) 0 w' := by
  have cr := Row.rangeZ (Row.new W D.toArray 27)
  have t0 : Turn no W (W.alloc (.cells D.toArray 27)) := (Turn.refl no W).alloc _
  have hb : ¬ wfoot p (.slice none 0 0) W.heap.size := by
    rintro (q | q)
    · have := h.lt; omega
    · cases q
  have nf' : ¬ wfoot p (.slice none 0 0) fb := by
    rintro (q | q)
    · exact nf q
    · cases q
  have L0 := Laid.refl (h.turn_no t0)
  have c1' := t0.keep c1 (fun q => q)
  have c2' := t0.keep c2 (fun q => q)
  have S1 : Calls Tryd.prog 51 #[.pointer (some ⟨p, 0, none⟩), .int .u8 mk] _ _ := step57 L0 mk hm (by simp)
  have S2 : ∀ W1, Laid (W.alloc (.cells D.toArray 27)) p (.slice none 0 0) ([] ++ leB mk 1) 0 W1 → Calls Tryd.prog 21 #[.pointer (some ⟨p, 0, none⟩), .agg D.toArray] W1 fun e w' => e = .returned (.tuple #[]) ∧ Laid (W.alloc (.cells D.toArray 27)) p (.slice none 0 0) ([] ++ leB mk 1 ++ SB) 0 w' := fun W1 L => by
    obtain ⟨v1, k1, k2, k3⟩ := L
    have T1 : Turn no w W1 := (t.then_no t0).trans k2 (fun i hi q => by
      rcases q with q | q
      · omega
      · cases q)
    refine (CL W1 p v1 _ T1 k1 (by simp [leB]) hp (fun g hg => ?_)).mono (fun e w' ⟨q1, q2⟩ => ⟨q1, Laid.trans k1 k2 k3 q2⟩)
    rcases k3 with q | ⟨g', q, hg'⟩
    · rw [q] at hg; cases hg
    · have := (t.then_no t0).size
      have e : g' = g := Option.some.inj (q.symm.trans hg)
      omega
  have HC := shutX (fun W1 B (L : Laid (W.alloc (.cells D.toArray 27)) p (.slice none 0 0) B 0 W1) => And.intro (L.cell nf' c2') (fun j u hu => L.cell hb (cr j u hu) : W1.rangeAt W.heap.size 0 D))
  have HS := shutX S2
  clear S2 CL c1 c2 c2' cr L0 h nf' hb
  generalize hA : D.toArray = A at *
  have HA := shutX hA
  clear hA
  go_enter Tryd.func50, Tryd.ntmps50
  go_upto_region 2 with (go_at_call 51; refine S1.mono ?_; rintro e w1 ⟨rfl, L1⟩; obtain ⟨d1, d2⟩ := HC.out w1 _ L1; clear S1)
  go_wp2_with (first | (guard_target =~ wpList _ _ _ ({ dst := _, op := Op.load 27 _, .. } :: _) _ _; refine wpList_load_mid rfl 27 (.tmp 5) rfl W.heap.size 0 rfl D _ d2 Tryd.underlying27 rfl hz ?_; rw [HA.out]) | (go_at_call 21; refine (HS.out _ L1).mono ?_; rintro e w3 ⟨rfl, L3⟩))
  go_end0
  exact ⟨rfl, by simpa using L3.pre t0⟩
set_option maxRecDepth 100000 in
set_option maxHeartbeats 4000000 in
theorem enc49 (w : World) (D : List Value) (hz : (Tryd.prog.info? 27).map (·.size) = some D.length) (SB : List UInt8) (hSB : SB.length ≤ 1000000000) (pv : Int)
    (CP : ∀ W, Turn no w W → Calls Tryd.prog 20 #[.agg D.toArray] W fun e w' => e = .returned (.int .i64 pv) ∧ Turn no W w')
    (CL : pv = 0 → ∀ W p v (bs : List UInt8), Turn no w W → Wr W p v bs 0 → bs.length = 1 → w.heap.size ≤ p → (∀ g, v.ownBlock = some g → w.heap.size ≤ g) → Calls Tryd.prog 21 #[.pointer (some ⟨p, 0, none⟩), .agg D.toArray] W fun e w' => e = .returned (.tuple #[]) ∧ Laid W p v (bs ++ SB) 0 w')
    (W : World) (t : Turn no w W) (mk : Nat) (hm : mk < 256) (mb fb : Nat) (c1 : W.cell? ⟨mb, 0, none⟩ = some (.int .u8 mk)) (c2 : W.cell? ⟨fb, 0, none⟩ = some (.func (.func 21) #[] #[])) :
    Calls Tryd.prog 49 #[.agg D.toArray, .func (.func 20) #[] #[], .func (.func 50) #[] #[.pointer (some ⟨mb, 0, none⟩), .pointer (some ⟨fb, 0, none⟩)]] W (Told W pv (if pv = 0 then leB mk 1 ++ SB else [])) := by
  have cr := Row.rangeZ (Row.new W D.toArray 27)
  have t0 : Turn no W (W.alloc (.cells D.toArray 27)) := (Turn.refl no W).alloc _
  have C53 := CP (W.alloc (.cells D.toArray 27)) (t.then_no t0)
  have HR := shutX (fun W1 (t : Turn no (W.alloc (.cells D.toArray 27)) W1) => (fun j u hu => t.keep (cr j u hu) (fun q => q) : W1.rangeAt W.heap.size 0 D))
  have hlt := World.block_lt_of_cell? W _ c1
  have hft := World.block_lt_of_cell? W _ c2
  by_cases he : pv = 0
  · rw [if_pos he]
    subst he
    have C56 : ∀ W1 W2, Turn no (W.alloc (.cells D.toArray 27)) W1 → Wr W2 W1.heap.size (.slice none 0 0) [] 0 → Turn no W1 W2 → Calls Tryd.prog 50 #[.pointer (some ⟨W1.heap.size, 0, none⟩), .agg D.toArray, .pointer (some ⟨mb, 0, none⟩), .pointer (some ⟨fb, 0, none⟩)] W2 fun e w' => e = .returned (.tuple #[]) ∧ Laid W2 W1.heap.size (.slice none 0 0) (leB mk 1 ++ SB) 0 w' := fun W1 W2 t1 h t2 => by
      have T1 := t0.then_no t1
      have T2 := T1.then_no t2
      have s0 := t.size
      have s1 := T1.size
      have q1 : mb < W.heap.size := hlt
      have q2 : fb < W.heap.size := hft
      exact clo50 w D hz SB (CL rfl) W2 (t.then_no T2) W1.heap.size (by omega) h mk hm mb fb (by omega) (by omega) (T2.keep c1 (fun q => q)) (T2.keep c2 (fun q => q))
    have C111 := fun W p v h => out_made W p v (leB mk 1 ++ SB) h (by simp [leB]; omega)
    have HH := shutX (And.intro C56 C111)
    clear C56 C111 CP CL c1 c2 hlt hft
    generalize leB mk 1 ++ SB = SQ at *
    generalize hA : D.toArray = A at *
    have HA := shutX hA
    clear hA
    go_enter Tryd.func49, Tryd.ntmps49
    go_upto_region 4 with (first | (guard_target =~ wpList _ _ _ ({ dst := _, op := Op.load 27 _, .. } :: _) _ _; refine wpList_load_mid rfl 27 (.tmp 3) rfl W.heap.size 0 rfl D _ cr Tryd.underlying27 rfl hz ?_; rw [HA.out]) | (go_at_call 20; refine C53.mono ?_; rintro e w1 ⟨rfl, t1⟩))
    clear C53
    go_upto_region 5 with (go_at_call 90; refine (newWriter_any w1).mono ?_; rintro e w2 ⟨rfl, k2, t2⟩)
    have cr2 := HR.out w2 (t1.then_no t2)
    have C := HH.out.1 w1 w2 t1 k2 t2
    go_upto_region 6 with (first | (guard_target =~ wpList _ _ _ ({ dst := _, op := Op.load 27 _, .. } :: _) _ _; refine wpList_load_mid rfl 27 (.tmp 3) rfl W.heap.size 0 rfl D _ cr2 Tryd.underlying27 rfl hz ?_; rw [HA.out]) | (go_at_call 50; refine C.mono ?_; rintro e w3 ⟨rfl, L3⟩))
    clear C
    obtain ⟨v3, k3, tt3, nn3⟩ := L3
    have C := HH.out.2 w3 _ _ k3
    have t3 : Turn no w1 w3 := t2.trans tt3 (fun i hi q => by
      rcases q with q | q
      · omega
      · cases q)
    go_wp2_with (go_at_call 91; refine C.mono ?_; rintro e w4 ⟨v4, rfl, o4, n4, t4⟩; obtain ⟨a4, l4, c4, rfl⟩ := o4.form)
    go_ret2
    have tA := (t0.then_no t1).then_no t3
    exact ⟨_, rfl, o4, fun g hg => Nat.le_trans tA.size (n4 g hg), tA.then_no t4⟩
  · rw [if_neg he]
    have n1 : (pv != 0) = true := by simpa using he
    clear CP CL he c1 c2 hlt hft HR
    generalize hA : D.toArray = A at *
    have HA := shutX hA
    clear hA
    go_enter Tryd.func49, Tryd.ntmps49
    go_wp2_with (first | (guard_target =~ wpList _ _ _ ({ dst := _, op := Op.load 27 _, .. } :: _) _ _; refine wpList_load_mid rfl 27 (.tmp 3) rfl W.heap.size 0 rfl D _ cr Tryd.underlying27 rfl hz ?_; rw [HA.out]) | (go_at_call 20; refine C53.mono ?_; clear C53; rintro e w1 ⟨rfl, t1⟩))
    go_ret2
    exact ⟨_, rfl, Own.nil _ _, (fun g hg => by cases hg), t0.then_no t1⟩
set_option maxRecDepth 100000 in
set_option maxHeartbeats 4000000 in
theorem idOf19 (w : World) (hl : Laid1 w) (h2 : 3 ≤ w.heap.size) (D : List Value) (hz : (Tryd.prog.info? 27).map (·.size) = some D.length) (SB : List UInt8) (hSB : SB.length ≤ 1000000000) (pv : Int)
    (CP : ∀ W, Turn no w W → Calls Tryd.prog 20 #[.agg D.toArray] W fun e w' => e = .returned (.int .i64 pv) ∧ Turn no W w')
    (CL : pv = 0 → ∀ W p v (bs : List UInt8), Turn no w W → Wr W p v bs 0 → bs.length = 1 → w.heap.size ≤ p → (∀ g, v.ownBlock = some g → w.heap.size ≤ g) → Calls Tryd.prog 21 #[.pointer (some ⟨p, 0, none⟩), .agg D.toArray] W fun e w' => e = .returned (.tuple #[]) ∧ Laid W p v (bs ++ SB) 0 w')
    (mk : Nat) (hm : mk < 256) :
    Calls Tryd.prog 19 #[.int .u8 mk, .agg D.toArray, .func (.func 20) #[] #[], .func (.func 21) #[] #[]] w fun e w' => e = .returned (.tuple #[.agg (hb32 (idH pv (leB mk 1 ++ SB))), .int .i64 pv]) ∧ Turn no w w' := by
  have hZ := hb32_size z32_len
  have oZ := hb32_one z32
  have iZ := hb32_info z32_len
  have hzv := zero35v
  have hbd := shut bld35
  obtain ⟨w4, hw4⟩ : ∃ W, (((w.alloc (.cells #[.int .u8 mk] 5)).alloc (.cells D.toArray 27)).alloc (.cells #[.func (.func 21) #[] #[]] 59)).alloc (.cells (hb32 z32) 29) = W := ⟨_, rfl⟩
  have r1 : Row w4 w.heap.size #[.int .u8 mk] 5 := by rw [← hw4]; exact ((((Row.new w _ 5).alloc _).alloc _).alloc _)
  have r2 : Row w4 (w.heap.size + 1) D.toArray 27 := by rw [← hw4]; exact ((Row.newAt _ _ 27 _ (by simp)).alloc _).alloc _
  have r3 : Row w4 (w.heap.size + 2) #[.func (.func 21) #[] #[]] 59 := by rw [← hw4]; exact (Row.newAt _ _ 59 _ (by simp)).alloc _
  have r4 : Row w4 (w.heap.size + 3) (hb32 z32) 29 := by rw [← hw4]; exact Row.newAt _ _ 29 _ (by simp)
  have t4 : Turn no w w4 := by rw [← hw4]; exact ((((Turn.refl no w).alloc _).alloc _).alloc _).alloc _
  have cr := Row.rangeZ r2
  have C := enc49 w D hz SB hSB pv CP CL w4 t4 mk hm w.heap.size (w.heap.size + 2) (r1.cell 0 _ rfl) (r3.cell 0 _ rfl)
  have HL := shut (fun W (t : Turn no w W) => And.intro (hl.turn t (fun q => q)) (show 3 ≤ W.heap.size by have := t.size; omega))
  have HZ4 := shut (fun W (t : Turn no w4 W) => Row.turn r4 t (fun q => q))
  clear r1 r2 r3 hl h2 CP CL
  generalize hA : D.toArray = A at *
  have HA := shutX hA
  clear hA
  by_cases he : pv = 0
  · subst he
    rw [if_pos rfl] at C
    have e0 : idH 0 (leB mk 1 ++ SB) = hashOf (leB mk 1 ++ SB) := if_pos rfl
    rw [e0]
    have hlen : (leB mk 1 ++ SB).length + 72 ≤ 281474976710656 := by simp [leB]; omega
    generalize leB mk 1 ++ SB = SQ at *
    have HSm := shut (fun W va (t : Turn no w W) (b : Bs W va SQ) => sum19 W va SQ b (HL.out W t).1 (HL.out W t).2 hlen)
    have sD : (hb32 (hashOf SQ)).size = 32 := hv_size SQ
    have oD : (hb32 (hashOf SQ)).all (·.oneCell') = true := hv_one SQ
    have iD : (Tryd.prog.info? 29).map (·.size) = some (hb32 (hashOf SQ)).size := hv_info SQ
    have HSm2 : Shut (∀ W va, Turn no w W → Bs W va SQ → Calls Tryd.prog 52 #[va] W fun e w' => e = .returned (.agg (hb32 (hashOf SQ))) ∧ Turn no W w') := shut HSm.out
    clear HSm hlen e0
    generalize hb32 (hashOf SQ) = H at *
    generalize hb32 z32 = Z at *
    go_enter Tryd.func19, Tryd.ntmps19
    go_upto_region 1 with fail
    try rw [hw4]
    clear hw4
    go_upto_region 4 with (first | (guard_target =~ wpList _ _ _ ({ dst := _, op := Op.load 27 _, .. } :: _) _ _; refine wpList_load_mid rfl 27 (.tmp 5) rfl (w.heap.size + 1) 0 rfl D _ cr Tryd.underlying27 rfl hz ?_; rw [HA.out]) | (go_at_call 49; refine C.mono ?_; clear C; rintro e w5 ⟨v5, rfl, o5, n5, t5⟩; obtain ⟨a5, l5, c5, rfl⟩ := o5.form))
    have T5 := t4.then_no t5
    have k52 := HSm2.out w5 _ T5 o5.bs
    have RZ5 := HZ4.out w5 t5
    go_wp2_with (first | (go_at_call 52; refine k52.mono ?_; clear k52; rintro e w6 ⟨rfl, t6⟩; have RZ6 := Row.turn RZ5 t6 (fun q => q)) | (guard_target =~ wpList _ _ _ ({ dst := _, op := Op.store 29 _ _, .. } :: _) _ _; refine wpList_store_row rfl 29 (.tmp 8) (.tmp 24) rfl (w.heap.size + 3) H rfl rfl 29 Z RZ6 iD (by rw [hZ, sD]) oD ?_))
    refine bodyPost_ret (v := .tuple #[.agg H, .int .i64 0]) ?_ rfl ⟨rfl, (T5.then_no t6).setRow _ _ (fun q => by omega)⟩
    exact results_cell_row_tmp (P := Tryd.prog) Tryd.results19 _ _ (w.heap.size + 3) 29 H (0, 0) _ rfl (setRow_heap _ _ _ _ _ _ RZ6) Tryd.underlying29 rfl iD
  · rw [if_neg he] at C
    have e0 : idH pv (leB mk 1 ++ SB) = z32 := if_neg he
    rw [e0]
    have n1 : (pv != 0) = true := by simpa using he
    clear e0 he
    generalize hb32 z32 = Z at *
    go_enter Tryd.func19, Tryd.ntmps19
    go_upto_region 1 with fail
    try rw [hw4]
    clear hw4 hzv
    go_wp2_with (first | (guard_target =~ wpList _ _ _ ({ dst := _, op := Op.load 27 _, .. } :: _) _ _; refine wpList_load_mid rfl 27 (.tmp 5) rfl (w.heap.size + 1) 0 rfl D _ cr Tryd.underlying27 rfl hz ?_; rw [HA.out]) | (go_at_call 49; refine C.mono ?_; clear C; rintro e w5 ⟨v5, rfl, o5, n5, t5⟩; have RZ5 := HZ4.out w5 t5; obtain ⟨a5, l5, c5, rfl⟩ := o5.form) | (guard_target =~ wpList _ _ _ ({ dst := _, op := Op.build 29 _, .. } :: _) _ _; refine wpList_buildG (by kernel_rfl) 29 rfl _ (hbd.out _) ?_) | (guard_target =~ wpList _ _ _ ({ dst := _, op := Op.store 29 _ _, .. } :: _) _ _; refine wpList_store_row rfl 29 (.tmp 8) (.tmp 21) rfl (w.heap.size + 3) Z rfl rfl 29 Z RZ5 iZ rfl oZ ?_))
    refine bodyPost_ret (v := .tuple #[.agg Z, .int .i64 pv]) ?_ rfl ⟨rfl, (t4.then_no t5).setRow _ _ (fun q => by omega)⟩
    exact results_cell_row_tmp (P := Tryd.prog) Tryd.results19 _ _ (w.heap.size + 3) 29 Z (0, 0) _ rfl (setRow_heap _ _ _ _ _ _ RZ5) Tryd.underlying29 rfl iZ
end Go.Proofs.YtgimecdmleofeaaDoor
