/- The walk of WireSaysAll. -/
import Derived.Test.YtpfjllkmaogafaaSw
namespace Go.Proofs.Ytpfjllkmaogafaa
open Go.RowKit
set_option linter.unusedVariables false

set_option maxRecDepth 100000 in
set_option maxHeartbeats 8000000 in
theorem saysAll6_e (w : World) (j k : Int) (ch ch' : ByteArray) (x x' : Tx) (y y' : Vt) (z z' : Po) (hx : x.ok) (hx' : x'.ok) (hy : y.fits) (hy' : y'.fits) (hz : z.ok) (hz' : z'.ok) (hne : sayE j ch x y z ≠ 0 ∨ sayE k ch' x' y' z' ≠ 0) :
    Calls Try.prog 6 #[.int .i64 j, .agg (nmD ch x y z).toArray, .int .i64 k, .agg (nmD ch' x' y' z').toArray] w fun e w' => e = .returned (.bool true) ∧ Turn no w w' := by
  have C23 := fun W => said23 W j ch x y z hx hy hz
  have C23' := fun W => said23 W k ch' x' y' z' hx' hy' hz'
  have lD := nmD_len ch x y z hx hy.1 hz
  have lE := nmD_len ch' x' y' z' hx' hy'.1 hz'
  have hi35 : (Try.prog.info? 35).map (·.size) = some 128 := by kernel_rfl
  have hiD : (Try.prog.info? 35).map (·.size) = some (nmD ch x y z).toArray.size := by rw [lD]; exact hi35
  have hiE : (Try.prog.info? 35).map (·.size) = some (nmD ch' x' y' z').toArray.size := by rw [lE]; exact hi35
  generalize sayE j ch x y z = e1 at *
  generalize sayE k ch' x' y' z' = e2 at *
  generalize sayB j ch x y z = A at *
  generalize sayB k ch' x' y' z' = B at *
  generalize hD : (nmD ch x y z).toArray = D at *
  generalize hE : (nmD ch' x' y' z').toArray = E at *
  clear hD hE
  have ra : Row ((w.alloc (.cells D 35)).alloc (.cells E 35)) w.heap.size D 35 := (Row.new w D 35).alloc _
  have rb : Row ((w.alloc (.cells D 35)).alloc (.cells E 35)) (w.heap.size + 1) E 35 := Row.newAt _ _ _ _ (by simp)
  have t0 : Turn no w ((w.alloc (.cells D 35)).alloc (.cells E 35)) := ((Turn.refl no w).alloc _).alloc _
  generalize hw0 : (w.alloc (.cells D 35)).alloc (.cells E 35) = w0 at *
  clear hx hx' hy hy' hz hz'
  have hc : (e1 != 0) = true ∨ ((e1 != 0) = false ∧ (e2 != 0) = true) := by
    by_cases h : e1 = 0
    · exact Or.inr ⟨by simp [h], by simpa [h] using hne⟩
    · exact Or.inl (by simpa using h)
  clear hne
  go_enter Try.func6, Try.ntmps6
  go_upto_region 1 with fail
  try rw [hw0]
  clear hw0
  generalize hg : w.heap.size = g at *
  go_upto_region 3 with (go_at_call 22; refine (alive22 _).mono ?_; rintro e' w1 ⟨rfl, t1⟩)
  have ra1 := ra.turn t1 (fun q => q)
  go_upto_region 4 with (first | (guard_target =~ wpList _ _ _ ({ dst := _, op := Op.load 35 _, .. } :: _) _ _; refine wpList_load_row rfl 35 (.tmp 5) rfl g rfl 35 D (0, 0) _ ra1 Try.underlying35 rfl hiD ?_) | (go_at_call 23; refine (C23 _).mono ?_; rintro e' w2 ⟨v2, rfl, o2, n2, t2⟩; obtain ⟨a2, l2, c2, rfl⟩ := o2.form))
  have u2 := t1.then_no t2
  have rb2 := rb.turn u2 (fun q => q)
  go_upto_region 5 with (first | (guard_target =~ wpList _ _ _ ({ dst := _, op := Op.load 35 _, .. } :: _) _ _; refine wpList_load_row rfl 35 (.tmp 7) rfl (g + 1) rfl 35 E (0, 0) _ rb2 Try.underlying35 rfl hiE ?_) | (go_at_call 23; refine (C23' _).mono ?_; rintro e' w3 ⟨v3, rfl, o3, n3, t3⟩; obtain ⟨a3, l3, c3, rfl⟩ := o3.form))
  have u3 := u2.then_no t3
  have T3 := t0.then_no u3
  clear o2 o3 n2 n3
  rcases hc with h1 | ⟨h1, h2⟩
  · go_wp2_with fail
    go_ret
    exact ⟨rfl, T3⟩
  · go_wp2_with fail
    go_ret
    exact ⟨rfl, T3⟩
set_option maxRecDepth 100000 in
set_option maxHeartbeats 8000000 in
theorem saysAll6_0 (w : World) (j k : Int) (ch ch' : ByteArray) (x x' : Tx) (y y' : Vt) (z z' : Po) (hx : x.ok) (hx' : x'.ok) (hy : y.fits) (hy' : y'.fits) (hz : z.ok) (hz' : z'.ok) (hm : j % 3 = 0) (he : sayE j ch x y z = 0) (hf : sayE k ch' x' y' z' = 0) :
    Calls Try.prog 6 #[.int .i64 j, .agg (nmD ch x y z).toArray, .int .i64 k, .agg (nmD ch' x' y' z').toArray] w fun e w' => e = .returned (.bool true) ∧ Turn no w w' := by
  have C23 := fun W => said23 W j ch x y z hx hy hz
  have C23' := fun W => said23 W k ch' x' y' z' hx' hy' hz'
  have lD := nmD_len ch x y z hx hy.1 hz
  have lE := nmD_len ch' x' y' z' hx' hy'.1 hz'
  have hi35 : (Try.prog.info? 35).map (·.size) = some 128 := by kernel_rfl
  have hiD : (Try.prog.info? 35).map (·.size) = some (nmD ch x y z).toArray.size := by rw [lD]; exact hi35
  have hiE : (Try.prog.info? 35).map (·.size) = some (nmD ch' x' y' z').toArray.size := by rw [lE]; exact hi35
  have hx0 : ({ x with se := z16 } : Tx).ok := ⟨rfl, hx.2⟩
  have hx0' : ({ x' with se := z16 } : Tx).ok := ⟨rfl, hx'.2⟩
  have hy0 : ({ y with se := z16 } : Vt).ok := ⟨hy.1.1, rfl⟩
  have hy0' : ({ y' with se := z16 } : Vt).ok := ⟨hy'.1.1, rfl⟩
  have hz0 : ({ z with se := z16 } : Po).ok := ⟨hz.1, rfl, hz.2.2⟩
  have hz0' : ({ z' with se := z16 } : Po).ok := ⟨hz'.1, rfl, hz'.2.2⟩
  have C24 := fun W => unsealed24 W ch x y z hx hy.1 hz
  have C24' := fun W => unsealed24 W ch' x' y' z' hx' hy'.1 hz'
  have lP := nmD_len ch _ _ _ hx0 hy0 hz0
  have lQ := nmD_len ch' _ _ _ hx0' hy0' hz0'
  have oP := nmD_one ch { x with se := z16 } { y with se := z16 } { z with se := z16 }
  have oQ := nmD_one ch' { x' with se := z16 } { y' with se := z16 } { z' with se := z16 }
  have hiP : (Try.prog.info? 35).map (·.size) = some (nmD ch { x with se := z16 } { y with se := z16 } { z with se := z16 }).toArray.size := by rw [lP]; exact hi35
  have hiQ : (Try.prog.info? 35).map (·.size) = some (nmD ch' { x' with se := z16 } { y' with se := z16 } { z' with se := z16 }).toArray.size := by rw [lQ]; exact hi35
  have hZ : Try.zeroCells35.size = 128 := by kernel_rfl
  have ND := fun (W : World) (g : Nat) (r : Row W g (nmD ch x y z).toArray 35) => (r.nmd hx hy.1).1
  have NE := fun (W : World) (g : Nat) (r : Row W g (nmD ch' x' y' z').toArray 35) => (r.nmd hx' hy'.1).1
  have NP := fun (W : World) (g : Nat) (r : Row W g (nmD ch { x with se := z16 } { y with se := z16 } { z with se := z16 }).toArray 35) => (r.nmd hx0 hy0).2
  have NQ := fun (W : World) (g : Nat) (r : Row W g (nmD ch' { x' with se := z16 } { y' with se := z16 } { z' with se := z16 }).toArray 35) => (r.nmd hx0' hy0').2
  have M1 := fun W => mod25 W j
  have M2 := fun W => mod25 W k
  rw [hm] at M1
  have hq : (k % 3 = 0 ∧ ch = ch' ∧ (sayB j ch x y z == sayB k ch' x' y' z') = eqTxQ { x with se := z16 } { x' with se := z16 }) ∨ (k % 3 = 0 ∧ (ch.toList == ch'.toList) = false ∧ (sayB j ch x y z == sayB k ch' x' y' z') = false) ∨ (((0 : Int) == k % 3) = false ∧ (sayB j ch x y z == sayB k ch' x' y' z') = false) := by
    by_cases hk : k % 3 = 0
    · by_cases hc : ch = ch'
      · refine Or.inl ⟨hk, hc, ?_⟩
        subst hc
        have e1 : sayB j ch x y z = sB ch x := by unfold sayB; simp [hm]
        have e2 : sayB k ch x' y' z' = sB ch x' := by unfold sayB; simp [hk]
        have p1 : plainS ch x = 0 := by rw [← he]; unfold sayE; simp [hm]
        have p2 : plainS ch x' = 0 := by rw [← hf]; unfold sayE; simp [hk]
        rw [e1, e2]
        exact says_tx ch x x' hx hx' p1 p2
      · refine Or.inr (Or.inl ⟨hk, ?_, says_not j k ch ch' x x' y y' z z' hx hx' hy hy' hz hz' he hf (Or.inr hc)⟩)
        simpa using fun h => hc (bytes_inj h)
    · refine Or.inr (Or.inr ⟨?_, says_not j k ch ch' x x' y y' z z' hx hx' hy hy' hz hz' he hf (Or.inl (by rw [hm]; omega))⟩)
      simpa using fun h : (0 : Int) = k % 3 => hk h.symm
  have EQ := fun W => eqTxl W { x with se := z16 } { x' with se := z16 } hx0 hx0'
  have hiT : (Try.prog.info? 27).map (·.size) = some ({ x with se := z16 } : Tx).cs.length := by rw [Tx.len hx0]; kernel_rfl
  have hiT' : (Try.prog.info? 27).map (·.size) = some ({ x' with se := z16 } : Tx).cs.length := by rw [Tx.len hx0']; kernel_rfl
  rw [he] at C23
  rw [hf] at C23'
  generalize sayB j ch x y z = A at *
  generalize sayB k ch' x' y' z' = B at *
  generalize hn : k % 3 = n at *
  generalize eqTxQ { x with se := z16 } { x' with se := z16 } = Q at *
  generalize ({ x with se := z16 } : Tx).cs = X0 at *
  generalize ({ x' with se := z16 } : Tx).cs = X1 at *
  generalize ({ y with se := z16 } : Vt).cs = Y0 at *
  generalize ({ y' with se := z16 } : Vt).cs = Y1 at *
  generalize ({ z with se := z16 } : Po).cs = Z0 at *
  generalize ({ z' with se := z16 } : Po).cs = Z1 at *
  generalize hP : (nmD ch { x with se := z16 } { y with se := z16 } { z with se := z16 }).toArray = P at *
  generalize hQ : (nmD ch' { x' with se := z16 } { y' with se := z16 } { z' with se := z16 }).toArray = R at *
  clear hP hQ
  generalize hD : (nmD ch x y z).toArray = D at *
  generalize hE : (nmD ch' x' y' z').toArray = E at *
  clear hD hE
  have ra : Row ((w.alloc (.cells D 35)).alloc (.cells E 35)) w.heap.size D 35 := (Row.new w D 35).alloc _
  have rb : Row ((w.alloc (.cells D 35)).alloc (.cells E 35)) (w.heap.size + 1) E 35 := Row.newAt _ _ _ _ (by simp)
  have t0 : Turn no w ((w.alloc (.cells D 35)).alloc (.cells E 35)) := ((Turn.refl no w).alloc _).alloc _
  generalize hw0 : (w.alloc (.cells D 35)).alloc (.cells E 35) = w0 at *
  have hD0 := shutX hq
  clear hq
  clear hx hx' hy hy' hz hz' hx0 hx0' hy0 hy0' hz0 hz0' he hf hm hn
  go_enter Try.func6, Try.ntmps6
  go_upto_region 1 with fail
  try rw [hw0]
  clear hw0
  generalize hg : w.heap.size = g at *
  go_upto_region 3 with (go_at_call 22; refine (alive22 _).mono ?_; rintro e' w1 ⟨rfl, t1⟩)
  have ra1 := ra.turn t1 (fun q => q)
  go_upto_region 4 with (first | (guard_target =~ wpList _ _ _ ({ dst := _, op := Op.load 35 _, .. } :: _) _ _; refine wpList_load_row rfl 35 (.tmp 5) rfl g rfl 35 D (0, 0) _ ra1 Try.underlying35 rfl hiD ?_) | (go_at_call 23; refine (C23 _).mono ?_; rintro e' w2 ⟨v2, rfl, o2, n2, t2⟩; obtain ⟨a2, l2, c2, rfl⟩ := o2.form))
  have u2 := t1.then_no t2
  have rb2 := rb.turn u2 (fun q => q)
  go_upto_region 5 with (first | (guard_target =~ wpList _ _ _ ({ dst := _, op := Op.load 35 _, .. } :: _) _ _; refine wpList_load_row rfl 35 (.tmp 7) rfl (g + 1) rfl 35 E (0, 0) _ rb2 Try.underlying35 rfl hiE ?_) | (go_at_call 23; refine (C23' _).mono ?_; rintro e' w3 ⟨v3, rfl, o3, n3, t3⟩; obtain ⟨a3, l3, c3, rfl⟩ := o3.form))
  have u3 := u2.then_no t3
  go_upto_region 7 with fail
  have b2 := o2.bs.turn_no t3
  have b3 := o3.bs
  have ra3 := ra.turn u3 (fun q => q)
  clear o2 o3 n2 n3 ra1 rb2 t1 t2 t3 u2 C23 C23'
  go_upto_region 8 with (first | (guard_target =~ wpList _ _ _ ({ dst := _, op := Op.load 35 _, .. } :: _) _ _; refine wpList_load_row rfl 35 (.tmp 5) rfl g rfl 35 D (0, 0) _ ra3 Try.underlying35 rfl hiD ?_) | (go_at_call 24; refine (C24 _).mono ?_; rintro e' w4 ⟨rfl, t4⟩) | (guard_target =~ wpList _ _ _ ({ dst := _, op := Op.store 35 _ _, .. } :: _) _ _; refine wpList_store_row rfl 35 (.tmp 13) (.tmp 49) rfl w4.heap.size P rfl rfl 35 _ (heap_alloc_new w4 _) hiP (by omega) oP ?_))
  rw [World.setRow_alloc_new]
  have rp := Row.new w4 P 35
  have u4 : Turn no w3 (w4.alloc (.cells P 35)) := t4.alloc _
  generalize w4.alloc (.cells P 35) = y4 at *
  generalize w4.heap.size = gp at *
  have rb4 := rb.turn (u3.then_no u4) (fun q => q)
  clear t4 ra3
  go_upto_region 9 with (first | (guard_target =~ wpList _ _ _ ({ dst := _, op := Op.load 35 _, .. } :: _) _ _; refine wpList_load_row rfl 35 (.tmp 7) rfl (g + 1) rfl 35 E (0, 0) _ rb4 Try.underlying35 rfl hiE ?_) | (go_at_call 24; refine (C24' _).mono ?_; rintro e' w5 ⟨rfl, t5⟩) | (guard_target =~ wpList _ _ _ ({ dst := _, op := Op.store 35 _ _, .. } :: _) _ _; refine wpList_store_row rfl 35 (.tmp 14) (.tmp 51) rfl w5.heap.size R rfl rfl 35 _ (heap_alloc_new w5 _) hiQ (by omega) oQ ?_))
  rw [World.setRow_alloc_new]
  have rq := Row.new w5 R 35
  have u5 : Turn no y4 (w5.alloc (.cells R 35)) := t5.alloc _
  generalize w5.alloc (.cells R 35) = y5 at *
  generalize w5.heap.size = gq at *
  have T5 := u3.then_no (u4.then_no u5)
  have cD := ND _ _ (ra.turn T5 (fun q => q))
  have cE := NE _ _ (rb.turn T5 (fun q => q))
  have B2 := b2.turn_no (u4.then_no u5)
  have B3 := b3.turn_no (u4.then_no u5)
  have rp5 := rp.turn u5 (fun q => q)
  have HP := shutX (NP _ _ rp5)
  have HQ := shutX (NQ _ _ rq)
  have HB := shutX (And.intro B2 (And.intro B3 (And.intro (t0.then_no T5) (And.intro rp5 (ra.turn T5 (fun q => q))))))
  clear b2 b3 u3 u4 u5 t5 rb4 rp5 B2 B3 T5 rq rp ra rb t0 C24 C24' lD lE lP lQ hiD hiE hiP hiQ oP oQ NQ NE hZ hi35
  have hq := hD0.out
  clear hD0
  rcases hq with ⟨h1, h2, hAB⟩ | ⟨h1, h2, hAB⟩ | ⟨h2, hAB⟩
  · subst h1
    subst h2
    go_upto_region 10 with (first | (go_at_call_of 25 j; refine (M1 _).mono ?_; rintro e' w9 ⟨rfl, h9⟩; have h9' := h9; subst h9') | (go_at_call_of 25 k; refine (M2 _).mono ?_; rintro e' w9 ⟨rfl, h9⟩; have h9' := h9; subst h9'))
    go_upto_region 24 with (first | (go_at_call_of 25 j; refine (M1 _).mono ?_; rintro e' w9 ⟨rfl, h9⟩; have h9' := h9; subst h9') | (guard_target =~ wpList _ _ _ ({ dst := some 111, .. } :: _) _ _; refine wpList_load_midG (by kernel_rfl) 27 (.tmp 110) rfl gp 1 (by kernel_rfl) X0 _ (fun j u hu => HP.out.1 j u hu) Try.underlying27 rfl hiT ?_) | (guard_target =~ wpList _ _ _ ({ dst := some 113, .. } :: _) _ _; refine wpList_load_midG (by kernel_rfl) 27 (.tmp 112) rfl gq 1 (by kernel_rfl) X1 _ (fun j u hu => HQ.out.1 j u hu) Try.underlying27 rfl hiT' ?_) | (guard_target =~ wpList _ _ _ ({ dst := some 114, .. } :: _) _ _; refine wpList_eqlG (by kernel_rfl) 27 27 (.tmp 111) (.tmp 113) rfl (.agg X0.toArray) (.agg X1.toArray) (by kernel_rfl) (by kernel_rfl) (.bool Q) (guard27 _ _ _ _ _) (EQ _) ?_))
    have BB := HB.out
    have E14 := same14 _ _ _ _ _ BB.1 BB.2.1
    rw [hAB] at E14
    go_wp2_with (go_at_call 14; refine E14.mono ?_; rintro e' w8 ⟨rfl, n8, rfl⟩)
    go_ret
    refine ⟨by simp, BB.2.2.1.drewN n8⟩
  · subst h1
    go_upto_region 10 with (first | (go_at_call_of 25 j; refine (M1 _).mono ?_; rintro e' w9 ⟨rfl, h9⟩; have h9' := h9; subst h9') | (go_at_call_of 25 k; refine (M2 _).mono ?_; rintro e' w9 ⟨rfl, h9⟩; have h9' := h9; subst h9'))
    go_upto_region 24 with (first | (go_at_call_of 25 j; refine (M1 _).mono ?_; rintro e' w9 ⟨rfl, h9⟩; have h9' := h9; subst h9'))
    have BB := HB.out
    have E14 := same14 _ _ _ _ _ BB.1 BB.2.1
    rw [hAB] at E14
    go_wp2_with (go_at_call 14; refine E14.mono ?_; rintro e' w8 ⟨rfl, n8, rfl⟩)
    go_ret
    refine ⟨by simp, BB.2.2.1.drewN n8⟩
  · skip
    go_upto_region 10 with (first | (go_at_call_of 25 j; refine (M1 _).mono ?_; rintro e' w9 ⟨rfl, h9⟩; have h9' := h9; subst h9') | (go_at_call_of 25 k; refine (M2 _).mono ?_; rintro e' w9 ⟨rfl, h9⟩; have h9' := h9; subst h9'))
    go_upto_region 24 with (first | (go_at_call_of 25 j; refine (M1 _).mono ?_; rintro e' w9 ⟨rfl, h9⟩; have h9' := h9; subst h9'))
    have BB := HB.out
    have E14 := same14 _ _ _ _ _ BB.1 BB.2.1
    rw [hAB] at E14
    go_wp2_with (go_at_call 14; refine E14.mono ?_; rintro e' w8 ⟨rfl, n8, rfl⟩)
    go_ret
    refine ⟨by simp, BB.2.2.1.drewN n8⟩
set_option maxRecDepth 100000 in
set_option maxHeartbeats 8000000 in
theorem saysAll6_1 (w : World) (j k : Int) (ch ch' : ByteArray) (x x' : Tx) (y y' : Vt) (z z' : Po) (hx : x.ok) (hx' : x'.ok) (hy : y.fits) (hy' : y'.fits) (hz : z.ok) (hz' : z'.ok) (hm : j % 3 = 1) (he : sayE j ch x y z = 0) (hf : sayE k ch' x' y' z' = 0) :
    Calls Try.prog 6 #[.int .i64 j, .agg (nmD ch x y z).toArray, .int .i64 k, .agg (nmD ch' x' y' z').toArray] w fun e w' => e = .returned (.bool true) ∧ Turn no w w' := by
  have C23 := fun W => said23 W j ch x y z hx hy hz
  have C23' := fun W => said23 W k ch' x' y' z' hx' hy' hz'
  have lD := nmD_len ch x y z hx hy.1 hz
  have lE := nmD_len ch' x' y' z' hx' hy'.1 hz'
  have hi35 : (Try.prog.info? 35).map (·.size) = some 128 := by kernel_rfl
  have hiD : (Try.prog.info? 35).map (·.size) = some (nmD ch x y z).toArray.size := by rw [lD]; exact hi35
  have hiE : (Try.prog.info? 35).map (·.size) = some (nmD ch' x' y' z').toArray.size := by rw [lE]; exact hi35
  have hx0 : ({ x with se := z16 } : Tx).ok := ⟨rfl, hx.2⟩
  have hx0' : ({ x' with se := z16 } : Tx).ok := ⟨rfl, hx'.2⟩
  have hy0 : ({ y with se := z16 } : Vt).ok := ⟨hy.1.1, rfl⟩
  have hy0' : ({ y' with se := z16 } : Vt).ok := ⟨hy'.1.1, rfl⟩
  have hz0 : ({ z with se := z16 } : Po).ok := ⟨hz.1, rfl, hz.2.2⟩
  have hz0' : ({ z' with se := z16 } : Po).ok := ⟨hz'.1, rfl, hz'.2.2⟩
  have C24 := fun W => unsealed24 W ch x y z hx hy.1 hz
  have C24' := fun W => unsealed24 W ch' x' y' z' hx' hy'.1 hz'
  have lP := nmD_len ch _ _ _ hx0 hy0 hz0
  have lQ := nmD_len ch' _ _ _ hx0' hy0' hz0'
  have oP := nmD_one ch { x with se := z16 } { y with se := z16 } { z with se := z16 }
  have oQ := nmD_one ch' { x' with se := z16 } { y' with se := z16 } { z' with se := z16 }
  have hiP : (Try.prog.info? 35).map (·.size) = some (nmD ch { x with se := z16 } { y with se := z16 } { z with se := z16 }).toArray.size := by rw [lP]; exact hi35
  have hiQ : (Try.prog.info? 35).map (·.size) = some (nmD ch' { x' with se := z16 } { y' with se := z16 } { z' with se := z16 }).toArray.size := by rw [lQ]; exact hi35
  have hZ : Try.zeroCells35.size = 128 := by kernel_rfl
  have ND := fun (W : World) (g : Nat) (r : Row W g (nmD ch x y z).toArray 35) => (r.nmd hx hy.1).1
  have NE := fun (W : World) (g : Nat) (r : Row W g (nmD ch' x' y' z').toArray 35) => (r.nmd hx' hy'.1).1
  have NP := fun (W : World) (g : Nat) (r : Row W g (nmD ch { x with se := z16 } { y with se := z16 } { z with se := z16 }).toArray 35) => (r.nmd hx0 hy0).2
  have NQ := fun (W : World) (g : Nat) (r : Row W g (nmD ch' { x' with se := z16 } { y' with se := z16 } { z' with se := z16 }).toArray 35) => (r.nmd hx0' hy0').2
  have M1 := fun W => mod25 W j
  have M2 := fun W => mod25 W k
  rw [hm] at M1
  have hq : (k % 3 = 1 ∧ ch = ch' ∧ (sayB j ch x y z == sayB k ch' x' y' z') = eqVtQ { y with se := z16 } { y' with se := z16 }) ∨ (k % 3 = 1 ∧ (ch.toList == ch'.toList) = false ∧ (sayB j ch x y z == sayB k ch' x' y' z') = false) ∨ (((1 : Int) == k % 3) = false ∧ (sayB j ch x y z == sayB k ch' x' y' z') = false) := by
    by_cases hk : k % 3 = 1
    · by_cases hc : ch = ch'
      · refine Or.inl ⟨hk, hc, ?_⟩
        subst hc
        have e1 : sayB j ch x y z = sBv ch y := by unfold sayB; simp [hm]
        have e2 : sayB k ch x' y' z' = sBv ch y' := by unfold sayB; simp [hk]
        have p1 : plainSv ch y = 0 := by rw [← he]; unfold sayE; simp [hm]
        have p2 : plainSv ch y' = 0 := by rw [← hf]; unfold sayE; simp [hk]
        rw [e1, e2]
        exact says_vo ch y y' hy hy' p1 p2
      · refine Or.inr (Or.inl ⟨hk, ?_, says_not j k ch ch' x x' y y' z z' hx hx' hy hy' hz hz' he hf (Or.inr hc)⟩)
        simpa using fun h => hc (bytes_inj h)
    · refine Or.inr (Or.inr ⟨?_, says_not j k ch ch' x x' y y' z z' hx hx' hy hy' hz hz' he hf (Or.inl (by rw [hm]; omega))⟩)
      simpa using fun h : (1 : Int) = k % 3 => hk h.symm
  have EQ := fun W => eqVtl W { y with se := z16 } { y' with se := z16 } hy0 hy0'
  have hiT : (Try.prog.info? 31).map (·.size) = some ({ y with se := z16 } : Vt).cs.length := by rw [Vt.len hy0]; kernel_rfl
  have hiT' : (Try.prog.info? 31).map (·.size) = some ({ y' with se := z16 } : Vt).cs.length := by rw [Vt.len hy0']; kernel_rfl
  have eA : sayB j ch x y z = stBv ch y := by
    have p1 : plainSv ch y = 0 := by rw [← he]; unfold sayE; simp [hm]
    unfold sayB sBv
    simp [hm, p1]
  have hback := anV_back ch y hy (by rw [← he]; unfold sayE; simp [hm])
  rw [← eA] at hback
  have hother := anP_of_vote ch y
  rw [← eA] at hother
  have hokO := anP_ok (sayB j ch x y z)
  have C17 := fun W v (h : Bs W v (sayB j ch x y z)) (hl : (sayB j ch x y z).length ≤ 140737488355328) => readVote17 W v _ h hl
  have C18 := fun W v (h : Bs W v (sayB j ch x y z)) (hl : (sayB j ch x y z).length ≤ 140737488355328) => readProp18 W v _ h hl
  have hl : (sayB j ch x y z).length ≤ 140737488355328 := by
    rw [eA]
    obtain ⟨hc16, -⟩ := plainSv_zero (ch := ch) (x := y) (by rw [← he]; unfold sayE; simp [hm])
    have a1 := varE_le ch.size
    have a2 : ch.data.toList.length = ch.size := by rw [Array.length_toList]; rfl
    have b1 := varE_le y.h.toNat; have b2 := varE_le y.r.toNat; have b3 := varE_le y.t.toNat; have b4 := varE_le y.f.toNat; have b5 := hy.1.1
    simp only [stBv, voB, List.length_append, leB_length]
    omega
  rw [hback] at C17
  rw [hother] at C18
  dsimp only at C17
  generalize (anP (sayB j ch x y z)).1 = och at *
  generalize (anP (sayB j ch x y z)).2.1 = oth at *
  have hoo := all_oneCell_toArray (Po.one oth)
  have hos : oth.cs.toArray.size = 52 := Po.size oth hokO.1 hokO.2.1
  have hoi : (Try.prog.info? 33).map (·.size) = some oth.cs.toArray.size := by rw [hos]; kernel_rfl
  have hno := all_oneCell_toArray (Vt.one { y with se := z16 })
  have hns : ({ y with se := z16 } : Vt).cs.toArray.size = 53 := Vt.size hy0
  have hni : (Try.prog.info? 31).map (·.size) = some ({ y with se := z16 } : Vt).cs.toArray.size := by rw [hns]; kernel_rfl
  have NEQ := fun W => neqVt W _ hy0
  generalize oth.cs = O at *
  rw [he] at C23
  rw [hf] at C23'
  generalize sayB j ch x y z = A at *
  generalize sayB k ch' x' y' z' = B at *
  generalize hn : k % 3 = n at *
  generalize eqVtQ { y with se := z16 } { y' with se := z16 } = Q at *
  generalize ({ x with se := z16 } : Tx).cs = X0 at *
  generalize ({ x' with se := z16 } : Tx).cs = X1 at *
  generalize ({ y with se := z16 } : Vt).cs = Y0 at *
  generalize ({ y' with se := z16 } : Vt).cs = Y1 at *
  generalize ({ z with se := z16 } : Po).cs = Z0 at *
  generalize ({ z' with se := z16 } : Po).cs = Z1 at *
  generalize hP : (nmD ch { x with se := z16 } { y with se := z16 } { z with se := z16 }).toArray = P at *
  generalize hQ : (nmD ch' { x' with se := z16 } { y' with se := z16 } { z' with se := z16 }).toArray = R at *
  clear hP hQ
  generalize hD : (nmD ch x y z).toArray = D at *
  generalize hE : (nmD ch' x' y' z').toArray = E at *
  clear hD hE
  have ra : Row ((w.alloc (.cells D 35)).alloc (.cells E 35)) w.heap.size D 35 := (Row.new w D 35).alloc _
  have rb : Row ((w.alloc (.cells D 35)).alloc (.cells E 35)) (w.heap.size + 1) E 35 := Row.newAt _ _ _ _ (by simp)
  have t0 : Turn no w ((w.alloc (.cells D 35)).alloc (.cells E 35)) := ((Turn.refl no w).alloc _).alloc _
  generalize hw0 : (w.alloc (.cells D 35)).alloc (.cells E 35) = w0 at *
  have hD0 := shutX hq
  clear hq
  clear hx hx' hy hy' hz hz' hx0 hx0' hy0 hy0' hz0 hz0' he hf hm hn eA hback hother hokO
  go_enter Try.func6, Try.ntmps6
  go_upto_region 1 with fail
  try rw [hw0]
  clear hw0
  generalize hg : w.heap.size = g at *
  go_upto_region 3 with (go_at_call 22; refine (alive22 _).mono ?_; rintro e' w1 ⟨rfl, t1⟩)
  have ra1 := ra.turn t1 (fun q => q)
  go_upto_region 4 with (first | (guard_target =~ wpList _ _ _ ({ dst := _, op := Op.load 35 _, .. } :: _) _ _; refine wpList_load_row rfl 35 (.tmp 5) rfl g rfl 35 D (0, 0) _ ra1 Try.underlying35 rfl hiD ?_) | (go_at_call 23; refine (C23 _).mono ?_; rintro e' w2 ⟨v2, rfl, o2, n2, t2⟩; obtain ⟨a2, l2, c2, rfl⟩ := o2.form))
  have u2 := t1.then_no t2
  have rb2 := rb.turn u2 (fun q => q)
  go_upto_region 5 with (first | (guard_target =~ wpList _ _ _ ({ dst := _, op := Op.load 35 _, .. } :: _) _ _; refine wpList_load_row rfl 35 (.tmp 7) rfl (g + 1) rfl 35 E (0, 0) _ rb2 Try.underlying35 rfl hiE ?_) | (go_at_call 23; refine (C23' _).mono ?_; rintro e' w3 ⟨v3, rfl, o3, n3, t3⟩; obtain ⟨a3, l3, c3, rfl⟩ := o3.form))
  have u3 := u2.then_no t3
  go_upto_region 7 with fail
  have b2 := o2.bs.turn_no t3
  have b3 := o3.bs
  have ra3 := ra.turn u3 (fun q => q)
  clear o2 o3 n2 n3 ra1 rb2 t1 t2 t3 u2 C23 C23'
  go_upto_region 8 with (first | (guard_target =~ wpList _ _ _ ({ dst := _, op := Op.load 35 _, .. } :: _) _ _; refine wpList_load_row rfl 35 (.tmp 5) rfl g rfl 35 D (0, 0) _ ra3 Try.underlying35 rfl hiD ?_) | (go_at_call 24; refine (C24 _).mono ?_; rintro e' w4 ⟨rfl, t4⟩) | (guard_target =~ wpList _ _ _ ({ dst := _, op := Op.store 35 _ _, .. } :: _) _ _; refine wpList_store_row rfl 35 (.tmp 13) (.tmp 49) rfl w4.heap.size P rfl rfl 35 _ (heap_alloc_new w4 _) hiP (by omega) oP ?_))
  rw [World.setRow_alloc_new]
  have rp := Row.new w4 P 35
  have u4 : Turn no w3 (w4.alloc (.cells P 35)) := t4.alloc _
  generalize w4.alloc (.cells P 35) = y4 at *
  generalize w4.heap.size = gp at *
  have rb4 := rb.turn (u3.then_no u4) (fun q => q)
  clear t4 ra3
  go_upto_region 9 with (first | (guard_target =~ wpList _ _ _ ({ dst := _, op := Op.load 35 _, .. } :: _) _ _; refine wpList_load_row rfl 35 (.tmp 7) rfl (g + 1) rfl 35 E (0, 0) _ rb4 Try.underlying35 rfl hiE ?_) | (go_at_call 24; refine (C24' _).mono ?_; rintro e' w5 ⟨rfl, t5⟩) | (guard_target =~ wpList _ _ _ ({ dst := _, op := Op.store 35 _ _, .. } :: _) _ _; refine wpList_store_row rfl 35 (.tmp 14) (.tmp 51) rfl w5.heap.size R rfl rfl 35 _ (heap_alloc_new w5 _) hiQ (by omega) oQ ?_))
  rw [World.setRow_alloc_new]
  have rq := Row.new w5 R 35
  have u5 : Turn no y4 (w5.alloc (.cells R 35)) := t5.alloc _
  generalize w5.alloc (.cells R 35) = y5 at *
  generalize w5.heap.size = gq at *
  have T5 := u3.then_no (u4.then_no u5)
  have cD := ND _ _ (ra.turn T5 (fun q => q))
  have cE := NE _ _ (rb.turn T5 (fun q => q))
  have B2 := b2.turn_no (u4.then_no u5)
  have B3 := b3.turn_no (u4.then_no u5)
  have rp5 := rp.turn u5 (fun q => q)
  have HP := shutX (NP _ _ rp5)
  have HQ := shutX (NQ _ _ rq)
  have HB := shutX (And.intro B2 (And.intro B3 (And.intro (t0.then_no T5) (And.intro rp5 (ra.turn T5 (fun q => q))))))
  clear b2 b3 u3 u4 u5 t5 rb4 rp5 B2 B3 T5 rq rp ra rb t0 C24 C24' lD lE lP lQ hiD hiE hiP hiQ oP oQ NQ NE hZ hi35
  have hq := hD0.out
  clear hD0
  rcases hq with ⟨h1, h2, hAB⟩ | ⟨h1, h2, hAB⟩ | ⟨h2, hAB⟩
  · subst h1
    subst h2
    go_upto_region 10 with (first | (go_at_call_of 25 j; refine (M1 _).mono ?_; rintro e' w9 ⟨rfl, h9⟩; have h9' := h9; subst h9') | (go_at_call_of 25 k; refine (M2 _).mono ?_; rintro e' w9 ⟨rfl, h9⟩; have h9' := h9; subst h9'))
    go_upto_region 20 with (first | (go_at_call_of 25 j; refine (M1 _).mono ?_; rintro e' w9 ⟨rfl, h9⟩; have h9' := h9; subst h9') | (guard_target =~ wpList _ _ _ ({ dst := some 121, .. } :: _) _ _; refine wpList_load_midG (by kernel_rfl) 31 (.tmp 120) rfl gp 23 (by kernel_rfl) Y0 _ (fun j u hu => HP.out.2.1 j u hu) Try.underlying31 rfl hiT ?_) | (guard_target =~ wpList _ _ _ ({ dst := some 123, .. } :: _) _ _; refine wpList_load_midG (by kernel_rfl) 31 (.tmp 122) rfl gq 23 (by kernel_rfl) Y1 _ (fun j u hu => HQ.out.2.1 j u hu) Try.underlying31 rfl hiT' ?_) | (guard_target =~ wpList _ _ _ ({ dst := some 124, .. } :: _) _ _; refine wpList_eqlG (by kernel_rfl) 31 31 (.tmp 121) (.tmp 123) rfl (.agg Y0.toArray) (.agg Y1.toArray) (by kernel_rfl) (by kernel_rfl) (.bool Q) (guard31 _ _ _ _ _) (EQ _) ?_))
    have BB := HB.out
    have D6 := C17 _ _ BB.1 hl
    go_upto_region 21 with (first | (go_at_call 17; refine D6.mono ?_; rintro e' w6 ⟨rfl, t6⟩) | (guard_target =~ wpList _ _ _ ({ dst := _, op := Op.store 31 _ _, .. } :: _) _ _; refine wpList_store_row rfl 31 (.tmp 17) (.tmp 130) rfl w6.heap.size Y0.toArray rfl rfl 31 _ (heap_alloc_new w6 _) hni (by rw [hns]; rfl) hno ?_))
    rw [World.setRow_alloc_new]
    have r6 := Row.new w6 Y0.toArray 31
    have u6 : Turn no y5 (w6.alloc (.cells Y0.toArray 31)) := t6.alloc _
    generalize w6.alloc (.cells Y0.toArray 31) = y6 at *
    generalize w6.heap.size = g6 at *
    have D7 := C18 _ _ (BB.1.turn_no u6) hl
    clear D6 t6
    go_upto_region 22 with (first | (go_at_call 18; refine D7.mono ?_; rintro e' w7 ⟨rfl, t7⟩) | (guard_target =~ wpList _ _ _ ({ dst := _, op := Op.store 33 _ _, .. } :: _) _ _; refine wpList_store_row rfl 33 (.tmp 20) (.tmp 136) rfl w7.heap.size O.toArray rfl rfl 33 _ (heap_alloc_new w7 _) hoi (by rw [hos]; rfl) hoo ?_))
    rw [World.setRow_alloc_new]
    have u7 : Turn no y6 (w7.alloc (.cells O.toArray 33)) := t7.alloc _
    generalize w7.alloc (.cells O.toArray 33) = y7 at *
    generalize w7.heap.size = g7 at *
    have U7 := u6.then_no u7
    have c6 := (r6.turn u7 (fun q => q)).range
    have H6 := shutX c6
    have H7 := shutX (NP _ _ (BB.2.2.2.1.turn U7 (fun q => q)))
    have cD7 := ND _ _ (BB.2.2.2.2.turn U7 (fun q => q))
    have E14 := same14 _ _ _ _ _ (BB.1.turn_no U7) (BB.2.1.turn_no U7)
    rw [hAB] at E14
    have TT := BB.2.2.1.then_no U7
    have HT := shutX TT
    clear D7 t7 u6 u7 r6 c6 U7 BB cD cE TT
    go_upto_region 24 with (first | (go_at_call 13; refine (num13 _ _).mono ?_; rintro e' w9 ⟨rfl, h9⟩; have h9' := h9; subst h9') | (guard_target =~ wpList _ _ _ ({ dst := some 143, .. } :: _) _ _; refine wpList_load_midG (by kernel_rfl) 31 (.tmp 17) rfl g6 0 (by kernel_rfl) Y0 _ (fun j u hu => H6.out j u hu) Try.underlying31 rfl hiT ?_) | (guard_target =~ wpList _ _ _ ({ dst := some 145, .. } :: _) _ _; refine wpList_load_midG (by kernel_rfl) 31 (.tmp 144) rfl gp 23 (by kernel_rfl) Y0 _ (fun j u hu => H7.out.2.1 j u hu) Try.underlying31 rfl hiT ?_) | (guard_target =~ wpList _ _ _ ({ dst := some 146, .. } :: _) _ _; refine wpList_neqG (by kernel_rfl) 31 31 (.tmp 143) (.tmp 145) rfl (.agg Y0.toArray) (.agg Y0.toArray) (by kernel_rfl) (by kernel_rfl) (.bool false) (guard31n _ _ _ _ _) (NEQ _) ?_))
    go_wp2_with (go_at_call 14; refine E14.mono ?_; rintro e' w8 ⟨rfl, n8, rfl⟩)
    go_ret
    refine ⟨by simp, HT.out.drewN n8⟩
  · subst h1
    go_upto_region 10 with (first | (go_at_call_of 25 j; refine (M1 _).mono ?_; rintro e' w9 ⟨rfl, h9⟩; have h9' := h9; subst h9') | (go_at_call_of 25 k; refine (M2 _).mono ?_; rintro e' w9 ⟨rfl, h9⟩; have h9' := h9; subst h9'))
    go_upto_region 20 with (first | (go_at_call_of 25 j; refine (M1 _).mono ?_; rintro e' w9 ⟨rfl, h9⟩; have h9' := h9; subst h9'))
    have BB := HB.out
    have D6 := C17 _ _ BB.1 hl
    go_upto_region 21 with (first | (go_at_call 17; refine D6.mono ?_; rintro e' w6 ⟨rfl, t6⟩) | (guard_target =~ wpList _ _ _ ({ dst := _, op := Op.store 31 _ _, .. } :: _) _ _; refine wpList_store_row rfl 31 (.tmp 17) (.tmp 130) rfl w6.heap.size Y0.toArray rfl rfl 31 _ (heap_alloc_new w6 _) hni (by rw [hns]; rfl) hno ?_))
    rw [World.setRow_alloc_new]
    have r6 := Row.new w6 Y0.toArray 31
    have u6 : Turn no y5 (w6.alloc (.cells Y0.toArray 31)) := t6.alloc _
    generalize w6.alloc (.cells Y0.toArray 31) = y6 at *
    generalize w6.heap.size = g6 at *
    have D7 := C18 _ _ (BB.1.turn_no u6) hl
    clear D6 t6
    go_upto_region 22 with (first | (go_at_call 18; refine D7.mono ?_; rintro e' w7 ⟨rfl, t7⟩) | (guard_target =~ wpList _ _ _ ({ dst := _, op := Op.store 33 _ _, .. } :: _) _ _; refine wpList_store_row rfl 33 (.tmp 20) (.tmp 136) rfl w7.heap.size O.toArray rfl rfl 33 _ (heap_alloc_new w7 _) hoi (by rw [hos]; rfl) hoo ?_))
    rw [World.setRow_alloc_new]
    have u7 : Turn no y6 (w7.alloc (.cells O.toArray 33)) := t7.alloc _
    generalize w7.alloc (.cells O.toArray 33) = y7 at *
    generalize w7.heap.size = g7 at *
    have U7 := u6.then_no u7
    have c6 := (r6.turn u7 (fun q => q)).range
    have H6 := shutX c6
    have H7 := shutX (NP _ _ (BB.2.2.2.1.turn U7 (fun q => q)))
    have cD7 := ND _ _ (BB.2.2.2.2.turn U7 (fun q => q))
    have E14 := same14 _ _ _ _ _ (BB.1.turn_no U7) (BB.2.1.turn_no U7)
    rw [hAB] at E14
    have TT := BB.2.2.1.then_no U7
    have HT := shutX TT
    clear D7 t7 u6 u7 r6 c6 U7 BB cD cE TT
    go_upto_region 24 with (first | (go_at_call 13; refine (num13 _ _).mono ?_; rintro e' w9 ⟨rfl, h9⟩; have h9' := h9; subst h9') | (guard_target =~ wpList _ _ _ ({ dst := some 143, .. } :: _) _ _; refine wpList_load_midG (by kernel_rfl) 31 (.tmp 17) rfl g6 0 (by kernel_rfl) Y0 _ (fun j u hu => H6.out j u hu) Try.underlying31 rfl hiT ?_) | (guard_target =~ wpList _ _ _ ({ dst := some 145, .. } :: _) _ _; refine wpList_load_midG (by kernel_rfl) 31 (.tmp 144) rfl gp 23 (by kernel_rfl) Y0 _ (fun j u hu => H7.out.2.1 j u hu) Try.underlying31 rfl hiT ?_) | (guard_target =~ wpList _ _ _ ({ dst := some 146, .. } :: _) _ _; refine wpList_neqG (by kernel_rfl) 31 31 (.tmp 143) (.tmp 145) rfl (.agg Y0.toArray) (.agg Y0.toArray) (by kernel_rfl) (by kernel_rfl) (.bool false) (guard31n _ _ _ _ _) (NEQ _) ?_))
    go_wp2_with (go_at_call 14; refine E14.mono ?_; rintro e' w8 ⟨rfl, n8, rfl⟩)
    go_ret
    refine ⟨by simp, HT.out.drewN n8⟩
  · skip
    go_upto_region 10 with (first | (go_at_call_of 25 j; refine (M1 _).mono ?_; rintro e' w9 ⟨rfl, h9⟩; have h9' := h9; subst h9') | (go_at_call_of 25 k; refine (M2 _).mono ?_; rintro e' w9 ⟨rfl, h9⟩; have h9' := h9; subst h9'))
    go_upto_region 20 with (first | (go_at_call_of 25 j; refine (M1 _).mono ?_; rintro e' w9 ⟨rfl, h9⟩; have h9' := h9; subst h9'))
    have BB := HB.out
    have D6 := C17 _ _ BB.1 hl
    go_upto_region 21 with (first | (go_at_call 17; refine D6.mono ?_; rintro e' w6 ⟨rfl, t6⟩) | (guard_target =~ wpList _ _ _ ({ dst := _, op := Op.store 31 _ _, .. } :: _) _ _; refine wpList_store_row rfl 31 (.tmp 17) (.tmp 130) rfl w6.heap.size Y0.toArray rfl rfl 31 _ (heap_alloc_new w6 _) hni (by rw [hns]; rfl) hno ?_))
    rw [World.setRow_alloc_new]
    have r6 := Row.new w6 Y0.toArray 31
    have u6 : Turn no y5 (w6.alloc (.cells Y0.toArray 31)) := t6.alloc _
    generalize w6.alloc (.cells Y0.toArray 31) = y6 at *
    generalize w6.heap.size = g6 at *
    have D7 := C18 _ _ (BB.1.turn_no u6) hl
    clear D6 t6
    go_upto_region 22 with (first | (go_at_call 18; refine D7.mono ?_; rintro e' w7 ⟨rfl, t7⟩) | (guard_target =~ wpList _ _ _ ({ dst := _, op := Op.store 33 _ _, .. } :: _) _ _; refine wpList_store_row rfl 33 (.tmp 20) (.tmp 136) rfl w7.heap.size O.toArray rfl rfl 33 _ (heap_alloc_new w7 _) hoi (by rw [hos]; rfl) hoo ?_))
    rw [World.setRow_alloc_new]
    have u7 : Turn no y6 (w7.alloc (.cells O.toArray 33)) := t7.alloc _
    generalize w7.alloc (.cells O.toArray 33) = y7 at *
    generalize w7.heap.size = g7 at *
    have U7 := u6.then_no u7
    have c6 := (r6.turn u7 (fun q => q)).range
    have H6 := shutX c6
    have H7 := shutX (NP _ _ (BB.2.2.2.1.turn U7 (fun q => q)))
    have cD7 := ND _ _ (BB.2.2.2.2.turn U7 (fun q => q))
    have E14 := same14 _ _ _ _ _ (BB.1.turn_no U7) (BB.2.1.turn_no U7)
    rw [hAB] at E14
    have TT := BB.2.2.1.then_no U7
    have HT := shutX TT
    clear D7 t7 u6 u7 r6 c6 U7 BB cD cE TT
    go_upto_region 24 with (first | (go_at_call 13; refine (num13 _ _).mono ?_; rintro e' w9 ⟨rfl, h9⟩; have h9' := h9; subst h9') | (guard_target =~ wpList _ _ _ ({ dst := some 143, .. } :: _) _ _; refine wpList_load_midG (by kernel_rfl) 31 (.tmp 17) rfl g6 0 (by kernel_rfl) Y0 _ (fun j u hu => H6.out j u hu) Try.underlying31 rfl hiT ?_) | (guard_target =~ wpList _ _ _ ({ dst := some 145, .. } :: _) _ _; refine wpList_load_midG (by kernel_rfl) 31 (.tmp 144) rfl gp 23 (by kernel_rfl) Y0 _ (fun j u hu => H7.out.2.1 j u hu) Try.underlying31 rfl hiT ?_) | (guard_target =~ wpList _ _ _ ({ dst := some 146, .. } :: _) _ _; refine wpList_neqG (by kernel_rfl) 31 31 (.tmp 143) (.tmp 145) rfl (.agg Y0.toArray) (.agg Y0.toArray) (by kernel_rfl) (by kernel_rfl) (.bool false) (guard31n _ _ _ _ _) (NEQ _) ?_))
    go_wp2_with (go_at_call 14; refine E14.mono ?_; rintro e' w8 ⟨rfl, n8, rfl⟩)
    go_ret
    refine ⟨by simp, HT.out.drewN n8⟩
set_option maxRecDepth 100000 in
set_option maxHeartbeats 8000000 in
theorem saysAll6_2 (w : World) (j k : Int) (ch ch' : ByteArray) (x x' : Tx) (y y' : Vt) (z z' : Po) (hx : x.ok) (hx' : x'.ok) (hy : y.fits) (hy' : y'.fits) (hz : z.ok) (hz' : z'.ok) (hm : j % 3 = 2) (he : sayE j ch x y z = 0) (hf : sayE k ch' x' y' z' = 0) :
    Calls Try.prog 6 #[.int .i64 j, .agg (nmD ch x y z).toArray, .int .i64 k, .agg (nmD ch' x' y' z').toArray] w fun e w' => e = .returned (.bool true) ∧ Turn no w w' := by
  have C23 := fun W => said23 W j ch x y z hx hy hz
  have C23' := fun W => said23 W k ch' x' y' z' hx' hy' hz'
  have lD := nmD_len ch x y z hx hy.1 hz
  have lE := nmD_len ch' x' y' z' hx' hy'.1 hz'
  have hi35 : (Try.prog.info? 35).map (·.size) = some 128 := by kernel_rfl
  have hiD : (Try.prog.info? 35).map (·.size) = some (nmD ch x y z).toArray.size := by rw [lD]; exact hi35
  have hiE : (Try.prog.info? 35).map (·.size) = some (nmD ch' x' y' z').toArray.size := by rw [lE]; exact hi35
  have hx0 : ({ x with se := z16 } : Tx).ok := ⟨rfl, hx.2⟩
  have hx0' : ({ x' with se := z16 } : Tx).ok := ⟨rfl, hx'.2⟩
  have hy0 : ({ y with se := z16 } : Vt).ok := ⟨hy.1.1, rfl⟩
  have hy0' : ({ y' with se := z16 } : Vt).ok := ⟨hy'.1.1, rfl⟩
  have hz0 : ({ z with se := z16 } : Po).ok := ⟨hz.1, rfl, hz.2.2⟩
  have hz0' : ({ z' with se := z16 } : Po).ok := ⟨hz'.1, rfl, hz'.2.2⟩
  have C24 := fun W => unsealed24 W ch x y z hx hy.1 hz
  have C24' := fun W => unsealed24 W ch' x' y' z' hx' hy'.1 hz'
  have lP := nmD_len ch _ _ _ hx0 hy0 hz0
  have lQ := nmD_len ch' _ _ _ hx0' hy0' hz0'
  have oP := nmD_one ch { x with se := z16 } { y with se := z16 } { z with se := z16 }
  have oQ := nmD_one ch' { x' with se := z16 } { y' with se := z16 } { z' with se := z16 }
  have hiP : (Try.prog.info? 35).map (·.size) = some (nmD ch { x with se := z16 } { y with se := z16 } { z with se := z16 }).toArray.size := by rw [lP]; exact hi35
  have hiQ : (Try.prog.info? 35).map (·.size) = some (nmD ch' { x' with se := z16 } { y' with se := z16 } { z' with se := z16 }).toArray.size := by rw [lQ]; exact hi35
  have hZ : Try.zeroCells35.size = 128 := by kernel_rfl
  have ND := fun (W : World) (g : Nat) (r : Row W g (nmD ch x y z).toArray 35) => (r.nmd hx hy.1).1
  have NE := fun (W : World) (g : Nat) (r : Row W g (nmD ch' x' y' z').toArray 35) => (r.nmd hx' hy'.1).1
  have NP := fun (W : World) (g : Nat) (r : Row W g (nmD ch { x with se := z16 } { y with se := z16 } { z with se := z16 }).toArray 35) => (r.nmd hx0 hy0).2
  have NQ := fun (W : World) (g : Nat) (r : Row W g (nmD ch' { x' with se := z16 } { y' with se := z16 } { z' with se := z16 }).toArray 35) => (r.nmd hx0' hy0').2
  have M1 := fun W => mod25 W j
  have M2 := fun W => mod25 W k
  rw [hm] at M1
  have hq : (k % 3 = 2 ∧ ch = ch' ∧ (sayB j ch x y z == sayB k ch' x' y' z') = eqPoQ { z with se := z16 } { z' with se := z16 }) ∨ (k % 3 = 2 ∧ (ch.toList == ch'.toList) = false ∧ (sayB j ch x y z == sayB k ch' x' y' z') = false) ∨ (((2 : Int) == k % 3) = false ∧ (sayB j ch x y z == sayB k ch' x' y' z') = false) := by
    by_cases hk : k % 3 = 2
    · by_cases hc : ch = ch'
      · refine Or.inl ⟨hk, hc, ?_⟩
        subst hc
        have e1 : sayB j ch x y z = sBp ch z := by unfold sayB; simp [hm]
        have e2 : sayB k ch x' y' z' = sBp ch z' := by unfold sayB; simp [hk]
        have p1 : plainSp ch z = 0 := by rw [← he]; unfold sayE; simp [hm]
        have p2 : plainSp ch z' = 0 := by rw [← hf]; unfold sayE; simp [hk]
        rw [e1, e2]
        exact says_po ch z z' hz hz' p1 p2
      · refine Or.inr (Or.inl ⟨hk, ?_, says_not j k ch ch' x x' y y' z z' hx hx' hy hy' hz hz' he hf (Or.inr hc)⟩)
        simpa using fun h => hc (bytes_inj h)
    · refine Or.inr (Or.inr ⟨?_, says_not j k ch ch' x x' y y' z z' hx hx' hy hy' hz hz' he hf (Or.inl (by rw [hm]; omega))⟩)
      simpa using fun h : (2 : Int) = k % 3 => hk h.symm
  have EQ := fun W => eqPol W { z with se := z16 } { z' with se := z16 } hz0 hz0'
  have hiT : (Try.prog.info? 33).map (·.size) = some ({ z with se := z16 } : Po).cs.length := by rw [Po.len hz0]; kernel_rfl
  have hiT' : (Try.prog.info? 33).map (·.size) = some ({ z' with se := z16 } : Po).cs.length := by rw [Po.len hz0']; kernel_rfl
  have hm0 : ¬ j % 3 = 0 := by omega
  have hm1 : ¬ j % 3 = 1 := by omega
  have eA : sayB j ch x y z = stBp ch z := by
    have p1 : plainSp ch z = 0 := by rw [← he]; unfold sayE; rw [if_neg hm0, if_neg hm1]
    unfold sayB sBp
    rw [if_neg hm0, if_neg hm1, if_pos p1]
  have hback := anP_back ch z hz (by rw [← he]; unfold sayE; rw [if_neg hm0, if_neg hm1])
  rw [← eA] at hback
  have hother := anV_of_prop ch z
  rw [← eA] at hother
  have hokO := anV_ok (sayB j ch x y z)
  have C18 := fun W v (h : Bs W v (sayB j ch x y z)) (hl : (sayB j ch x y z).length ≤ 140737488355328) => readProp18 W v _ h hl
  have C17 := fun W v (h : Bs W v (sayB j ch x y z)) (hl : (sayB j ch x y z).length ≤ 140737488355328) => readVote17 W v _ h hl
  have hl : (sayB j ch x y z).length ≤ 140737488355328 := by
    rw [eA]
    obtain ⟨hc16, -⟩ := plainSp_zero (ch := ch) (x := z) (by rw [← he]; unfold sayE; rw [if_neg hm0, if_neg hm1])
    have a1 := varE_le ch.size
    have a2 : ch.data.toList.length = ch.size := by rw [Array.length_toList]; rfl
    have b1 := varE_le z.h; have b2 := varE_le z.r.toNat; have b3 := varE_le (z.vr + 1).toNat; have b4 := varE_le z.f; have b5 := hz.1
    simp only [stBp, poB, List.length_append, leB_length]
    omega
  rw [hback] at C18
  rw [hother] at C17
  dsimp only at C18
  generalize (anV (sayB j ch x y z)).1 = och at *
  generalize (anV (sayB j ch x y z)).2.1 = oth at *
  have hoo := all_oneCell_toArray (Vt.one oth)
  have hos : oth.cs.toArray.size = 53 := Vt.size hokO.1
  have hoi : (Try.prog.info? 31).map (·.size) = some oth.cs.toArray.size := by rw [hos]; kernel_rfl
  have hno := all_oneCell_toArray (Po.one { z with se := z16 })
  have hns : ({ z with se := z16 } : Po).cs.toArray.size = 52 := Po.size _ hz0.1 hz0.2.1
  have hni : (Try.prog.info? 33).map (·.size) = some ({ z with se := z16 } : Po).cs.toArray.size := by rw [hns]; kernel_rfl
  have NEQ := fun W => neqPo W _ hz0
  generalize oth.cs = O at *
  rw [he] at C23
  rw [hf] at C23'
  generalize sayB j ch x y z = A at *
  generalize sayB k ch' x' y' z' = B at *
  generalize hn : k % 3 = n at *
  generalize eqPoQ { z with se := z16 } { z' with se := z16 } = Q at *
  generalize ({ x with se := z16 } : Tx).cs = X0 at *
  generalize ({ x' with se := z16 } : Tx).cs = X1 at *
  generalize ({ y with se := z16 } : Vt).cs = Y0 at *
  generalize ({ y' with se := z16 } : Vt).cs = Y1 at *
  generalize ({ z with se := z16 } : Po).cs = Z0 at *
  generalize ({ z' with se := z16 } : Po).cs = Z1 at *
  generalize hP : (nmD ch { x with se := z16 } { y with se := z16 } { z with se := z16 }).toArray = P at *
  generalize hQ : (nmD ch' { x' with se := z16 } { y' with se := z16 } { z' with se := z16 }).toArray = R at *
  clear hP hQ
  generalize hD : (nmD ch x y z).toArray = D at *
  generalize hE : (nmD ch' x' y' z').toArray = E at *
  clear hD hE
  have ra : Row ((w.alloc (.cells D 35)).alloc (.cells E 35)) w.heap.size D 35 := (Row.new w D 35).alloc _
  have rb : Row ((w.alloc (.cells D 35)).alloc (.cells E 35)) (w.heap.size + 1) E 35 := Row.newAt _ _ _ _ (by simp)
  have t0 : Turn no w ((w.alloc (.cells D 35)).alloc (.cells E 35)) := ((Turn.refl no w).alloc _).alloc _
  generalize hw0 : (w.alloc (.cells D 35)).alloc (.cells E 35) = w0 at *
  have hD0 := shutX hq
  clear hq
  clear hx hx' hy hy' hz hz' hx0 hx0' hy0 hy0' hz0 hz0' he hf hm hn hm0 hm1 eA hback hother hokO
  go_enter Try.func6, Try.ntmps6
  go_upto_region 1 with fail
  try rw [hw0]
  clear hw0
  generalize hg : w.heap.size = g at *
  go_upto_region 3 with (go_at_call 22; refine (alive22 _).mono ?_; rintro e' w1 ⟨rfl, t1⟩)
  have ra1 := ra.turn t1 (fun q => q)
  go_upto_region 4 with (first | (guard_target =~ wpList _ _ _ ({ dst := _, op := Op.load 35 _, .. } :: _) _ _; refine wpList_load_row rfl 35 (.tmp 5) rfl g rfl 35 D (0, 0) _ ra1 Try.underlying35 rfl hiD ?_) | (go_at_call 23; refine (C23 _).mono ?_; rintro e' w2 ⟨v2, rfl, o2, n2, t2⟩; obtain ⟨a2, l2, c2, rfl⟩ := o2.form))
  have u2 := t1.then_no t2
  have rb2 := rb.turn u2 (fun q => q)
  go_upto_region 5 with (first | (guard_target =~ wpList _ _ _ ({ dst := _, op := Op.load 35 _, .. } :: _) _ _; refine wpList_load_row rfl 35 (.tmp 7) rfl (g + 1) rfl 35 E (0, 0) _ rb2 Try.underlying35 rfl hiE ?_) | (go_at_call 23; refine (C23' _).mono ?_; rintro e' w3 ⟨v3, rfl, o3, n3, t3⟩; obtain ⟨a3, l3, c3, rfl⟩ := o3.form))
  have u3 := u2.then_no t3
  go_upto_region 7 with fail
  have b2 := o2.bs.turn_no t3
  have b3 := o3.bs
  have ra3 := ra.turn u3 (fun q => q)
  clear o2 o3 n2 n3 ra1 rb2 t1 t2 t3 u2 C23 C23'
  go_upto_region 8 with (first | (guard_target =~ wpList _ _ _ ({ dst := _, op := Op.load 35 _, .. } :: _) _ _; refine wpList_load_row rfl 35 (.tmp 5) rfl g rfl 35 D (0, 0) _ ra3 Try.underlying35 rfl hiD ?_) | (go_at_call 24; refine (C24 _).mono ?_; rintro e' w4 ⟨rfl, t4⟩) | (guard_target =~ wpList _ _ _ ({ dst := _, op := Op.store 35 _ _, .. } :: _) _ _; refine wpList_store_row rfl 35 (.tmp 13) (.tmp 49) rfl w4.heap.size P rfl rfl 35 _ (heap_alloc_new w4 _) hiP (by omega) oP ?_))
  rw [World.setRow_alloc_new]
  have rp := Row.new w4 P 35
  have u4 : Turn no w3 (w4.alloc (.cells P 35)) := t4.alloc _
  generalize w4.alloc (.cells P 35) = y4 at *
  generalize w4.heap.size = gp at *
  have rb4 := rb.turn (u3.then_no u4) (fun q => q)
  clear t4 ra3
  go_upto_region 9 with (first | (guard_target =~ wpList _ _ _ ({ dst := _, op := Op.load 35 _, .. } :: _) _ _; refine wpList_load_row rfl 35 (.tmp 7) rfl (g + 1) rfl 35 E (0, 0) _ rb4 Try.underlying35 rfl hiE ?_) | (go_at_call 24; refine (C24' _).mono ?_; rintro e' w5 ⟨rfl, t5⟩) | (guard_target =~ wpList _ _ _ ({ dst := _, op := Op.store 35 _ _, .. } :: _) _ _; refine wpList_store_row rfl 35 (.tmp 14) (.tmp 51) rfl w5.heap.size R rfl rfl 35 _ (heap_alloc_new w5 _) hiQ (by omega) oQ ?_))
  rw [World.setRow_alloc_new]
  have rq := Row.new w5 R 35
  have u5 : Turn no y4 (w5.alloc (.cells R 35)) := t5.alloc _
  generalize w5.alloc (.cells R 35) = y5 at *
  generalize w5.heap.size = gq at *
  have T5 := u3.then_no (u4.then_no u5)
  have cD := ND _ _ (ra.turn T5 (fun q => q))
  have cE := NE _ _ (rb.turn T5 (fun q => q))
  have B2 := b2.turn_no (u4.then_no u5)
  have B3 := b3.turn_no (u4.then_no u5)
  have rp5 := rp.turn u5 (fun q => q)
  have HP := shutX (NP _ _ rp5)
  have HQ := shutX (NQ _ _ rq)
  have HB := shutX (And.intro B2 (And.intro B3 (And.intro (t0.then_no T5) (And.intro rp5 (ra.turn T5 (fun q => q))))))
  clear b2 b3 u3 u4 u5 t5 rb4 rp5 B2 B3 T5 rq rp ra rb t0 C24 C24' lD lE lP lQ hiD hiE hiP hiQ oP oQ NQ NE hZ hi35
  have hq := hD0.out
  clear hD0
  rcases hq with ⟨h1, h2, hAB⟩ | ⟨h1, h2, hAB⟩ | ⟨h2, hAB⟩
  · subst h1
    subst h2
    go_upto_region 10 with (first | (go_at_call_of 25 j; refine (M1 _).mono ?_; rintro e' w9 ⟨rfl, h9⟩; have h9' := h9; subst h9') | (go_at_call_of 25 k; refine (M2 _).mono ?_; rintro e' w9 ⟨rfl, h9⟩; have h9' := h9; subst h9'))
    go_upto_region 12 with (first | (go_at_call_of 25 j; refine (M1 _).mono ?_; rintro e' w9 ⟨rfl, h9⟩; have h9' := h9; subst h9') | (guard_target =~ wpList _ _ _ ({ dst := some 69, .. } :: _) _ _; refine wpList_load_midG (by kernel_rfl) 33 (.tmp 68) rfl gp 76 (by kernel_rfl) Z0 _ (fun j u hu => HP.out.2.2 j u hu) Try.underlying33 rfl hiT ?_) | (guard_target =~ wpList _ _ _ ({ dst := some 71, .. } :: _) _ _; refine wpList_load_midG (by kernel_rfl) 33 (.tmp 70) rfl gq 76 (by kernel_rfl) Z1 _ (fun j u hu => HQ.out.2.2 j u hu) Try.underlying33 rfl hiT' ?_) | (guard_target =~ wpList _ _ _ ({ dst := some 72, .. } :: _) _ _; refine wpList_eqlG (by kernel_rfl) 33 33 (.tmp 69) (.tmp 71) rfl (.agg Z0.toArray) (.agg Z1.toArray) (by kernel_rfl) (by kernel_rfl) (.bool Q) (guard33 _ _ _ _ _) (EQ _) ?_))
    have BB := HB.out
    have D6 := C18 _ _ BB.1 hl
    go_upto_region 13 with (first | (go_at_call 18; refine D6.mono ?_; rintro e' w6 ⟨rfl, t6⟩) | (guard_target =~ wpList _ _ _ ({ dst := _, op := Op.store 33 _ _, .. } :: _) _ _; refine wpList_store_row rfl 33 (.tmp 23) (.tmp 78) rfl w6.heap.size Z0.toArray rfl rfl 33 _ (heap_alloc_new w6 _) hni (by rw [hns]; rfl) hno ?_))
    rw [World.setRow_alloc_new]
    have r6 := Row.new w6 Z0.toArray 33
    have u6 : Turn no y5 (w6.alloc (.cells Z0.toArray 33)) := t6.alloc _
    generalize w6.alloc (.cells Z0.toArray 33) = y6 at *
    generalize w6.heap.size = g6 at *
    have D7 := C17 _ _ (BB.1.turn_no u6) hl
    clear D6 t6
    go_upto_region 14 with (first | (go_at_call 17; refine D7.mono ?_; rintro e' w7 ⟨rfl, t7⟩) | (guard_target =~ wpList _ _ _ ({ dst := _, op := Op.store 31 _ _, .. } :: _) _ _; refine wpList_store_row rfl 31 (.tmp 26) (.tmp 84) rfl w7.heap.size O.toArray rfl rfl 31 _ (heap_alloc_new w7 _) hoi (by rw [hos]; rfl) hoo ?_))
    rw [World.setRow_alloc_new]
    have u7 : Turn no y6 (w7.alloc (.cells O.toArray 31)) := t7.alloc _
    generalize w7.alloc (.cells O.toArray 31) = y7 at *
    generalize w7.heap.size = g7 at *
    have U7 := u6.then_no u7
    have c6 := (r6.turn u7 (fun q => q)).range
    have H6 := shutX c6
    have H7 := shutX (NP _ _ (BB.2.2.2.1.turn U7 (fun q => q)))
    have cD7 := ND _ _ (BB.2.2.2.2.turn U7 (fun q => q))
    have E14 := same14 _ _ _ _ _ (BB.1.turn_no U7) (BB.2.1.turn_no U7)
    rw [hAB] at E14
    have TT := BB.2.2.1.then_no U7
    have HT := shutX TT
    clear D7 t7 u6 u7 r6 c6 U7 BB cD cE TT
    go_upto_region 24 with (first | (go_at_call 13; refine (num13 _ _).mono ?_; rintro e' w9 ⟨rfl, h9⟩; have h9' := h9; subst h9') | (guard_target =~ wpList _ _ _ ({ dst := some 91, .. } :: _) _ _; refine wpList_load_midG (by kernel_rfl) 33 (.tmp 23) rfl g6 0 (by kernel_rfl) Z0 _ (fun j u hu => H6.out j u hu) Try.underlying33 rfl hiT ?_) | (guard_target =~ wpList _ _ _ ({ dst := some 93, .. } :: _) _ _; refine wpList_load_midG (by kernel_rfl) 33 (.tmp 92) rfl gp 76 (by kernel_rfl) Z0 _ (fun j u hu => H7.out.2.2 j u hu) Try.underlying33 rfl hiT ?_) | (guard_target =~ wpList _ _ _ ({ dst := some 94, .. } :: _) _ _; refine wpList_neqG (by kernel_rfl) 33 33 (.tmp 91) (.tmp 93) rfl (.agg Z0.toArray) (.agg Z0.toArray) (by kernel_rfl) (by kernel_rfl) (.bool false) (guard33n _ _ _ _ _) (NEQ _) ?_))
    go_wp2_with (go_at_call 14; refine E14.mono ?_; rintro e' w8 ⟨rfl, n8, rfl⟩)
    go_ret
    refine ⟨by simp, HT.out.drewN n8⟩
  · subst h1
    go_upto_region 10 with (first | (go_at_call_of 25 j; refine (M1 _).mono ?_; rintro e' w9 ⟨rfl, h9⟩; have h9' := h9; subst h9') | (go_at_call_of 25 k; refine (M2 _).mono ?_; rintro e' w9 ⟨rfl, h9⟩; have h9' := h9; subst h9'))
    go_upto_region 12 with (first | (go_at_call_of 25 j; refine (M1 _).mono ?_; rintro e' w9 ⟨rfl, h9⟩; have h9' := h9; subst h9'))
    have BB := HB.out
    have D6 := C18 _ _ BB.1 hl
    go_upto_region 13 with (first | (go_at_call 18; refine D6.mono ?_; rintro e' w6 ⟨rfl, t6⟩) | (guard_target =~ wpList _ _ _ ({ dst := _, op := Op.store 33 _ _, .. } :: _) _ _; refine wpList_store_row rfl 33 (.tmp 23) (.tmp 78) rfl w6.heap.size Z0.toArray rfl rfl 33 _ (heap_alloc_new w6 _) hni (by rw [hns]; rfl) hno ?_))
    rw [World.setRow_alloc_new]
    have r6 := Row.new w6 Z0.toArray 33
    have u6 : Turn no y5 (w6.alloc (.cells Z0.toArray 33)) := t6.alloc _
    generalize w6.alloc (.cells Z0.toArray 33) = y6 at *
    generalize w6.heap.size = g6 at *
    have D7 := C17 _ _ (BB.1.turn_no u6) hl
    clear D6 t6
    go_upto_region 14 with (first | (go_at_call 17; refine D7.mono ?_; rintro e' w7 ⟨rfl, t7⟩) | (guard_target =~ wpList _ _ _ ({ dst := _, op := Op.store 31 _ _, .. } :: _) _ _; refine wpList_store_row rfl 31 (.tmp 26) (.tmp 84) rfl w7.heap.size O.toArray rfl rfl 31 _ (heap_alloc_new w7 _) hoi (by rw [hos]; rfl) hoo ?_))
    rw [World.setRow_alloc_new]
    have u7 : Turn no y6 (w7.alloc (.cells O.toArray 31)) := t7.alloc _
    generalize w7.alloc (.cells O.toArray 31) = y7 at *
    generalize w7.heap.size = g7 at *
    have U7 := u6.then_no u7
    have c6 := (r6.turn u7 (fun q => q)).range
    have H6 := shutX c6
    have H7 := shutX (NP _ _ (BB.2.2.2.1.turn U7 (fun q => q)))
    have cD7 := ND _ _ (BB.2.2.2.2.turn U7 (fun q => q))
    have E14 := same14 _ _ _ _ _ (BB.1.turn_no U7) (BB.2.1.turn_no U7)
    rw [hAB] at E14
    have TT := BB.2.2.1.then_no U7
    have HT := shutX TT
    clear D7 t7 u6 u7 r6 c6 U7 BB cD cE TT
    go_upto_region 24 with (first | (go_at_call 13; refine (num13 _ _).mono ?_; rintro e' w9 ⟨rfl, h9⟩; have h9' := h9; subst h9') | (guard_target =~ wpList _ _ _ ({ dst := some 91, .. } :: _) _ _; refine wpList_load_midG (by kernel_rfl) 33 (.tmp 23) rfl g6 0 (by kernel_rfl) Z0 _ (fun j u hu => H6.out j u hu) Try.underlying33 rfl hiT ?_) | (guard_target =~ wpList _ _ _ ({ dst := some 93, .. } :: _) _ _; refine wpList_load_midG (by kernel_rfl) 33 (.tmp 92) rfl gp 76 (by kernel_rfl) Z0 _ (fun j u hu => H7.out.2.2 j u hu) Try.underlying33 rfl hiT ?_) | (guard_target =~ wpList _ _ _ ({ dst := some 94, .. } :: _) _ _; refine wpList_neqG (by kernel_rfl) 33 33 (.tmp 91) (.tmp 93) rfl (.agg Z0.toArray) (.agg Z0.toArray) (by kernel_rfl) (by kernel_rfl) (.bool false) (guard33n _ _ _ _ _) (NEQ _) ?_))
    go_wp2_with (go_at_call 14; refine E14.mono ?_; rintro e' w8 ⟨rfl, n8, rfl⟩)
    go_ret
    refine ⟨by simp, HT.out.drewN n8⟩
  · skip
    go_upto_region 10 with (first | (go_at_call_of 25 j; refine (M1 _).mono ?_; rintro e' w9 ⟨rfl, h9⟩; have h9' := h9; subst h9') | (go_at_call_of 25 k; refine (M2 _).mono ?_; rintro e' w9 ⟨rfl, h9⟩; have h9' := h9; subst h9'))
    go_upto_region 12 with (first | (go_at_call_of 25 j; refine (M1 _).mono ?_; rintro e' w9 ⟨rfl, h9⟩; have h9' := h9; subst h9'))
    have BB := HB.out
    have D6 := C18 _ _ BB.1 hl
    go_upto_region 13 with (first | (go_at_call 18; refine D6.mono ?_; rintro e' w6 ⟨rfl, t6⟩) | (guard_target =~ wpList _ _ _ ({ dst := _, op := Op.store 33 _ _, .. } :: _) _ _; refine wpList_store_row rfl 33 (.tmp 23) (.tmp 78) rfl w6.heap.size Z0.toArray rfl rfl 33 _ (heap_alloc_new w6 _) hni (by rw [hns]; rfl) hno ?_))
    rw [World.setRow_alloc_new]
    have r6 := Row.new w6 Z0.toArray 33
    have u6 : Turn no y5 (w6.alloc (.cells Z0.toArray 33)) := t6.alloc _
    generalize w6.alloc (.cells Z0.toArray 33) = y6 at *
    generalize w6.heap.size = g6 at *
    have D7 := C17 _ _ (BB.1.turn_no u6) hl
    clear D6 t6
    go_upto_region 14 with (first | (go_at_call 17; refine D7.mono ?_; rintro e' w7 ⟨rfl, t7⟩) | (guard_target =~ wpList _ _ _ ({ dst := _, op := Op.store 31 _ _, .. } :: _) _ _; refine wpList_store_row rfl 31 (.tmp 26) (.tmp 84) rfl w7.heap.size O.toArray rfl rfl 31 _ (heap_alloc_new w7 _) hoi (by rw [hos]; rfl) hoo ?_))
    rw [World.setRow_alloc_new]
    have u7 : Turn no y6 (w7.alloc (.cells O.toArray 31)) := t7.alloc _
    generalize w7.alloc (.cells O.toArray 31) = y7 at *
    generalize w7.heap.size = g7 at *
    have U7 := u6.then_no u7
    have c6 := (r6.turn u7 (fun q => q)).range
    have H6 := shutX c6
    have H7 := shutX (NP _ _ (BB.2.2.2.1.turn U7 (fun q => q)))
    have cD7 := ND _ _ (BB.2.2.2.2.turn U7 (fun q => q))
    have E14 := same14 _ _ _ _ _ (BB.1.turn_no U7) (BB.2.1.turn_no U7)
    rw [hAB] at E14
    have TT := BB.2.2.1.then_no U7
    have HT := shutX TT
    clear D7 t7 u6 u7 r6 c6 U7 BB cD cE TT
    go_upto_region 24 with (first | (go_at_call 13; refine (num13 _ _).mono ?_; rintro e' w9 ⟨rfl, h9⟩; have h9' := h9; subst h9') | (guard_target =~ wpList _ _ _ ({ dst := some 91, .. } :: _) _ _; refine wpList_load_midG (by kernel_rfl) 33 (.tmp 23) rfl g6 0 (by kernel_rfl) Z0 _ (fun j u hu => H6.out j u hu) Try.underlying33 rfl hiT ?_) | (guard_target =~ wpList _ _ _ ({ dst := some 93, .. } :: _) _ _; refine wpList_load_midG (by kernel_rfl) 33 (.tmp 92) rfl gp 76 (by kernel_rfl) Z0 _ (fun j u hu => H7.out.2.2 j u hu) Try.underlying33 rfl hiT ?_) | (guard_target =~ wpList _ _ _ ({ dst := some 94, .. } :: _) _ _; refine wpList_neqG (by kernel_rfl) 33 33 (.tmp 91) (.tmp 93) rfl (.agg Z0.toArray) (.agg Z0.toArray) (by kernel_rfl) (by kernel_rfl) (.bool false) (guard33n _ _ _ _ _) (NEQ _) ?_))
    go_wp2_with (go_at_call 14; refine E14.mono ?_; rintro e' w8 ⟨rfl, n8, rfl⟩)
    go_ret
    refine ⟨by simp, HT.out.drewN n8⟩
end Go.Proofs.Ytpfjllkmaogafaa
