/- Lists; the walk of DigestLists. -/
import Derived.Test.YtnibmkenbidnfabDoorK3
namespace Go.Proofs.YtnibmkenbidnfabDoor
open Go.RowKit
set_option linter.unusedVariables false

theorem numE_inj {n m : Nat} (hn : n ≤ 65536) (hm : m ≤ 65536) (h : numE n = numE m) : n = m := by
  have at' : ∀ k, k < 8 → numAt n k = numAt m k := fun k hk => by
    have := congrArg (·[k]?) h
    simpa [numE, hk] using this
  have v : ∀ k, k < 8 → ((n : Int) / 2 ^ (8 * k)) % 256 = ((m : Int) / 2 ^ (8 * k)) % 256 := fun k hk => by
    have := congrArg (fun b => ((UInt8.toNat b : Nat) : Int)) (at' k hk)
    simp only [numAt, byteOf_val] at this
    exact this
  have v0 := v 0 (by omega)
  have v1 := v 1 (by omega)
  have v2 := v 2 (by omega)
  simp at v0 v1 v2
  omega
theorem rootT_inj {l m : Its} (hl : okL l) (hm : okL m) (h : rootT l = rootT m) : l.length = m.length ∧ topH (txs l) = topH (txs m) := by
  unfold rootT at h
  simp only [List.cons.injEq, true_and] at h
  obtain ⟨h1, h2⟩ := List.append_inj h (by rw [numE_len, numE_len])
  exact ⟨numE_inj hl.1 hm.1 h1, h2⟩
theorem rootT_len (l : Its) : (rootT l).length = 41 := by simp [rootT, numE_len, topH_len]
theorem clB_root {A B : List UInt8} (hne : (A == B) = false) (h : hashOf A = hashOf B) : clB A B = true := by
  unfold clB
  rw [hne, h]
  simp
theorem halves_all (w : World) (l m : Its) (a b : Option Addr) (ca cb : Nat) (hA : BlAt w a ca l) (hB : BlAt w b cb m) (hol : okL l) (hom : okL m) (hn : l.length = m.length) (ht : topH (txs l) = topH (txs m)) (hl : Laid0 w) (h2 : 2 ≤ w.heap.size) : Calls Tryd.prog 27 #[.slice a l.length ca, .slice b m.length cb] w fun e w' => Sc w e w' := by
  by_cases h0 : l.length = 0
  · rw [← hn, h0]
    exact halves_none w a b ca cb
  · rcases hA.pcs with q | ⟨b1, o1, rfl, p⟩
    · rw [q] at h0; simp at h0
    · rcases hB.pcs with q | ⟨b2, o2, rfl, p2⟩
      · rw [hn, q] at h0; simp at h0
      · have := halves27 l.length l m b1 o1 ca b2 o2 cb w rfl hn.symm p p2 hA.le (by rw [hn]; exact hB.le) hA.cap hB.cap (by omega) hol hom ht hl h2
        rw [← hn]
        exact this
set_option maxRecDepth 100000 in
set_option maxHeartbeats 8000000 in
theorem lists9 (w : World) (l m : Its) (a b : Option Addr) (ca cb : Nat) (hA : BlAt w a ca l) (hB : BlAt w b cb m) (hol : okL l) (hom : okL m) (hh : hashOf (rootT l) = hashOf (rootT m)) (hl : Laid0 w) (h2 : 2 ≤ w.heap.size) : Calls Tryd.prog 9 #[.slice a l.length ca, .slice b m.length cb] w fun e w' => Sc w e w' := by
  have t1 := rtop_all hA hol hl h2
  have T2 : Shut (∀ W, Turn no w W → Calls Tryd.prog 23 #[.slice b m.length cb] W fun e w' => e = .returned (.agg (hb32 (topH (txs m)))) ∧ Turn no W w') := fun W T => rtop_all (hB.turn_no T) hom (hl.turn T (fun q => q)) (by have := T.size; omega)
  have X1 : Shut (∀ W, Turn no w W → Calls Tryd.prog 25 #[.int .i64 l.length, .agg (hb32 (topH (txs l)))] W fun e w' => ∃ v, e = .returned v ∧ Bs w' v (rootT l) ∧ Turn no W w') := fun W T => (rootText_any W l.length hol.1 (topH (txs l)) (topH_len _)).mono (fun e w' ⟨v, e1, o, t⟩ => ⟨v, e1, o.bs, t⟩)
  have X2 : Shut (∀ W, Turn no w W → Calls Tryd.prog 25 #[.int .i64 m.length, .agg (hb32 (topH (txs m)))] W fun e w' => ∃ v, e = .returned v ∧ Bs w' v (rootT m) ∧ Turn no W w') := fun W T => (rootText_any W m.length hom.1 (topH (txs m)) (topH_len _)).mono (fun e w' ⟨v, e1, o, t⟩ => ⟨v, e1, o.bs, t⟩)
  have CL : Shut (∀ W, Turn no w W → ∀ z z', Bs W z (rootT l) → Bs W z' (rootT m) → Calls Tryd.prog 26 #[z, z'] W fun e w' => e = .returned (.bool (clB (rootT l) (rootT m))) ∧ Turn no W w') := fun W T z z' q1 q2 => clash26 W z z' _ _ q1 q2 (by rw [rootT_len]; omega) (by rw [rootT_len]; omega) (hl.turn T (fun q => q)) (by have := T.size; omega)
  have HV : Shut ((rootT l == rootT m) = true → ∀ W, Turn no w W → Calls Tryd.prog 27 #[.slice a l.length ca, .slice b m.length cb] W fun e w' => Sc W e w') := fun q W T => by
    obtain ⟨e1, e2⟩ := rootT_inj hol hom (by simpa using q)
    exact halves_all W l m a b ca cb (hA.turn_no T) (hB.turn_no T) hol hom e1 e2 (hl.turn T (fun q => q)) (by have := T.size; omega)
  have hq : Shut (((⟨(rootT l).toArray⟩ : ByteArray).toList == (⟨(rootT m).toArray⟩ : ByteArray).toList) = (rootT l == rootT m)) := by show _ = _; rw [text_list, text_list]
  have hcl : Shut ((rootT l == rootT m) = false → clB (rootT l) (rootT m) = true) := fun q => clB_root q hh
  have HX : Shut (∀ W v, Bs W v (rootT l) → (convert 35 9 v).run Tryd.prog W = .ok (.string ⟨(rootT l).toArray⟩) W) := fun W v q => bytes_text q
  have HY : Shut (∀ W v, Bs W v (rootT m) → (convert 35 9 v).run Tryd.prog W = .ok (.string ⟨(rootT m).toArray⟩) W) := fun W v q => bytes_text q
  clear hA hB hol hom hh hl
  generalize clB (rootT l) (rootT m) = cl at *
  generalize (⟨(rootT l).toArray⟩ : ByteArray) = tx at *
  generalize (⟨(rootT m).toArray⟩ : ByteArray) = ty at *
  generalize (rootT l == rootT m) = q1 at *
  generalize rootT l = TX at *
  generalize rootT m = TY at *
  generalize hb32 (topH (txs l)) = HL at *
  generalize hb32 (topH (txs m)) = HM at *
  generalize l.length = n at *
  generalize m.length = p at *
  go_enter Tryd.func9, Tryd.ntmps9
  go_upto_region 2 with (first | (go_at_call 23; refine t1.mono ?_; clear t1; rintro e w1 ⟨rfl, s1⟩; have x1 := X1.out w1 s1) | (go_at_call 25; refine x1.mono ?_; clear x1; rintro e w2 ⟨z6, rfl, b6, s2⟩))
  have S2 := s1.then_no s2
  have t2 := T2.out w2 S2
  go_upto_region 3 with (first | (go_at_call 23; refine t2.mono ?_; clear t2; rintro e w3 ⟨rfl, s3⟩; have x2 := X2.out w3 (S2.then_no s3)) | (go_at_call 25; refine x2.mono ?_; clear x2; rintro e w4 ⟨z7, rfl, b7, s4⟩))
  have S4 := (S2.then_no s3).then_no s4
  have b6 := (b6.turn_no s3).turn_no s4
  have c6 := HX.out w4 z6 b6
  have c7 := HY.out w4 z7 b7
  have hqq := hq.out
  clear s1 s2 s3 s4 S2 T2 X1 X2
  cases q1 with
  | false =>
    have hc1 := shut (hcl.out rfl)
    have k1 := CL.out w4 S4 z6 z7 b6 b7
    go_wp2_with (go_at_call 26; refine k1.mono ?_; clear k1; rintro e w5 ⟨rfl, s5⟩)
    go_ret2
    exact Sc.mk false cl rfl (by rw [hc1.out]; rfl) (S4.then_no s5)
  | true =>
    have k1 := HV.out rfl w4 S4
    go_wp2_with (go_at_call 27; refine k1.mono ?_; clear k1; rintro e w5 h5; obtain ⟨s, c, rfl, hsc, s5⟩ := h5; have HSC := shut hsc; clear hsc)
    go_ret2
    exact Sc.mk s c rfl HSC.out (S4.then_no s5)
theorem rootE_zero {l : Its} (h : rootE l = 0) : okL l ∧ rootH l = hashOf (rootT l) := by
  have hb : bigOf (txs l) = false := by
    cases hq : bigOf (txs l) with
    | false => rfl
    | true =>
      unfold rootE at h
      rw [if_pos hq] at h
      cases h
  exact ⟨(big_of l).1 hb, if_neg (by rw [hb]; decide)⟩
set_option maxRecDepth 100000 in
set_option maxHeartbeats 16000000 in
theorem lists3 (w : World) (l m : Its) (a b : Option Addr) (ca cb : Nat) (hA : BlAt w a ca l) (hB : BlAt w b cb m) (hl0 : Laid0 w) (hl1 : Laid1 w) : Calls Tryd.prog 3 #[.slice a l.length ca, .slice b m.length cb] w fun e w' => e = .returned (.bool true) ∧ Turn no w w' := by
  have h2 : 2 ≤ w.heap.size := World.block_lt_of_cell? w _ (hl1 0 (by omega))
  have hal := alive_any w hl1 h2
  have R1 : Shut (∀ W, Turn no w W → Calls Tryd.prog 7 #[.slice a l.length ca] W fun e w' => e = .returned (.tuple #[.agg (hb32 (rootH l)), .int .i64 (rootE l)]) ∧ Turn no W w') := fun W T => root7 W a ca l (hA.turn_no T) (hl1.turn T (fun q => q)) (by have := T.size; omega)
  have R2 : Shut (∀ W, Turn no w W → Calls Tryd.prog 7 #[.slice b m.length cb] W fun e w' => e = .returned (.tuple #[.agg (hb32 (rootH m)), .int .i64 (rootE m)]) ∧ Turn no W w') := fun W T => root7 W b cb m (hB.turn_no T) (hl1.turn T (fun q => q)) (by have := T.size; omega)
  have Q1 : Shut (∀ W, Turn no w W → Calls Tryd.prog 8 #[.slice a l.length ca] W fun e w' => e = .returned (.tuple #[.agg (hb32 (rootH l)), .int .i64 (rootE l)]) ∧ Turn no W w') := fun W T => root8 W a ca l (hA.turn_no T) (hl0.turn T (fun q => q)) (by have := T.size; omega)
  have Q2 : Shut (∀ W, Turn no w W → Calls Tryd.prog 8 #[.slice b m.length cb] W fun e w' => e = .returned (.tuple #[.agg (hb32 (rootH m)), .int .i64 (rootE m)]) ∧ Turn no W w') := fun W T => root8 W b cb m (hB.turn_no T) (hl0.turn T (fun q => q)) (by have := T.size; omega)
  have LI : Shut (rootE l = 0 → rootE m = 0 → (rootH l == rootH m) = true → ∀ W, Turn no w W → Calls Tryd.prog 9 #[.slice a l.length ca, .slice b m.length cb] W fun e w' => Sc W e w') := fun e1 e2 q W T => by
    obtain ⟨o1, k1⟩ := rootE_zero e1
    obtain ⟨o2, k2⟩ := rootE_zero e2
    have hh : hashOf (rootT l) = hashOf (rootT m) := by rw [← k1, ← k2]; simpa using q
    exact lists9 W l m a b ca cb (hA.turn_no T) (hB.turn_no T) o1 o2 hh (hl0.turn T (fun q => q)) (by have := T.size; omega)
  have l1 := rootH_len l
  have l2 := rootH_len m
  have HE : Shut (∀ W, (Op.equalIn 10000 25 (.agg (hb32 (rootH l))) (.agg (hb32 (rootH m)))).run Tryd.prog W = .ok (rootH l == rootH m) W) := fun W => eqIn35 W _ _ l1 l2
  have s1 := hb32_size l1
  have o1 := hb32_one (rootH l)
  have i1 := hb32_info l1
  have s2 := hb32_size l2
  have o2 := hb32_one (rootH m)
  have i2 := hb32_info l2
  have hZ := hb32_size z32_len
  have hzv := zero35v
  clear hA hB hl0 hl1 l1 l2
  generalize (rootH l == rootH m) = q3 at *
  generalize hb32 (rootH l) = HL at *
  generalize hb32 (rootH m) = HM at *
  generalize rootE l = el at *
  generalize rootE m = em at *
  generalize hb32 z32 = Z at *
  generalize l.length = n at *
  generalize m.length = p at *
  go_enter Tryd.func3, Tryd.ntmps3
  go_upto_region 4 with (go_at_call 6; refine hal.mono ?_; clear hal; rintro e w1 ⟨rfl, t1⟩)
  have r1 := R1.out w1 t1
  go_upto_region 5 with (first | (go_at_call 7; refine r1.mono ?_; clear r1; rintro e w2 ⟨rfl, t2⟩) | (guard_target =~ wpList _ _ _ ({ dst := _, op := Op.store 25 _ _, .. } :: _) _ _; refine wpList_store_anyN rfl rfl 25 (.tmp 6) (.tmp 22) rfl _ HL rfl rfl 25 Z (Row.new _ Z 25) i1 (by rw [hZ, s1]) o1 ?_; intro w3 RL t3))
  have T23 : Turn (fun q => q = w2.heap.size) w2 w3 := ((Turn.refl no w2).alloc _).of_no.trans t3 (fun _ _ e => e)
  have t12 := t1.then_no t2
  have T3 := t12.trans T23 (fun i hi e => by have := t12.size; omega)
  have r2 := R2.out w3 T3
  clear T23 t12 t1 t2 t3
  generalize w2.heap.size = g6 at *
  go_upto_region 6 with (first | (go_at_call 7; refine r2.mono ?_; clear r2; rintro e w4 ⟨rfl, t4⟩) | (guard_target =~ wpList _ _ _ ({ dst := _, op := Op.store 25 _ _, .. } :: _) _ _; refine wpList_store_anyN rfl rfl 25 (.tmp 8) (.tmp 27) rfl _ HM rfl rfl 25 Z (Row.new _ Z 25) i2 (by rw [hZ, s2]) o2 ?_; intro w5 RM t5))
  have T45 : Turn (fun q => q = w4.heap.size) w4 w5 := ((Turn.refl no w4).alloc _).of_no.trans t5 (fun _ _ e => e)
  have T35 := t4.trans T45 (fun i hi e => by have := t4.size; omega)
  have RL5 := Row.turn RL T35 (fun q => q)
  have T5 := T3.then_no T35
  clear T45 T35 t4 t5 RL T3
  generalize w4.heap.size = g8 at *
  have rL := Row.rng RL5
  have rM := Row.rng RM
  have jL : (Tryd.prog.info? 25).map (·.size) = some HL.toList.length := by rw [Array.length_toList]; exact i1
  have jM : (Tryd.prog.info? 25).map (·.size) = some HM.toList.length := by rw [Array.length_toList]; exact i2
  have he := HE.out
  have k1 : (el == el) = true := by simp
  have k2 : (em == em) = true := by simp
  have q1 := Q1.out w5 T5
  by_cases hel : el = 0
  · by_cases hem : em = 0
    · have n1 : (el != 0) = false := by simpa using hel
      have n2 : (em != 0) = false := by simpa using hem
      cases q3 with
      | true =>
        have li := LI.out hel hem rfl w5 T5
        clear hel hem hzv
        go_upto_region 11 with (first | (guard_target =~ wpList _ _ _ ({ dst := some 36, op := Op.load 25 _, .. } :: _) _ _; refine wpList_load_midG (by kernel_rfl) 25 (.tmp 6) rfl g6 0 rfl HL.toList _ rL Tryd.underlying25 rfl jL ?_) | (guard_target =~ wpList _ _ _ ({ dst := some 37, op := Op.load 25 _, .. } :: _) _ _; refine wpList_load_midG (by kernel_rfl) 25 (.tmp 8) rfl g8 0 rfl HM.toList _ rM Tryd.underlying25 rfl jM ?_) | (go_at_call 9; refine li.mono ?_; clear li; rintro e w6 h6; obtain ⟨s, c, rfl, hsc, t6⟩ := h6))
        cases s with
        | true =>
          clear hsc
          go_wp2_with fail
          go_ret
          exact ⟨rfl, T5.then_no t6⟩
        | false =>
          have hc : c = true := by simpa using hsc
          subst hc
          clear hsc
          go_wp2_with fail
          go_ret
          exact ⟨rfl, T5.then_no t6⟩
      | false =>
        clear hel hem
        go_upto_region 8 with (first | (guard_target =~ wpList _ _ _ ({ dst := some 36, op := Op.load 25 _, .. } :: _) _ _; refine wpList_load_midG (by kernel_rfl) 25 (.tmp 6) rfl g6 0 rfl HL.toList _ rL Tryd.underlying25 rfl jL ?_) | (guard_target =~ wpList _ _ _ ({ dst := some 37, op := Op.load 25 _, .. } :: _) _ _; refine wpList_load_midG (by kernel_rfl) 25 (.tmp 8) rfl g8 0 rfl HM.toList _ rM Tryd.underlying25 rfl jM ?_) | (go_at_call 8; refine q1.mono ?_; clear q1; rintro e w6 ⟨rfl, t6⟩) | (guard_target =~ wpList _ _ _ ({ dst := _, op := Op.store 25 _ _, .. } :: _) _ _; refine wpList_store_anyN rfl rfl 25 (.tmp 10) (.tmp 43) rfl _ HL rfl rfl 25 Z (Row.new _ Z 25) i1 (by rw [hZ, s1]) o1 ?_; intro w7 R7 t7))
        have T67 : Turn (fun q => q = w6.heap.size) w6 w7 := ((Turn.refl no w6).alloc _).of_no.trans t7 (fun _ _ e => e)
        have T57 := t6.trans T67 (fun i hi e => by have := t6.size; omega)
        have T7 := T5.then_no T57
        have q2 := Q2.out w7 T7
        clear T67 T57 t6 t7 R7
        go_wp2_with (first | (go_at_call 8; refine q2.mono ?_; clear q2; rintro e w8 ⟨rfl, t8⟩) | (guard_target =~ wpList _ _ _ ({ dst := _, op := Op.store 25 _ _, .. } :: _) _ _; refine wpList_store_anyN rfl rfl 25 (.tmp 12) (.tmp 48) rfl _ HM rfl rfl 25 Z (Row.new _ Z 25) i2 (by rw [hZ, s2]) o2 ?_; intro w9 R9 t9))
        have T89 : Turn (fun q => q = w8.heap.size) w8 w9 := ((Turn.refl no w8).alloc _).of_no.trans t9 (fun _ _ e => e)
        have T79 := t8.trans T89 (fun i hi e => by have := t8.size; omega)
        go_ret
        exact ⟨rfl, T7.then_no T79⟩
    · have n1 : (el != 0) = false := by simpa using hel
      have n2 : (em != 0) = true := by simpa using hem
      clear hel hem
      go_upto_region 8 with (first | (go_at_call 8; refine q1.mono ?_; clear q1; rintro e w6 ⟨rfl, t6⟩) | (guard_target =~ wpList _ _ _ ({ dst := _, op := Op.store 25 _ _, .. } :: _) _ _; refine wpList_store_anyN rfl rfl 25 (.tmp 10) (.tmp 43) rfl _ HL rfl rfl 25 Z (Row.new _ Z 25) i1 (by rw [hZ, s1]) o1 ?_; intro w7 R7 t7))
      have T67 : Turn (fun q => q = w6.heap.size) w6 w7 := ((Turn.refl no w6).alloc _).of_no.trans t7 (fun _ _ e => e)
      have T57 := t6.trans T67 (fun i hi e => by have := t6.size; omega)
      have T7 := T5.then_no T57
      have q2 := Q2.out w7 T7
      clear T67 T57 t6 t7 R7
      go_wp2_with (first | (go_at_call 8; refine q2.mono ?_; clear q2; rintro e w8 ⟨rfl, t8⟩) | (guard_target =~ wpList _ _ _ ({ dst := _, op := Op.store 25 _ _, .. } :: _) _ _; refine wpList_store_anyN rfl rfl 25 (.tmp 12) (.tmp 48) rfl _ HM rfl rfl 25 Z (Row.new _ Z 25) i2 (by rw [hZ, s2]) o2 ?_; intro w9 R9 t9))
      have T89 : Turn (fun q => q = w8.heap.size) w8 w9 := ((Turn.refl no w8).alloc _).of_no.trans t9 (fun _ _ e => e)
      have T79 := t8.trans T89 (fun i hi e => by have := t8.size; omega)
      go_ret
      exact ⟨rfl, T7.then_no T79⟩
  · have n1 : (el != 0) = true := by simpa using hel
    clear hel
    go_upto_region 8 with (first | (go_at_call 8; refine q1.mono ?_; clear q1; rintro e w6 ⟨rfl, t6⟩) | (guard_target =~ wpList _ _ _ ({ dst := _, op := Op.store 25 _ _, .. } :: _) _ _; refine wpList_store_anyN rfl rfl 25 (.tmp 10) (.tmp 43) rfl _ HL rfl rfl 25 Z (Row.new _ Z 25) i1 (by rw [hZ, s1]) o1 ?_; intro w7 R7 t7))
    have T67 : Turn (fun q => q = w6.heap.size) w6 w7 := ((Turn.refl no w6).alloc _).of_no.trans t7 (fun _ _ e => e)
    have T57 := t6.trans T67 (fun i hi e => by have := t6.size; omega)
    have T7 := T5.then_no T57
    have q2 := Q2.out w7 T7
    clear T67 T57 t6 t7 R7
    go_wp2_with (first | (go_at_call 8; refine q2.mono ?_; clear q2; rintro e w8 ⟨rfl, t8⟩) | (guard_target =~ wpList _ _ _ ({ dst := _, op := Op.store 25 _ _, .. } :: _) _ _; refine wpList_store_anyN rfl rfl 25 (.tmp 12) (.tmp 48) rfl _ HM rfl rfl 25 Z (Row.new _ Z 25) i2 (by rw [hZ, s2]) o2 ?_; intro w9 R9 t9))
    have T89 : Turn (fun q => q = w8.heap.size) w8 w9 := ((Turn.refl no w8).alloc _).of_no.trans t9 (fun _ _ e => e)
    have T79 := t8.trans T89 (fun i hi e => by have := t8.size; omega)
    go_ret
    exact ⟨rfl, T7.then_no T79⟩
end Go.Proofs.YtnibmkenbidnfabDoor
