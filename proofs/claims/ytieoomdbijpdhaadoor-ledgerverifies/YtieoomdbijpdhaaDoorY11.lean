/- The walk of LedgerVerifies. -/
import Derived.Test.YtieoomdbijpdhaaDoorY6
import Derived.Test.YtieoomdbijpdhaaDoorY9
import Derived.Test.YtieoomdbijpdhaaDoorY10
import Derived.Test.YtieoomdbijpdhaaDoorLb
import Derived.ChangeKeysEq
namespace Go.Proofs.YtieoomdbijpdhaaDoor
open Go.RowKit
set_option linter.unusedVariables false

theorem fits_top (t : Int) (n : Nat) : fitsB t 9223372036854775807 n = false := by
  unfold fitsB
  rw [decide_eq_false_iff_not]
  rintro ⟨_, h2, _, h4, _⟩
  omega
theorem gp_dg (X R : List UInt8) (a : Nat) (m n : Ac) (q s : Pf) : gpE X R a m n q s = dgE X R a m n q s := by
  have hH : tpE X R q m = 0 → tpH X R q m = pathH q.t q.i q.A (formB m) := fun h => by unfold tpH; rw [if_pos h]
  by_cases hB : q.i = 9223372036854775807
  · have h1 : btB a m n q s = true := by
      unfold btB
      rw [show (q.i == 9223372036854775807) = true by simpa using hB]
      simp
    have h2 : pathE q.t q.i q.A.length 33 = 20 := by
      unfold pathE
      rw [if_neg (by omega), hB, fits_top, if_neg (by decide)]
    have h3 : tpE X R q m = 20 := by
      unfold tpE
      rw [h2, if_neg (by decide)]
    unfold gpE dgE
    rw [h1, if_pos rfl, h3]
    split
    · rfl
    · rw [if_neg (by decide)]
  · have h1 : btB a m n q s = gpB a m n q s := by
      unfold btB gpB
      rw [show (q.i == 9223372036854775807) = false by simpa using hB]
      simp
    unfold gpE dgE
    rw [h1]
    split
    · rfl
    · by_cases h : tpE X R q m = 0
      · rw [if_pos h, if_pos h, hH h]
      · rw [if_neg h, if_neg h]
theorem rver6 (w : World) (hl : Laid0 w) (h2 : 2 ≤ w.heap.size) (X R : List UInt8) (hX : X.length = 32) (hR : R.length = 32) (a : Nat) (va vp : Value) (l : List Ac) (qs : List Pf) (ha : As w va l) (hq : Qs w vp qs) :
    Calls Tryd.prog 6 #[.agg (hb32 X), .int .u64 a, .agg (wtL R va vp).toArray] w fun e w' => e = .returned (.tuple #[.agg (acs (vA X R a l qs).1).toArray, .bool (vA X R a l qs).2.1, .int .i64 (vA X R a l qs).2.2]) ∧ Turn no w w' := by
  have HA := ha
  have HQ := hq
  obtain ⟨a1, ca, rfl, hA⟩ := ha
  obtain ⟨p1, cp, rfl, hQ⟩ := hq
  have nal : l.length ≤ 9223372036854775807 := by have := hA.le; have := hA.cap; simp only [maxLen] at *; omega
  have npl : qs.length ≤ 9223372036854775807 := by have := hQ.le; have := hQ.cap; simp only [maxLen] at *; omega
  by_cases hb : 2 < l.length ∨ qs.length ≠ l.length
  · rw [show vA X R a l qs = (ac0, false, 20) by unfold vA; rw [if_pos hb]]
    exact rver6_bad w X R hX hR a a1 p1 _ ca _ cp hb nal npl
  · have hv : vA X R a l qs = vM X R a l qs := by unfold vA; rw [if_neg hb]
    rw [hv]
    clear hv
    rcases l with _ | ⟨m, _ | ⟨n, _ | ⟨k, l⟩⟩⟩ <;> rcases qs with _ | ⟨q, _ | ⟨s, _ | ⟨r, qs⟩⟩⟩ <;> first | (exfalso; simp at hb; done) | skip
    · exact rver6_none w hl h2 X R hX hR a a1 p1 ca cp
    · exact rver6_one w hl h2 X R hX hR a _ _ m q HA HQ
    · have := rver6_two w hl h2 X R hX hR a _ _ m n q s HA HQ
      rw [← gp_dg] at this
      exact this
theorem eqFields_self (w : World) (d : Nat) (xs : Array Value) : ∀ fs : List Field, (∀ f ∈ fs, ∃ v, (part f.type xs f.offset).run Tryd.prog w = .ok v w ∧ (Op.equalIn d f.type v v).run Tryd.prog w = .ok true w) → (Op.eqFields d xs xs fs).run Tryd.prog w = .ok true w
  | [], _ => by simp [Op.eqFields]
  | f :: fs, h => by
    obtain ⟨v, h1, h2⟩ := h f (by simp)
    have ih := eqFields_self w d xs fs (fun g hg => h g (by simp [hg]))
    simp only [Op.eqFields, Sem.run_bind, Sem.run_ite]
    split
    · simp only [h1, h2, Result.andThen_ok, Bool.not_true, Bool.false_eq_true, if_false]
      exact ih
    · exact ih
theorem cell_part {t : TypeId} (w : World) {xs : Array Value} {o : Nat} {v : Value} (ha : (isAgg t).run Tryd.prog w = .ok false w) (h : xs[o]? = some v) : (part t xs o).run Tryd.prog w = .ok v w := by
  simp [part, ha, h]
theorem fields32 : (Tryd.prog.fieldsOf 32).toList.map (fun f => (f.type, f.offset)) = [(25, 0), (24, 1), (24, 2), (24, 3), (4, 4)] := by kernel_rfl
theorem eq32v (w : World) (m : Ac) : (Op.equalIn 10000 32 (.agg (acs m).toArray) (.agg (acs m).toArray)).run Tryd.prog w = .ok true w := by
  rw [run_equalIn_struct w 9999 32 _ _ (by kernel_rfl) (by kernel_rfl)]
  refine eqFields_self w 9999 _ _ (fun f hf => ?_)
  have hm : (f.type, f.offset) ∈ [(25, 0), (24, 1), (24, 2), (24, 3), (4, 4)] := by
    rw [← fields32]
    exact List.mem_map.2 ⟨f, hf, rfl⟩
  generalize f.type = t at *
  generalize f.offset = o at *
  simp only [List.mem_cons, Prod.mk.injEq, List.not_mem_nil, or_false] at hm
  rcases hm with ⟨rfl, rfl⟩ | ⟨rfl, rfl⟩ | ⟨rfl, rfl⟩ | ⟨rfl, rfl⟩ | ⟨rfl, rfl⟩
  · exact ⟨_, cell_part w (v := .int .u64 m.ad) (by kernel_rfl) (by simp [acs]), by rw [run_equalIn_int w 9998 25 .u64 .u64 _ _ Tryd.underlying25]; simp⟩
  · exact ⟨_, cell_part w (v := .int .u64 m.bal) (by kernel_rfl) (by simp [acs]), by rw [run_equalIn_int w 9998 24 .u64 .u64 _ _ Tryd.underlying24]; simp⟩
  · exact ⟨_, cell_part w (v := .int .u64 m.bond) (by kernel_rfl) (by simp [acs]), by rw [run_equalIn_int w 9998 24 .u64 .u64 _ _ Tryd.underlying24]; simp⟩
  · exact ⟨_, cell_part w (v := .int .u64 m.nonce) (by kernel_rfl) (by simp [acs]), by rw [run_equalIn_int w 9998 24 .u64 .u64 _ _ Tryd.underlying24]; simp⟩
  · exact ⟨_, cell_part w (v := .bool m.jail) (by kernel_rfl) (by simp [acs]), by rw [run_equalIn_bool w 9998 4 _ _ Tryd.underlying4]; simp⟩
set_option maxRecDepth 100000 in
set_option maxHeartbeats 16000000 in
theorem verifies3 (w : World) (l0 : Laid0 w) (l1 : Laid1 w) (h2 : 2 ≤ w.heap.size) (X R : List UInt8) (hX : X.length = 32) (hR : R.length = 32) (a : Nat) (va vp : Value) (l : List Ac) (qs : List Pf) (ha : As w va l) (hq : Qs w vp qs) :
    Calls Tryd.prog 3 #[.agg (hb32 X), .int .u64 a, .agg (wtL R va vp).toArray] w fun e w' => e = .returned (.bool true) ∧ Turn no w w' := by
  have HV : Shut (∀ W, Turn no w W → (Calls Tryd.prog 5 #[.agg (hb32 X), .int .u64 a, .agg (wtL R va vp).toArray] W fun e w' => e = .returned (.tuple #[.agg (acs (vA X R a l qs).1).toArray, .bool (vA X R a l qs).2.1, .int .i64 (vA X R a l qs).2.2]) ∧ Turn no W w') ∧
      (Calls Tryd.prog 6 #[.agg (hb32 X), .int .u64 a, .agg (wtL R va vp).toArray] W fun e w' => e = .returned (.tuple #[.agg (acs (vA X R a l qs).1).toArray, .bool (vA X R a l qs).2.1, .int .i64 (vA X R a l qs).2.2]) ∧ Turn no W w')) := fun W t =>
    ⟨ver5 W (l1.turn t (fun q => q)) (by have := t.size; omega) X R hX hR a va vp l qs (ha.turn_no t) (by obtain ⟨p, c, e, h⟩ := hq; exact ⟨p, c, e, h.turn_no t⟩), rver6 W (l0.turn t (fun q => q)) (by have := t.size; omega) X R hX hR a va vp l qs (ha.turn_no t) (by obtain ⟨p, c, e, h⟩ := hq; exact ⟨p, c, e, h.turn_no t⟩)⟩
  have lW := wtL_len hR va vp
  obtain ⟨w0, hw0⟩ : ∃ w0, (w.alloc (.cells (hb32 X) 23)).alloc (.cells (wtL R va vp).toArray 29) = w0 := ⟨_, rfl⟩
  have T0 : Turn no w w0 := by rw [← hw0]; exact ((Turn.refl no w).alloc _).alloc _
  have RX : Row w0 w.heap.size (hb32 X) 23 := by rw [← hw0]; exact (Row.new w _ 23).alloc _
  have RW : Row w0 (w.heap.size + 1) (wtL R va vp).toArray 29 := by rw [← hw0]; exact Row.newAt _ _ _ _ (by simp)
  have iX := hb32_info hX
  have iW : (Tryd.prog.info? 29).map (·.size) = some (wtL R va vp).toArray.size := by rw [List.size_toArray, lW]; exact size29w
  have iM := acs_info (vA X R a l qs).1
  have oM := acs_one (vA X R a l qs).1
  have sM : AZ.size = (acs (vA X R a l qs).1).toArray.size := rfl
  have HQ : Shut (∀ W, (Op.equalIn 10000 32 (.agg (acs (vA X R a l qs).1).toArray) (.agg (acs (vA X R a l qs).1).toArray)).run Tryd.prog W = .ok true W) := fun W => eq32v W _
  have hz32 := zero32v
  have HT0 := shut T0
  have K4 := alive5 w0
  clear lW hR hX ha hq l0 l1 h2
  generalize (acs (vA X R a l qs).1).toArray = M0 at *
  generalize (vA X R a l qs).2.1 = FF at *
  generalize (vA X R a l qs).2.2 = EE at *
  generalize AZ = AZ0 at *
  generalize hb32 X = XA at *
  generalize (wtL R va vp).toArray = WA at *
  go_enter Tryd.func3, Tryd.ntmps3
  go_upto_region 1 with fail
  try rw [hw0]
  clear hw0
  go_upto_region 4 with (go_at_call 4; refine K4.mono ?_; clear K4; rintro e w1 ⟨rfl, t1⟩)
  have T1 := T0.then_no t1
  have RX1 := Row.turn RX t1 (fun q => q)
  have RW1 := Row.turn RW t1 (fun q => q)
  have K5 := (HV.out w1 T1).1
  clear RX RW T0
  go_upto_region 5 with (first | (guard_target =~ wpList _ _ _ ({ dst := some 18, .. } :: _) _ _; refine wpList_load_row rfl 23 (.tmp 3) rfl w.heap.size rfl 23 XA _ _ RX1 Tryd.underlying23 rfl iX ?_) | (guard_target =~ wpList _ _ _ ({ dst := some 20, .. } :: _) _ _; refine wpList_load_row rfl 29 (.tmp 5) rfl (w.heap.size + 1) rfl 29 WA _ _ RW1 Tryd.underlying29 rfl iW ?_) | (go_at_call 5; refine K5.mono ?_; clear K5; rintro e w2 ⟨rfl, t2⟩) | (guard_target =~ wpList _ _ _ ({ dst := _, op := Op.store 32 _ _, .. } :: _) _ _; refine wpList_store_anyN rfl rfl 32 (.tmp 8) (.tmp 22) rfl w2.heap.size M0 rfl rfl 32 AZ0 (Row.new w2 AZ0 32) iM sM oM ?_; intro w3 R3 t3))
  have T23 : Turn no w1 w3 := t2.trans (((Turn.refl (fun z => z = w2.heap.size) w2).alloc _).trans t3 (fun _ _ q => q)) (fun i hi q => by have q2 : i = w2.heap.size := q; have := t2.size; omega)
  have RX3 := Row.turn RX1 T23 (fun q => q)
  have RW3 := Row.turn RW1 T23 (fun q => q)
  have T3 := T1.then_no T23
  have K6 := (HV.out w3 T3).2
  generalize w2.heap.size = g8 at *
  clear RX1 RW1 T23 t2 t3 T1 t1
  go_upto_region 6 with (first | (guard_target =~ wpList _ _ _ ({ dst := some 26, .. } :: _) _ _; refine wpList_load_row rfl 23 (.tmp 3) rfl w.heap.size rfl 23 XA _ _ RX3 Tryd.underlying23 rfl iX ?_) | (guard_target =~ wpList _ _ _ ({ dst := some 28, .. } :: _) _ _; refine wpList_load_row rfl 29 (.tmp 5) rfl (w.heap.size + 1) rfl 29 WA _ _ RW3 Tryd.underlying29 rfl iW ?_) | (go_at_call 6; refine K6.mono ?_; clear K6; rintro e w4 ⟨rfl, t4⟩) | (guard_target =~ wpList _ _ _ ({ dst := _, op := Op.store 32 _ _, .. } :: _) _ _; refine wpList_store_anyN rfl rfl 32 (.tmp 11) (.tmp 30) rfl w4.heap.size M0 rfl rfl 32 AZ0 (Row.new w4 AZ0 32) iM sM oM ?_; intro w5 R5 t5))
  have T45 : Turn no w3 w5 := t4.trans (((Turn.refl (fun z => z = w4.heap.size) w4).alloc _).trans t5 (fun _ _ q => q)) (fun i hi q => by have q2 : i = w4.heap.size := q; have := t4.size; omega)
  have R8 := Row.turn R3 T45 (fun q => q)
  have T5 := T3.then_no T45
  generalize w4.heap.size = g11 at *
  have HT5 := shut T5
  have hQ := HQ.out
  clear RX3 RW3 T45 T3 t4 t5 R3 T5
  go_wp2_with (first | (guard_target =~ wpList _ _ _ ({ dst := some 33, .. } :: _) _ _; refine wpList_load_row rfl 32 (.tmp 8) rfl g8 rfl 32 M0 _ _ R8 Tryd.underlying32 rfl iM ?_) | (guard_target =~ wpList _ _ _ ({ dst := some 34, .. } :: _) _ _; refine wpList_load_row rfl 32 (.tmp 11) rfl g11 rfl 32 M0 _ _ R5 Tryd.underlying32 rfl iM ?_))
  go_ret
  exact ⟨rfl, HT5.out⟩
end Go.Proofs.YtieoomdbijpdhaaDoor
