/- The walk of CouncilDigests. -/
import Derived.Test.YtgjhhmdpepdepaaDoorN3
import Derived.Test.YtgjhhmdpepdepaaDoorCD4
namespace Go.Proofs.YtgjhhmdpepdepaaDoor
open Go.RowKit
set_option linter.unusedVariables false

theorem zeroed_it (l : List Mb) : (zeroed l).map itB = l.map itB := by
  unfold zeroed
  rw [List.map_map]
  rfl
theorem zeroed_dg {l : List Mb} (h : soundE l = 0) : dgH (zeroed l) = dgH l ∧ soundE (zeroed l) = 0 := by
  have hw := (sound_small h).2
  have hz : soundE (zeroed l) = 0 := by rw [zeroed_sound, hw]
  refine ⟨?_, hz⟩
  unfold dgH
  rw [if_pos hz, if_pos h, zeroed_it]
set_option maxRecDepth 100000 in
set_option maxHeartbeats 16000000 in
theorem digests3 (w : World) (v : Value) (l : List Mb) (h : Ms w v l) (hl0 : Laid0 w) (hl1 : Laid1 w) : Calls Tryd.prog 3 #[.agg #[v]] w fun e w' => e = .returned (.bool true) ∧ Turn no w w' := by
  have h2 : 2 ≤ w.heap.size := World.block_lt_of_cell? w _ (hl1 0 (by omega))
  obtain ⟨w0, hw0⟩ : ∃ w0, w.alloc (.cells #[v] 24) = w0 := ⟨_, rfl⟩
  have T0 : Turn no w w0 := by rw [← hw0]; exact (Turn.refl no w).alloc _
  have RB : Row w0 w.heap.size #[v] 24 := by rw [← hw0]; exact Row.new w _ 24
  have hal := alive9 w0
  have D5 : Shut (∀ W u m, Turn no w W → Ms W u m → Calls Tryd.prog 5 #[.agg #[u]] W fun e w' => e = .returned (.tuple #[.agg (hb32 (dgH m)), .int .i64 (soundE m)]) ∧ Turn no W w') := fun W u m t q => digest5 W u m q (hl1.turn t (fun q => q)) (by have := t.size; omega)
  have D5a : Shut (∀ W, Turn no w W → Calls Tryd.prog 5 #[.agg #[v]] W fun e w' => e = .returned (.tuple #[.agg (hb32 (dgH l)), .int .i64 (soundE l)]) ∧ Turn no W w') := fun W t => D5.out W v l t (h.turn_no t)
  have D6 : Shut (∀ W, Turn no w W → Calls Tryd.prog 6 #[.agg #[v]] W fun e w' => e = .returned (.tuple #[.agg (hb32 (dgH l)), .int .i64 (soundE l)]) ∧ Turn no W w') := fun W t => rdigest6 W v l (h.turn_no t) (hl0.turn t (fun q => q)) (by have := t.size; omega)
  have N7 : Shut (soundE l = 0 → ∀ W, Turn no w W → Calls Tryd.prog 7 #[v] W fun e w' => ∃ ua un uc, e = .returned (.tuple #[.agg #[.slice ua un uc], .int .i64 0]) ∧ Ms w' (.slice ua un uc) (zeroed l) ∧ Turn no W w') := fun e W t => (new15_yes W v l (h.turn_no t) (sound_small e).2).mono (fun _ _ ⟨u, q1, q2, q3⟩ => by
    obtain ⟨a, cap, eu, M⟩ := q2.ms
    subst eu
    exact ⟨_, _, _, q1, ⟨_, _, rfl, M⟩, q3⟩)
  have OU : Shut (∀ (a : Option Addr) (n c : Nat), (#[Value.slice a n c].all (·.oneCell')) = true) := fun a n c => by simp [Value.oneCell']
  have D5b : Shut (soundE l = 0 → ∀ W u, Turn no w W → Ms W u (zeroed l) → Calls Tryd.prog 5 #[.agg #[u]] W fun e w' => e = .returned (.tuple #[.agg (hb32 (dgH l)), .int .i64 0]) ∧ Turn no W w') := fun e W u t q => by
    have := D5.out W u (zeroed l) t q
    rwa [(zeroed_dg e).1, (zeroed_dg e).2] at this
  have ld := dgH_len l
  have HE : Shut (∀ W, (Op.equalIn 10000 27 (.agg (hb32 (dgH l))) (.agg (hb32 (dgH l)))).run Tryd.prog W = .ok true W) := fun W => by
    rw [show hb32 (dgH l) = ((dgH l).map bv).toArray from rfl, eqIn35 W _ _ ld ld]
    simp
  have sD := hb32_size ld
  have oD := hb32_one (dgH l)
  have iD := hb32_info ld
  have hZ := hb32_size z32_len
  have hzv := zero35v
  obtain ⟨va, vn, vc, hv⟩ : ∃ a n c, v = .slice a n c := by obtain ⟨a, cap, e, _⟩ := h; exact ⟨_, _, _, e⟩
  have HB : Shut (∀ W, Turn no w0 W → W.rangeAt w.heap.size 0 [v] ∧ W.cell? ⟨w.heap.size, 0, none⟩ = some v) := fun W t => ⟨Row.rng (Row.turn RB t (fun q => q)), (Row.turn RB t (fun q => q)).cell 0 _ rfl⟩
  clear D5 h hl0 hl1 h2 ld RB
  subst hv
  generalize hb32 (dgH l) = D at *
  generalize hb32 z32 = Z at *
  generalize soundE l = se at *
  have e1 : (se != se) = false := by simp
  have jD : (Tryd.prog.info? 27).map (·.size) = some D.toList.length := by rw [Array.length_toList]; exact iD
  go_enter Tryd.func3, Tryd.ntmps3
  go_upto_region 1 with fail
  try rw [hw0]
  clear hw0
  go_upto_region 4 with (go_at_call 4; refine hal.mono ?_; clear hal; rintro e w1 ⟨rfl, t1⟩)
  obtain ⟨r1, _⟩ := HB.out w1 t1
  have k5 := D5a.out w1 (T0.then_no t1)
  go_upto_region 5 with (first | (guard_target =~ wpList _ _ _ ({ dst := _, op := Op.load 24 _, .. } :: _) _ _; refine wpList_load_midG (by kernel_rfl) 24 (.tmp 1) rfl w.heap.size 0 rfl [.slice va vn vc] _ r1 Tryd.underlying24 rfl sizeC ?_) | (go_at_call 5; refine k5.mono ?_; clear k5; rintro e w2 ⟨rfl, t2⟩) | (guard_target =~ wpList _ _ _ ({ dst := _, op := Op.store 27 _ _, .. } :: _) _ _; refine wpList_store_anyN rfl rfl 27 (.tmp 4) (.tmp 15) rfl _ D rfl rfl 27 Z (Row.new _ Z 27) iD (by rw [hZ, sD]) oD ?_; intro w3 RH t3))
  have u3 : Turn (fun q => q = w2.heap.size) w2 w3 := ((Turn.refl no w2).alloc _).of_no.trans t3 (fun _ _ e => e)
  have t13 := t2.trans u3 (fun i hi e => by have := t2.size; omega)
  have t03 := t1.then_no t13
  obtain ⟨r3, _⟩ := HB.out w3 t03
  have k6 := D6.out w3 (T0.then_no t03)
  have hg4 : Shut (w.heap.size ≤ w2.heap.size) := by have := T0.size; have := t1.size; have := t2.size; show _ ≤ _; omega
  clear u3 t3 t2 t13 r1
  generalize w2.heap.size = g4 at *
  go_upto_region 6 with (first | (guard_target =~ wpList _ _ _ ({ dst := _, op := Op.load 24 _, .. } :: _) _ _; refine wpList_load_midG (by kernel_rfl) 24 (.tmp 1) rfl w.heap.size 0 rfl [.slice va vn vc] _ r3 Tryd.underlying24 rfl sizeC ?_) | (go_at_call 6; refine k6.mono ?_; clear k6; rintro e w4 ⟨rfl, t4⟩) | (guard_target =~ wpList _ _ _ ({ dst := _, op := Op.store 27 _ _, .. } :: _) _ _; refine wpList_store_anyN rfl rfl 27 (.tmp 6) (.tmp 20) rfl _ D rfl rfl 27 Z (Row.new _ Z 27) iD (by rw [hZ, sD]) oD ?_; intro w5 RG t5))
  have u5 : Turn (fun q => q = w4.heap.size) w4 w5 := ((Turn.refl no w4).alloc _).of_no.trans t5 (fun _ _ e => e)
  have t35 := t4.trans u5 (fun i hi e => by have := t4.size; omega)
  have t05 := t03.then_no t35
  have RH5 := Row.turn RH t35 (fun q => q)
  have hg46 : Shut (g4 ≠ w4.heap.size) := fun e => by have := RH.lt; have := t4.size; omega
  clear u5 t5 t4 t35 r3 t03 RH
  generalize w4.heap.size = g6 at *
  have rH := Row.rng RH5
  have rG := Row.rng RG
  have he := HE.out
  by_cases hse : se = 0
  · have n1 : (se != 0) = false := by simpa using hse
    have k7 := N7.out hse w5 (T0.then_no t05)
    have H5b := shut (D5b.out hse)
    have c0 := (HB.out w5 t05).2
    clear N7 D5b
    subst hse
    go_upto_region 10 with (first | (guard_target =~ wpList _ _ _ ({ dst := some 22, op := Op.load 27 _, .. } :: _) _ _; refine wpList_load_midG (by kernel_rfl) 27 (.tmp 4) rfl g4 0 rfl D.toList _ rH Tryd.underlying27 rfl jD ?_) | (guard_target =~ wpList _ _ _ ({ dst := some 23, op := Op.load 27 _, .. } :: _) _ _; refine wpList_load_midG (by kernel_rfl) 27 (.tmp 6) rfl g6 0 rfl D.toList _ rG Tryd.underlying27 rfl jD ?_))
    go_upto_region 11 with (first | (go_at_call 7; refine k7.mono ?_; clear k7; rintro e w6 ⟨ua, un, uc, rfl, M6, t6⟩) | (guard_target =~ wpList _ _ _ ({ dst := _, op := Op.store 24 _ _, .. } :: _) _ _; refine wpList_store_anyN rfl rfl 24 (.tmp 8) (.tmp 36) rfl _ #[.slice ua un uc] rfl rfl 24 #[.slice none 0 0] (Row.new _ _ 24) sizeC rfl (OU.out ua un uc) ?_; intro w7 RD t7))
    have u7 : Turn (fun q => q = w6.heap.size) w6 w7 := ((Turn.refl no w6).alloc _).of_no.trans t7 (fun _ _ e => e)
    have t67 : Turn no w6 w7 := u7.mono (fun i hi e => by omega)
    have t57 := t6.then_no t67
    have t07 := t05.then_no t57
    have RH7 := Row.turn RH5 t57 (fun q => q)
    have RG7 := Row.turn RG t57 (fun q => q)
    have k5' := H5b.out w7 (.slice ua un uc) (T0.then_no t07) (M6.turn_no t67)
    have rD := Row.rng RD
    clear u7 t7 t6 t57 t67 M6 rH rG RH5 RG c0 t05 H5b
    generalize w6.heap.size = g8 at *
    go_upto_region 14 with (first | (guard_target =~ wpList _ _ _ ({ dst := some 41, op := Op.load 24 _, .. } :: _) _ _; refine wpList_load_midG (by kernel_rfl) 24 (.tmp 8) rfl g8 0 rfl [.slice ua un uc] _ rD Tryd.underlying24 rfl sizeC ?_) | (go_at_call 5; refine k5'.mono ?_; clear k5'; rintro e w8 ⟨rfl, t8⟩; have RH8 := Row.turn RH7 t8 (fun q => q); have RG8 := Row.turn RG7 t8 (fun q => q)) | (guard_target =~ wpList _ _ _ ({ dst := _, op := Op.store 27 _ _, .. } :: _) _ _; refine wpList_store_anyN rfl rfl 27 (.tmp 4) (.tmp 43) rfl g4 D rfl rfl 27 D RH8 iD rfl oD ?_; intro w9 RH9 t9))
    have RG9 := Row.turn RG8 t9 (fun e => hg46.out e.symm)
    have rH := Row.rng RH9
    have rG := Row.rng RG9
    have TF : Turn no w w9 := by
      refine (T0.then_no (t07.then_no t8)).trans t9 (fun i hi e => ?_)
      have e' : i = g4 := e
      have := hg4.out
      omega
    go_wp2_with (first | (guard_target =~ wpList _ _ _ ({ dst := some 48, op := Op.load 27 _, .. } :: _) _ _; refine wpList_load_midG (by kernel_rfl) 27 (.tmp 4) rfl g4 0 rfl D.toList _ rH Tryd.underlying27 rfl jD ?_) | (guard_target =~ wpList _ _ _ ({ dst := some 49, op := Op.load 27 _, .. } :: _) _ _; refine wpList_load_midG (by kernel_rfl) 27 (.tmp 6) rfl g6 0 rfl D.toList _ rG Tryd.underlying27 rfl jD ?_))
    go_ret
    exact ⟨rfl, TF⟩
  · have n1 : (se != 0) = true := by simpa using hse
    clear N7 D5b hse
    go_wp2_with (first | (guard_target =~ wpList _ _ _ ({ dst := some 22, op := Op.load 27 _, .. } :: _) _ _; refine wpList_load_midG (by kernel_rfl) 27 (.tmp 4) rfl g4 0 rfl D.toList _ rH Tryd.underlying27 rfl jD ?_) | (guard_target =~ wpList _ _ _ ({ dst := some 23, op := Op.load 27 _, .. } :: _) _ _; refine wpList_load_midG (by kernel_rfl) 27 (.tmp 6) rfl g6 0 rfl D.toList _ rG Tryd.underlying27 rfl jD ?_))
    go_ret
    exact ⟨rfl, T0.then_no t05⟩
end Go.Proofs.YtgjhhmdpepdepaaDoor
