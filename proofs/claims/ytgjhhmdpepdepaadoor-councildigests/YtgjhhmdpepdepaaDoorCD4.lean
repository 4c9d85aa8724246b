/- Proposer of the program; alive. -/
import Derived.Test.YtgjhhmdpepdepaaDoorCD3
namespace Go.Proofs.YtgjhhmdpepdepaaDoor
open Go.RowKit
set_option linter.unusedVariables false

set_option maxRecDepth 100000 in
set_option maxHeartbeats 1000000 in
theorem prop12_bad (w : World) (v : Value) (l : List Mb) (h : Ms w v l) (k : Int) (hE : soundE l ≠ 0) : Calls Tryd.prog 8 #[.agg #[v], .int .i64 k] w fun e w' => e = .returned (.tuple #[.int .u64 0, .int .i64 (soundE l)]) ∧ Turn no w w' := by
  have T0 : Turn no w (w.alloc (.cells #[v] 24)) := (Turn.refl no w).alloc _
  have hw := total32 _ v l (h.turn_no T0)
  have hne : (soundE l == 0) = false := by simp; exact hE
  clear h
  go_enter Tryd.func8, Tryd.ntmps8
  go_wp2_with fail
  refine hw.mono ?_
  rintro e w1 ⟨rfl, T1⟩
  have T := T0.then_no T1
  clear hw
  go_wp2_with fail
  go_ret2
  exact ⟨rfl, T⟩

set_option maxRecDepth 100000 in
set_option maxHeartbeats 1000000 in
theorem prop12_arg (w : World) (v : Value) (l : List Mb) (h : Ms w v l) (k : Int) (hE : soundE l = 0) (hk : k < 0 ∨ 65535 < k) : Calls Tryd.prog 8 #[.agg #[v], .int .i64 k] w fun e w' => e = .returned (.tuple #[.int .u64 0, .int .i64 2]) ∧ Turn no w w' := by
  have T0 : Turn no w (w.alloc (.cells #[v] 24)) := (Turn.refl no w).alloc _
  have hw := total32 _ v l (h.turn_no T0)
  rw [hE] at hw
  clear h
  rcases hk with hk | hk
  · go_enter Tryd.func8, Tryd.ntmps8
    go_wp2_with fail
    refine hw.mono ?_
    rintro e w1 ⟨rfl, T1⟩
    have T := T0.then_no T1
    clear hw
    go_wp2_with fail
    go_ret2
    exact ⟨rfl, T⟩
  · have hk0 : ¬ k < 0 := by omega
    go_enter Tryd.func8, Tryd.ntmps8
    go_wp2_with fail
    refine hw.mono ?_
    rintro e w1 ⟨rfl, T1⟩
    have T := T0.then_no T1
    clear hw
    go_wp2_with fail
    go_ret2
    exact ⟨rfl, T⟩

set_option maxRecDepth 100000 in
set_option maxHeartbeats 1000000 in
theorem prop12_yes (w : World) (v : Value) (l : List Mb) (h : Ms w v l) (k : Nat) (hE : soundE l = 0) (hk : k ≤ 65535) : Calls Tryd.prog 8 #[.agg #[v], .int .i64 k] w fun e w' => e = .returned (.tuple #[.int .u64 (propN (tot l) l k), .int .i64 0]) ∧ Turn no w w' := by
  have T0 : Turn no w (w.alloc (.cells #[v] 24)) := (Turn.refl no w).alloc _
  have B0 := Bx.new w v 24
  have hw := total32 _ v l (h.turn_no T0)
  rw [hE, soundT_ok l hE] at hw
  obtain ⟨hn0, hn64, _, _⟩ := weigh_ok l (sound_ok l hE).1
  have hcl := fun W (T : Turn no w W) => clone33 W v l (h.turn_no T) (by omega) hn64
  have hin := fun i => turns_in (sound_in l hE) i
  have hrs := fun i => (weigh_rising l (sound_ok l hE).1).keys (turns_keys (tot l) l i)
  have hln := fun i => turns_len (tot l) l i
  have htt := tot_le_top l (sound_ok l hE).1
  have hz0 : w.heap.size < (w.alloc (.cells #[v] 24)).heap.size := by simp
  clear h hE
  have hkb : (k : Int) ≤ 65535 := by omega
  have hk0 : ¬ (k : Int) < 0 := by omega
  have hk1 : ¬ (65535 : Int) < (k : Int) := by omega
  obtain ⟨n, hn⟩ : ∃ n, Hid (l.length = n) := ⟨_, rfl⟩
  have hn' : l.length = n := hn.out
  rw [hn'] at hcl hn0 hn64
  obtain ⟨t, ht⟩ : ∃ t, Hid (tot l = t) := ⟨_, rfl⟩
  have ht' : tot l = t := ht.out
  rw [ht'] at hw hin hrs hln htt ⊢
  have hln : ∀ i, (turnsN t l i).length = n := fun i => (hln i).trans hn'
  clear ht' hn'
  go_enter Tryd.func8, Tryd.ntmps8
  go_wp2_with fail
  refine hw.mono ?_
  rintro e w1 ⟨rfl, T1⟩
  have B02 := B0.turn_no T1
  have T := T0.then_no T1
  have hcl := hcl w1 T
  have c3 := B02.c
  have hz1 := T1.size
  clear hw B0
  go_wp2_with fail
  refine hcl.mono ?_
  rintro e w2 ⟨g, cap, rfl, R, hg, T2⟩
  have T3 := T.then_no T2
  have hgw : w.heap.size < g := by omega
  clear hcl B02 T1 T0 hg c3 hz1 hz0 T
  go_wp2_with fail
  go_loopw [28] (fun c wr => ∃ i : Nat, i ≤ k ∧ c = .int .i64 i ∧ Rw wr g cap (turnsN t l i) ∧ Turn (fun b => b = g) w2 wr) (fun c _ => k - (intOf c).toNat)
  case atStart => exact ⟨0, by omega, rfl, R, Turn.refl _ _⟩
  case round =>
    clear R
    obtain ⟨i, hi, rfl, R, TR⟩ := hrel
    have hct := turn34 wr g cap t _ R (hin i) htt (by rw [hln]; omega) (hrs i)
    rw [hln] at hct
    by_cases hlt : i < k
    · have hlt' : (i : Int) < (k : Int) := by omega
      clear hin hrs
      go_wp2_with fail
      refine hct.mono ?_
      rintro e w4 ⟨rfl, R4, T4⟩
      have TR4 := TR.trans T4 (fun _ _ q => q)
      clear hct R
      go_wp2_with fail
      go_roundw
      case rel => exact ⟨i + 1, by omega, by go_num, R4, TR4⟩
      case measure => simp [intOf]; omega
    · have hkn : i = k := by omega
      subst hkn
      have hlt' : ¬ (i : Int) < (i : Int) := by omega
      have hbl := best_lt (up t (turnsN t l i)) (by rw [up_len, hln]; omega)
      rw [up_len, hln] at hbl
      have HP : Hid (propN t l i = ((turnsN t l (i + 1)).getD (best (up t (turnsN t l i))) mb0).ad) := rfl
      obtain ⟨x, hx⟩ : ∃ x, (turnsN t l (i + 1))[best (up t (turnsN t l i))]? = some x := ⟨_, List.getElem?_eq_getElem (by rw [hln]; exact hbl)⟩
      have HP : Hid (propN t l i = x.ad) := by
        have := HP.out
        rw [List.getD, hx] at this
        exact this
      obtain ⟨bb, hbb⟩ : ∃ bb, Hid (best (up t (turnsN t l i)) = bb) := ⟨_, rfl⟩
      rw [show best (up t (turnsN t l i)) = bb from hbb.out] at hct hbl hx
      have hbl' : (bb : Int) < (n : Int) := by omega
      clear hin hrs
      go_wp2_with fail
      refine hct.mono ?_
      rintro e w4 ⟨rfl, R4, T4⟩
      have TR4 := TR.trans T4 (fun _ _ q => q)
      obtain ⟨c0, c1, c2⟩ := R4.cells bb x hx
      have Tw : Turn no w w4 := (T3.of_no.trans TR4 (fun _ _ q => q)).mono (fun b hb q => by omega)
      clear hct R R4 hx hln TR TR4 T4
      go_wp2_with fail
      go_ret2
      exact ⟨ret2_eq (by rw [HP.out]) rfl, Tw⟩

def three : List Mb := [⟨1, 1, 0⟩, ⟨2, 2, 0⟩, ⟨3, 3, 0⟩]
theorem three_sound : soundE three = 0 := by decide
theorem three_weigh : weighE three = 0 := by decide
theorem three_zero : zeroed three = three := rfl
theorem three_tot : tot three = 6 := rfl
theorem three_0 : propN 6 three 0 = 3 := by decide
theorem three_1 : propN 6 three 1 = 2 := by decide
theorem three_2 : propN 6 three 2 = 1 := by decide
theorem three_ms (w : World) : Ms (w.alloc (.cells #[.int .u64 1, .int .u64 1, .int .i64 0, .int .u64 2, .int .u64 2, .int .i64 0, .int .u64 3, .int .u64 3, .int .i64 0] 37)) (.slice (some ⟨w.heap.size, 0, none⟩) 3 3) three := by
  have R : Rw (w.alloc (.cells #[.int .u64 1, .int .u64 1, .int .i64 0, .int .u64 2, .int .u64 2, .int .i64 0, .int .u64 3, .int .u64 3, .int .i64 0] 37)) w.heap.size 3 three :=
    ⟨by decide, by simp [maxLen], by intro m hm; simp [three] at hm; rcases hm with rfl | rfl | rfl <;> simp [Mb.ok], _, heap_alloc_new w _, rfl, fun j m hm => by
      match j with
      | 0 => simp [three] at hm; subst hm; simp
      | 1 => simp [three] at hm; subst hm; simp
      | 2 => simp [three] at hm; subst hm; simp
      | j + 3 => simp [three] at hm⟩
  exact ⟨_, 3, rfl, R.at⟩

set_option maxRecDepth 100000 in
set_option maxHeartbeats 1000000 in
theorem alive9 (w : World) : Calls Tryd.prog 4 #[] w fun e w' => e = .returned (.bool true) ∧ Turn no w w' := by
  have T0 : Turn no w (w.alloc (.cells #[.int .u64 1, .int .u64 1, .int .i64 0, .int .u64 2, .int .u64 2, .int .i64 0, .int .u64 3, .int .u64 3, .int .i64 0] 37)) := (Turn.refl no w).alloc _
  have hnew := new15_yes _ _ three (three_ms w) three_weigh
  rw [three_zero] at hnew
  go_enter Tryd.func4, Tryd.ntmps4
  go_wp2_with fail
  refine hnew.mono ?_
  rintro e w1 ⟨u, rfl, MD, T1⟩
  have T := T0.then_no T1
  have M1 := MD.ms
  clear hnew MD T0 T1
  have T2 : Turn no w1 (w1.alloc (.cells #[u] 24)) := (Turn.refl no w1).alloc _
  have M2 := M1.turn_no T2
  have B2 := Bx.new w1 u 24
  have hp0 := prop12_yes _ _ three M2 0 three_sound (by decide)
  rw [three_tot, three_0] at hp0
  obtain ⟨a, cap, rfl, _⟩ := M1
  go_wp2_with fail
  refine hp0.mono ?_
  rintro e w3 ⟨rfl, T3⟩
  have M3 := M2.turn_no T3
  have B3 := B2.turn_no T3
  have c3 := B3.c
  have hp1 := prop12_yes _ _ three M3 1 three_sound (by decide)
  rw [three_tot, three_1] at hp1
  clear hp0
  go_wp2_with fail
  refine hp1.mono ?_
  rintro e w4 ⟨rfl, T4⟩
  have M4 := M3.turn_no T4
  have B4 := B3.turn_no T4
  have c4 := B4.c
  have hp2 := prop12_yes _ _ three M4 2 three_sound (by decide)
  rw [three_tot, three_2] at hp2
  clear hp1 c3
  go_wp2_with fail
  refine hp2.mono ?_
  rintro e w5 ⟨rfl, T5⟩
  have M5 := M4.turn_no T5
  have B5 := B4.turn_no T5
  have c5 := B5.c
  have ht := total23 _ _ three M5
  rw [soundT_ok _ three_sound, three_tot] at ht
  clear hp2 c4
  go_wp2_with fail
  refine ht.mono ?_
  rintro e w6 ⟨rfl, T6⟩
  clear ht
  go_wp2_with fail
  go_ret
  exact ⟨rfl, ((((T.then_no T2).then_no T3).then_no T4).then_no T5).then_no T6⟩
end Go.Proofs.YtgjhhmdpepdepaaDoor

