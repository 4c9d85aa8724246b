/- Proposer of the document; both sides in one form. -/
import Derived.Test.YtcmoocoklhjkfaaE2
import Derived.Test.YtcmoocoklhjkfaaD4
import Derived.Test.YtcmoocoklhjkfaaNewsW
namespace Go.Proofs.Ytcmoocoklhjkfaa
open Go.RowKit
set_option linter.unusedVariables false

def lastB (t : Nat) (l : List Mb) : Nat → Nat
  | 0 => 0
  | i + 1 => best (up t (turnsN t l i))

set_option maxRecDepth 100000 in
set_option maxHeartbeats 1000000 in
theorem rprop26_bad (w : World) (v : Value) (l : List Mb) (h : Ms w v l) (k : Int) (hE : soundE l ≠ 0) : Calls Try.prog 26 #[.agg #[v], .int .i64 k] w fun e w' => e = .returned (.tuple #[.int .u64 0, .int .i64 (soundE l)]) ∧ Turn no w w' := by
  have T0 : Turn no w (w.alloc (.cells #[v] 24)) := (Turn.refl no w).alloc _
  have hw := rsound11 _ v l (h.turn_no T0)
  have hne : (soundE l == 0) = false := by simp; exact hE
  clear h
  go_enter Try.func26, Try.ntmps26
  go_wp2_with fail
  refine hw.mono ?_
  rintro e w1 ⟨rfl, T1⟩
  have T := T0.then_no T1
  clear hw
  go_wp2_with fail
  go_ret2
  exact ⟨rfl, T⟩

set_option maxRecDepth 100000 in
set_option maxHeartbeats 1000000 in
theorem rprop26_arg (w : World) (v : Value) (l : List Mb) (h : Ms w v l) (k : Int) (hE : soundE l = 0) (hk : k < 0 ∨ 65535 < k) : Calls Try.prog 26 #[.agg #[v], .int .i64 k] w fun e w' => e = .returned (.tuple #[.int .u64 0, .int .i64 2]) ∧ Turn no w w' := by
  have T0 : Turn no w (w.alloc (.cells #[v] 24)) := (Turn.refl no w).alloc _
  have hw := rsound11 _ v l (h.turn_no T0)
  rw [hE] at hw
  clear h
  have hk' : k < 0 ∨ ¬ k < 0 ∧ 65535 < k := by omega
  clear hk
  rcases hk' with hk | ⟨hk0, hk⟩
  all_goals
    go_enter Try.func26, Try.ntmps26
    go_wp2_with fail
    refine hw.mono ?_
    rintro e w1 ⟨rfl, T1⟩
    have T := T0.then_no T1
    clear hw
    go_wp2_with fail
    go_ret2
    exact ⟨rfl, T⟩

set_option maxRecDepth 100000 in
set_option maxHeartbeats 1000000 in
theorem rprop26_yes (w : World) (v : Value) (l : List Mb) (h : Ms w v l) (k : Nat) (hE : soundE l = 0) (hk : k ≤ 65535) : Calls Try.prog 26 #[.agg #[v], .int .i64 k] w fun e w' => e = .returned (.tuple #[.int .u64 (propN (tot l) l k), .int .i64 0]) ∧ Turn no w w' := by
  have T0 : Turn no w (w.alloc (.cells #[v] 24)) := (Turn.refl no w).alloc _
  have B0 := Bx.new w v 24
  have hw := rsound11 _ v l (h.turn_no T0)
  rw [hE] at hw
  obtain ⟨hn0, hn64, _, _⟩ := weigh_ok l (sound_ok l hE).1
  have hcl := fun W (T : Turn no w W) => copied41 W v l (h.turn_no T) (by omega) hn64
  have hpw := sound_pw l hE
  have htop := (weigh_ok l (sound_ok l hE).1).2.2.2
  have hin := fun i => turns_in (sound_in l hE) i
  have hln := fun i => turns_len (tot l) l i
  have htt := tot_le_top l (sound_ok l hE).1
  have hz0 : w.heap.size < (w.alloc (.cells #[v] 24)).heap.size := by simp
  clear h hE
  have hkb : (k : Int) ≤ 65535 := by omega
  have hk0 : ¬ (k : Int) < 0 := by omega
  have hk1 : ¬ (65535 : Int) < (k : Int) := by omega
  obtain ⟨n, hn⟩ : ∃ n, Hid (l.length = n) := ⟨_, rfl⟩
  have hn' : l.length = n := hn.out
  rw [hn'] at hcl hn0 hn64
  obtain ⟨t, ht⟩ : ∃ t, Hid (tot l = t) := ⟨_, rfl⟩
  have ht' : tot l = t := ht.out
  rw [ht'] at hin hln htt htop ⊢
  have hln : ∀ i, (turnsN t l i).length = n := fun i => (hln i).trans hn'
  clear ht' hn'
  go_enter Try.func26, Try.ntmps26
  go_wp2_with fail
  refine hw.mono ?_
  rintro e w1 ⟨rfl, T1⟩
  have B02 := B0.turn_no T1
  have T := T0.then_no T1
  have hcl := hcl w1 T
  have c3 := B02.c
  have hz1 := T1.size
  clear hw B0
  go_wp2_with fail
  refine hcl.mono ?_
  rintro e w2 ⟨g, cap, rfl, R, hg, T2⟩
  have T3 := T.then_no T2
  have hgw : w.heap.size < g := by omega
  have hrt := rtotal35 w2 (.slice (some ⟨g, 0, none⟩) n cap) l ⟨_, cap, by rw [show l.length = n from hn.out], R.at⟩ hpw
  clear hcl B02 T1 T0 hg c3 hz1 hz0 T hpw
  go_wp2_with fail
  refine hrt.mono ?_
  rintro e w3 ⟨Rt, rfl, R1, _, _, e1⟩
  have e1 := e1.symm
  subst e1
  have hRt := (R1 (by rw [ht.out]; exact htop)).trans ht.out
  subst hRt
  clear hrt R1
  go_wp2_with fail
  go_loopw [9, 10] (fun x c wr => ∃ i : Nat, i ≤ k + 1 ∧ c = .int .i64 i ∧ x = .int .i64 (lastB Rt l i) ∧ Rw wr g cap (turnsN Rt l i) ∧ Turn (fun b => b = g) w2 wr) (fun _ c _ => k + 1 - (intOf c).toNat)
  case atStart => exact ⟨0, by omega, rfl, rfl, R, Turn.refl _ _⟩
  case round =>
    clear R
    obtain ⟨i, hi, rfl, rfl, R, TR⟩ := hrel
    by_cases hlt : i ≤ k
    · have hlt' : (i : Int) ≤ (k : Int) := by omega
      have hct := once42 wr g cap Rt _ R (hin i) htt (by rw [hln]; omega)
      rw [hln] at hct
      rw [show best (up Rt (turnsN Rt l i)) = lastB Rt l (i + 1) from rfl] at hct
      generalize lastB Rt l i = li at *
      clear hin
      go_wp2_with fail
      refine hct.mono ?_
      rintro e w4 ⟨rfl, R4, T4⟩
      have TR4 := TR.trans T4 (fun _ _ q => q)
      clear hct R
      go_wp2_with fail
      go_roundw
      case rel => exact ⟨i + 1, by omega, by go_num, rfl, R4, TR4⟩
      case measure => simp [intOf]; omega
    · have hkn : i = k + 1 := by omega
      subst hkn
      have hlt' : ¬ ((k + 1 : Nat) : Int) ≤ (k : Int) := by omega
      have hbl := best_lt (up Rt (turnsN Rt l k)) (by rw [up_len, hln]; omega)
      rw [up_len, hln] at hbl
      obtain ⟨x, hx⟩ : ∃ x, (turnsN Rt l (k + 1))[best (up Rt (turnsN Rt l k))]? = some x := ⟨_, List.getElem?_eq_getElem (by rw [hln]; exact hbl)⟩
      have HP : Hid (propN Rt l k = x.ad) := by
        show propN Rt l k = x.ad
        rw [propN, List.getD, hx]
        rfl
      obtain ⟨bb, hbb⟩ : ∃ bb, Hid (best (up Rt (turnsN Rt l k)) = bb) := ⟨_, rfl⟩
      rw [show lastB Rt l (k + 1) = bb from hbb.out]
      rw [show best (up Rt (turnsN Rt l k)) = bb from hbb.out] at hbl hx
      have hbl' : (bb : Int) < (n : Int) := by omega
      obtain ⟨c0, c1, c2⟩ := R.cells bb x hx
      have Tw : Turn no w wr := (T3.of_no.trans TR (fun _ _ q => q)).mono (fun b hb q => by omega)
      clear hin R hx hln TR
      go_wp2_with fail
      go_ret2
      exact ⟨ret2_eq (by rw [HP.out]) rfl, Tw⟩

def turnE (l : List Mb) (k : Int) : Int := if soundE l ≠ 0 then soundE l else if k < 0 ∨ 65536 < k then 2 else 0
def turnR (l : List Mb) (k : Int) : List Mb := if turnE l k = 0 then turnsN (tot l) l k.toNat else []
def propE (l : List Mb) (k : Int) : Int := if soundE l ≠ 0 then soundE l else if k < 0 ∨ 65535 < k then 2 else 0
def propA (l : List Mb) (k : Int) : Nat := if propE l k = 0 then propN (tot l) l k.toNat else 0
theorem turn10_any (w : World) (v : Value) (l : List Mb) (h : Ms w v l) (k : Int) : Calls Try.prog 10 #[.agg #[v], .int .i64 k] w fun e w' => ∃ u, e = .returned (.tuple #[.agg #[u], .int .i64 (turnE l k)]) ∧ Ms w' u (turnR l k) ∧ (turnE l k = 0 → Made w.heap.size w' u (turnR l k)) ∧ Turn no w w' := by
  by_cases hE : soundE l = 0
  · by_cases hk : k < 0 ∨ 65536 < k
    · have e : turnE l k = 2 := by rw [turnE, if_neg (by omega), if_pos hk]
      refine (turn10_arg w v l h k hE hk).mono ?_
      rintro _ w' ⟨rfl, T⟩
      exact ⟨_, by rw [e], by rw [turnR, if_neg (by omega)]; exact ms_empty _, fun q => by omega, T⟩
    · have e : turnE l k = 0 := by rw [turnE, if_neg (by omega), if_neg hk]
      have := turn10_yes w v l h k.toNat hE (by omega)
      rw [show ((k.toNat : Nat) : Int) = k by omega] at this
      refine this.mono ?_
      rintro _ w' ⟨u, rfl, M, T⟩
      have e2 : turnR l k = turnsN (tot l) l k.toNat := by rw [turnR, if_pos e]
      rw [e2]
      exact ⟨u, by rw [e], M.ms, fun _ => M, T⟩
  · have e : turnE l k = soundE l := by rw [turnE, if_pos hE]
    refine (turn10_bad w v l h k hE).mono ?_
    rintro _ w' ⟨rfl, T⟩
    exact ⟨_, by rw [e], by rw [turnR, if_neg (by omega)]; exact ms_empty _, fun q => by omega, T⟩
theorem rturn25_any (w : World) (v : Value) (l : List Mb) (h : Ms w v l) (k : Int) : Calls Try.prog 25 #[.agg #[v], .int .i64 k] w fun e w' => ∃ u, e = .returned (.tuple #[.agg #[u], .int .i64 (turnE l k)]) ∧ Ms w' u (turnR l k) ∧ Turn no w w' := by
  by_cases hE : soundE l = 0
  · by_cases hk : k < 0 ∨ 65536 < k
    · have e : turnE l k = 2 := by rw [turnE, if_neg (by omega), if_pos hk]
      refine (rturn25_arg w v l h k hE hk).mono ?_
      rintro _ w' ⟨rfl, T⟩
      exact ⟨_, by rw [e], by rw [turnR, if_neg (by omega)]; exact ms_empty _, T⟩
    · have e : turnE l k = 0 := by rw [turnE, if_neg (by omega), if_neg hk]
      have := rturn25_yes w v l h k.toNat hE (by omega)
      rw [show ((k.toNat : Nat) : Int) = k by omega] at this
      refine this.mono ?_
      rintro _ w' ⟨u, rfl, M, T⟩
      exact ⟨u, by rw [e], by rw [turnR, if_pos e]; exact M.ms, T⟩
  · have e : turnE l k = soundE l := by rw [turnE, if_pos hE]
    refine (rturn25_bad w v l h k hE).mono ?_
    rintro _ w' ⟨rfl, T⟩
    exact ⟨_, by rw [e], by rw [turnR, if_neg (by omega)]; exact ms_empty _, T⟩
theorem prop12_any (w : World) (v : Value) (l : List Mb) (h : Ms w v l) (k : Int) : Calls Try.prog 12 #[.agg #[v], .int .i64 k] w fun e w' => e = .returned (.tuple #[.int .u64 (propA l k), .int .i64 (propE l k)]) ∧ Turn no w w' := by
  by_cases hE : soundE l = 0
  · by_cases hk : k < 0 ∨ 65535 < k
    · have e : propE l k = 2 := by rw [propE, if_neg (by omega), if_pos hk]
      have e2 : propA l k = 0 := by rw [propA, if_neg (by omega)]
      rw [e, e2]
      exact prop12_arg w v l h k hE hk
    · have e : propE l k = 0 := by rw [propE, if_neg (by omega), if_neg hk]
      have e2 : propA l k = propN (tot l) l k.toNat := by rw [propA, if_pos e]
      rw [e, e2]
      have := prop12_yes w v l h k.toNat hE (by omega)
      rw [show ((k.toNat : Nat) : Int) = k by omega] at this
      exact this
  · have e : propE l k = soundE l := by rw [propE, if_pos hE]
    have e2 : propA l k = 0 := by rw [propA, if_neg (by omega)]
    rw [e, e2]
    exact prop12_bad w v l h k hE
theorem rprop26_any (w : World) (v : Value) (l : List Mb) (h : Ms w v l) (k : Int) : Calls Try.prog 26 #[.agg #[v], .int .i64 k] w fun e w' => e = .returned (.tuple #[.int .u64 (propA l k), .int .i64 (propE l k)]) ∧ Turn no w w' := by
  by_cases hE : soundE l = 0
  · by_cases hk : k < 0 ∨ 65535 < k
    · have e : propE l k = 2 := by rw [propE, if_neg (by omega), if_pos hk]
      have e2 : propA l k = 0 := by rw [propA, if_neg (by omega)]
      rw [e, e2]
      exact rprop26_arg w v l h k hE hk
    · have e : propE l k = 0 := by rw [propE, if_neg (by omega), if_neg hk]
      have e2 : propA l k = propN (tot l) l k.toNat := by rw [propA, if_pos e]
      rw [e, e2]
      have := rprop26_yes w v l h k.toNat hE (by omega)
      rw [show ((k.toNat : Nat) : Int) = k by omega] at this
      exact this
  · have e : propE l k = soundE l := by rw [propE, if_pos hE]
    have e2 : propA l k = 0 := by rw [propA, if_neg (by omega)]
    rw [e, e2]
    exact rprop26_bad w v l h k hE
end Go.Proofs.Ytcmoocoklhjkfaa
