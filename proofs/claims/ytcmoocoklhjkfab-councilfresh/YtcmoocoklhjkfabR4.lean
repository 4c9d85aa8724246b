/- narrowed of the document. -/
import Derived.Test.YtcmoocoklhjkfabR3
namespace Go.Proofs.Ytcmoocoklhjkfab
open Go.RowKit
set_option linter.unusedVariables false

theorem tdiv_neg_of (p r : Int) (hp : p < 0) : p.tdiv r = -((-p) / r) := by
  have h : (-p).tdiv r = (-p) / r := Int.tdiv_eq_ediv_of_nonneg (by omega)
  rw [← h, Int.neg_tdiv]
  omega
theorem tdiv_pos_of (p r : Int) (hp : 0 ≤ p) : p.tdiv r = p / r := Int.tdiv_eq_ediv_of_nonneg hp

set_option maxRecDepth 100000 in
set_option maxHeartbeats 1000000 in
theorem narrowed42 (w : World) (g cap t : Nat) (l : List Mb) (R : Rw w g cap l) (h0 : 0 < l.length) (h64 : l.length ≤ 64) (hA : Abs 8070450532247928832 l) (ht : 0 < t) (ht2 : t ≤ 1152921504606846975) :
    Calls Try.prog 42 #[.slice (some ⟨g, 0, none⟩) l.length cap, .int .u64 t] w fun e w' => e = .returned (.tuple #[]) ∧ Rw w' g cap (narr (2 * t) l) ∧ Turn (fun b => b = g) w w' := by
  obtain ⟨z, hz⟩ : ∃ z, l[0]? = some z := ⟨l[0], List.getElem?_eq_getElem h0⟩
  obtain ⟨_, _, cz⟩ := R.cells 0 z hz
  simp only [Nat.zero_mul, Nat.zero_add] at cz
  have hz0 : hiK l 0 = z.pr := by rw [hiK, getD_some hz]
  have hz1 : loK l 0 = z.pr := by rw [loK, getD_some hz]
  have hHA := fun k hk => hiK_abs 8070450532247928832 l hA k h0 hk
  have hLH := fun k => lo_le_hi l k
  have hap : apartN l = (hiK l l.length - loK l l.length).toNat := rfl
  obtain ⟨n, hn⟩ : ∃ n, Hid (l.length = n) := ⟨_, rfl⟩
  have hn' : l.length = n := hn.out
  rw [hn'] at h0 h64 hap hHA ⊢
  clear hn'
  have h0' : (0 : Int) < (n : Int) := by omega
  have H00 : Hid (hiK l 0 = z.pr ∧ loK l 0 = z.pr) := ⟨hz0, hz1⟩
  have HAP : Hid (apartN l = (hiK l n - loK l n).toNat) := hap
  clear hz0 hz1 hap hz
  go_enter Try.func42, Try.ntmps42
  go_wp2_with fail
  go_loop [4, 5, 6] (fun x y c => ∃ k : Nat, k ≤ n ∧ c = .int .i64 k ∧ x = .int .i64 (hiK l k) ∧ y = .int .i64 (loK l k)) (fun _ _ c => n - (intOf c).toNat)
  case atStart => exact ⟨0, by omega, rfl, by rw [H00.out.1], by rw [H00.out.2]⟩
  case round =>
    obtain ⟨k, hk, rfl, rfl, rfl⟩ := hrel
    by_cases hlt : k < n
    · obtain ⟨m, hm⟩ : ∃ m, l[k]? = some m := ⟨l[k]'(by rw [hn.out]; exact hlt), List.getElem?_eq_getElem _⟩
      obtain ⟨c0, c1, c2⟩ := R.cells k m hm
      have hlt' : (k : Int) < (n : Int) := by omega
      have HS : Hid (hiK l (k + 1) = max (hiK l k) m.pr ∧ loK l (k + 1) = min (loK l k) m.pr) := hiK_succ l k m hm
      have hlh := hLH k
      generalize hiK l k = hi at *
      generalize loK l k = lo at *
      clear hm hA R hHA hLH cz H00
      rcases (show m.pr < lo ∧ ¬ hi < m.pr ∨ ¬ m.pr < lo ∧ hi < m.pr ∨ ¬ m.pr < lo ∧ ¬ hi < m.pr by omega) with ⟨a1, a2⟩ | ⟨a1, a2⟩ | ⟨a1, a2⟩
      all_goals
        go_wp2_with fail
        go_round
        case rel => exact ⟨k + 1, by omega, by go_num, by rw [HS.out.1]; go_num, by rw [HS.out.2]; go_num⟩
        case measure => simp [intOf]; omega
    · have hkn : k = n := by omega
      subst hkn
      have hlt' : ¬ (k : Int) < (k : Int) := by omega
      obtain ⟨a1, a2⟩ := hHA k (Nat.le_refl _)
      have hlh := hLH k
      obtain ⟨d, hd⟩ : ∃ d, Hid (apartN l = d) := ⟨_, rfl⟩
      have hdd : d = (hiK l k - loK l k).toNat := by rw [← hd.out]; exact HAP.out
      have hwr := apart_wrap (hiK l k) (loK l k) d hlh hdd (by omega)
      have hnr : Hid (narr (2 * t) l = if d ≤ 2 * t then l else l.map (divM (rN d (2 * t)))) := by show narr (2 * t) l = _; rw [narr, hd.out]
      have hdb : d ≤ 16140901064495857664 := by omega
      clear HAP
      generalize hiK l k = hi at *
      generalize loK l k = lo at *
      clear hdd hHA hLH H00 cz a1 a2 hlh
      by_cases a3 : d ≤ 2 * t
      · have a3' : (d : Int) ≤ 2 * (t : Int) := by omega
        have HN : Hid (narr (2 * t) l = l) := by show narr (2 * t) l = l; rw [hnr.out, if_pos a3]
        clear hnr hA
        go_wp2_with fail
        first | go_end0 | refine bodyPost_ret (results_none rfl _ _ _) rfl ?_
        exact ⟨rfl, by rw [HN.out]; exact R, Turn.refl _ _⟩
      · have a3' : ¬ (d : Int) ≤ 2 * (t : Int) := by omega
        have HN : Hid (narr (2 * t) l = l.map (divM (rN d (2 * t)))) := by show narr (2 * t) l = _; rw [hnr.out, if_neg a3]
        clear hnr
        have hrd := rN_doc d (2 * t) (by omega) (by omega)
        have hrr : rN d (2 * t) ≤ 8070450532247928833 := by
          unfold rN
          have : (d - 1) / (2 * t) ≤ (d - 1) / 2 := Nat.div_le_div_left (by omega) (by decide)
          omega
        have hr5 : 1 ≤ rN d (2 * t) := Nat.le_add_left _ _
        obtain ⟨rr, hrN⟩ : ∃ rr, Hid (rN d (2 * t) = rr) := ⟨_, rfl⟩
        rw [show rN d (2 * t) = rr from hrN.out] at HN hrd hrr hr5
        have hq1 : (d : Int) / (2 * (t : Int)) = ((d / (2 * t) : Nat) : Int) := by simp
        have hq2 : (d : Int) % (2 * (t : Int)) = ((d % (2 * t) : Nat) : Int) := by simp
        have hq3 : d / (2 * t) ≤ 8070450532247928833 := by
          have : d / (2 * t) ≤ d / 2 := Nat.div_le_div_left (by omega) (by decide)
          omega
        generalize d / (2 * t) = q at *
        generalize d % (2 * t) = m2 at *
        have hr2 : (rr : Int) ≤ 8070450532247928833 := by omega
        have hr3 : ¬ (rr : Int) = 0 := by omega
        have ht3 : ¬ 2 * (t : Int) = 0 := by omega
        have hq4 : (q : Int) ≤ 8070450532247928833 := by omega
        have ht4 : (t : Int) ≤ 1152921504606846975 := by omega
        by_cases a4 : m2 = 0
        · rw [if_pos a4] at hrd
          have hrd' : (q : Int) = (rr : Int) := by omega
          have a4' : ((m2 : Int) == 0) = true := by simp; omega
          have a4'' : ((m2 : Int) != 0) = false := by simp; omega
          clear hrN hrd a4
          go_wp2_with fail
          clear hwr hq1 hq2 hrd'
          go_loopw [9, 10] (fun c u wr => ∃ i : Nat, i ≤ k ∧ c = .int .i64 i ∧ Rw wr g cap (mapTo (divM rr) l i) ∧ Turn (fun b => b = g) w wr) (fun c _ _ => k - (intOf c).toNat)
          case atStart => exact ⟨0, by omega, rfl, by rw [mapTo_zero]; exact R, Turn.refl _ _⟩
          case round =>
            clear R
            obtain ⟨i, hi, rfl, R, T⟩ := hrel
            by_cases hlt2 : i < k
            · obtain ⟨m, hm⟩ : ∃ m, l[i]? = some m := ⟨l[i]'(by rw [hn.out]; exact hlt2), List.getElem?_eq_getElem _⟩
              have hlt2' : (i : Int) < (k : Int) := by omega
              have ha := hA m (List.mem_of_getElem? hm)
              have d1 : (m.pr.tdiv rr).natAbs ≤ m.pr.natAbs := by rw [Int.natAbs_tdiv]; exact Nat.div_le_self _ _
              have R2 := R.set i m (mapTo_at _ l i m hm) (m.pr.tdiv rr) (by omega)
              have hms := mapTo_succ (divM rr) l i m hm
              rw [show divM rr m = { m with pr := m.pr.tdiv rr } from rfl] at hms
              rw [hms] at R2
              obtain ⟨c0, c1, c2⟩ := R.cells i m (mapTo_at _ l i m hm)
              have f2 := R.frozen (i * 3 + 2)
              have T2 := T.setCell (p := ⟨g, i * 3 + 2, none⟩) (fun _ => rfl) (.int .i64 (m.pr.tdiv rr))
              by_cases a5 : m.pr < 0
              · have e4 := tdiv_neg_of m.pr rr a5
                rw [e4] at R2 T2 d1
                have e0 : 0 ≤ (-m.pr) / (rr : Int) := Int.ediv_nonneg (by omega) (by omega)
                generalize eqx : (-m.pr) / (rr : Int) = qx at *
                have e1 : qx ≤ 8070450532247928833 := by omega
                have e2 : -8070450532247928833 ≤ m.pr := by omega
                clear hm R hms hA d1 ha
                go_wp2_with fail
                go_roundw
                case rel => exact ⟨i + 1, by omega, by go_num, R2, T2⟩
                case measure => simp [intOf]; omega
              · rw [tdiv_pos_of m.pr rr (by omega)] at R2 T2 d1
                have e0 : 0 ≤ m.pr / (rr : Int) := Int.ediv_nonneg (by omega) (by omega)
                generalize eqx : m.pr / (rr : Int) = qx at *
                have e1 : qx ≤ 8070450532247928833 := by omega
                have e2 : m.pr ≤ 8070450532247928833 := by omega
                have e3 : 0 ≤ m.pr := by omega
                clear hm R hms hA d1 ha
                go_wp2_with fail
                go_roundw
                case rel => exact ⟨i + 1, by omega, by go_num, R2, T2⟩
                case measure => simp [intOf]; omega
            · have hkn : i = k := by omega
              subst hkn
              have hlt' : ¬ (i : Int) < (i : Int) := by omega
              rw [mapTo_all _ l i hn.out, ← HN.out] at R
              clear hA
              go_wp2_with fail
              go_end0
              exact ⟨rfl, R, T⟩
        · rw [if_neg a4] at hrd
          have hrd' : (q : Int) + 1 = (rr : Int) := by omega
          have a4' : ((m2 : Int) == 0) = false := by simp; omega
          have a4'' : ((m2 : Int) != 0) = true := by simp; omega
          clear hrN hrd
          go_wp2_with fail
          clear hwr hq1 hq2 hrd'
          go_loopw [9, 10] (fun c u wr => ∃ i : Nat, i ≤ k ∧ c = .int .i64 i ∧ Rw wr g cap (mapTo (divM rr) l i) ∧ Turn (fun b => b = g) w wr) (fun c _ _ => k - (intOf c).toNat)
          case atStart => exact ⟨0, by omega, rfl, by rw [mapTo_zero]; exact R, Turn.refl _ _⟩
          case round =>
            clear R
            obtain ⟨i, hi, rfl, R, T⟩ := hrel
            by_cases hlt2 : i < k
            · obtain ⟨m, hm⟩ : ∃ m, l[i]? = some m := ⟨l[i]'(by rw [hn.out]; exact hlt2), List.getElem?_eq_getElem _⟩
              have hlt2' : (i : Int) < (k : Int) := by omega
              have ha := hA m (List.mem_of_getElem? hm)
              have d1 : (m.pr.tdiv rr).natAbs ≤ m.pr.natAbs := by rw [Int.natAbs_tdiv]; exact Nat.div_le_self _ _
              have R2 := R.set i m (mapTo_at _ l i m hm) (m.pr.tdiv rr) (by omega)
              have hms := mapTo_succ (divM rr) l i m hm
              rw [show divM rr m = { m with pr := m.pr.tdiv rr } from rfl] at hms
              rw [hms] at R2
              obtain ⟨c0, c1, c2⟩ := R.cells i m (mapTo_at _ l i m hm)
              have f2 := R.frozen (i * 3 + 2)
              have T2 := T.setCell (p := ⟨g, i * 3 + 2, none⟩) (fun _ => rfl) (.int .i64 (m.pr.tdiv rr))
              by_cases a5 : m.pr < 0
              · have e4 := tdiv_neg_of m.pr rr a5
                rw [e4] at R2 T2 d1
                have e0 : 0 ≤ (-m.pr) / (rr : Int) := Int.ediv_nonneg (by omega) (by omega)
                generalize eqx : (-m.pr) / (rr : Int) = qx at *
                have e1 : qx ≤ 8070450532247928833 := by omega
                have e2 : -8070450532247928833 ≤ m.pr := by omega
                clear hm R hms hA d1 ha
                go_wp2_with fail
                go_roundw
                case rel => exact ⟨i + 1, by omega, by go_num, R2, T2⟩
                case measure => simp [intOf]; omega
              · rw [tdiv_pos_of m.pr rr (by omega)] at R2 T2 d1
                have e0 : 0 ≤ m.pr / (rr : Int) := Int.ediv_nonneg (by omega) (by omega)
                generalize eqx : m.pr / (rr : Int) = qx at *
                have e1 : qx ≤ 8070450532247928833 := by omega
                have e2 : m.pr ≤ 8070450532247928833 := by omega
                have e3 : 0 ≤ m.pr := by omega
                clear hm R hms hA d1 ha
                go_wp2_with fail
                go_roundw
                case rel => exact ⟨i + 1, by omega, by go_num, R2, T2⟩
                case measure => simp [intOf]; omega
            · have hkn : i = k := by omega
              subst hkn
              have hlt' : ¬ (i : Int) < (i : Int) := by omega
              rw [mapTo_all _ l i hn.out, ← HN.out] at R
              clear hA
              go_wp2_with fail
              go_end0
              exact ⟨rfl, R, T⟩
end Go.Proofs.Ytcmoocoklhjkfab
