/- floor, centred of the document. -/
import Derived.Test.YtcmoocoklhjkfabR1
namespace Go.Proofs.Ytcmoocoklhjkfab
open Go.RowKit
set_option linter.unusedVariables false

theorem ret22_eq {a b c d : Int} (h1 : a = b) (h2 : c = d) : Ending.returned (.tuple #[.int .i64 a, .int .i64 c]) = Ending.returned (.tuple #[.int .i64 b, .int .i64 d]) := by rw [h1, h2]
theorem ediv_of (n q r s : Int) (hn : 0 < n) (h : n * q + r = s) (h0 : 0 ≤ r) (h1 : r < n) : s / n = q ∧ s % n = r := (Int.ediv_emod_unique hn).2 ⟨by omega, h0, h1⟩

set_option maxRecDepth 100000 in
set_option maxHeartbeats 1000000 in
theorem floor48 (w : World) (p : Int) (n : Nat) (h0 : 0 < n) (h64 : n ≤ 64) (hp : p.natAbs ≤ 8070450532247928832) : Calls Try.prog 48 #[.int .i64 p, .int .i64 n] w fun e w' => e = .returned (.tuple #[.int .i64 (p / n), .int .i64 (p % n)]) ∧ w' = w := by
  have hn0 : ¬ (n : Int) = 0 := by omega
  have hn1 : (n : Int) ≤ 64 := by omega
  have h2 := Int.mul_tdiv_add_tmod p n
  have h3 := tmod_lt p n (by omega)
  have d1 : (p.tdiv n).natAbs ≤ p.natAbs := by rw [Int.natAbs_tdiv]; exact Nat.div_le_self _ _
  generalize eqx : p.tdiv (n : Int) = qx at *
  generalize erx : p.tmod (n : Int) = rx at *
  have e1 : -9223372036854775000 ≤ qx := by omega
  have e2 : qx ≤ 9223372036854775000 := by omega
  by_cases a1 : rx < 0
  · have HV : Hid (p / n = qx - 1 ∧ p % n = rx + n) := ediv_of n (qx - 1) (rx + n) p (by omega) (by rw [Int.mul_sub]; omega) (by omega) (by omega)
    have e3 : -64 ≤ rx + n := by omega
    have e4 : rx + n ≤ 64 := by omega
    clear h2 d1 hp
    go_enter Try.func48, Try.ntmps48
    go_wp2_with fail
    go_ret2
    exact ⟨ret22_eq HV.out.1.symm HV.out.2.symm, rfl⟩
  · have HV : Hid (p / n = qx ∧ p % n = rx) := ediv_of n qx rx p (by omega) (by omega) (by omega) (by omega)
    clear h2 d1 hp
    go_enter Try.func48, Try.ntmps48
    go_wp2_with fail
    go_ret2
    exact ⟨ret22_eq HV.out.1.symm HV.out.2.symm, rfl⟩

set_option maxRecDepth 100000 in
set_option maxHeartbeats 1000000 in
theorem centred43 (w : World) (g cap : Nat) (l : List Mb) (R : Rw w g cap l) (h0 : 0 < l.length) (h64 : l.length ≤ 64) (hA : Abs 8070450532247928832 l) (hd : ∀ m ∈ l, -9223372036854775808 ≤ m.pr - sumP l / l.length ∧ m.pr - sumP l / l.length < 9223372036854775808) :
    Calls Try.prog 43 #[.slice (some ⟨g, 0, none⟩) l.length cap] w fun e w' => e = .returned (.tuple #[]) ∧ Rw w' g cap (cent l) ∧ Turn (fun b => b = g) w w' := by
  have havg := avg_doc (l.length : Int) (by omega) l
  obtain ⟨a, ha⟩ : ∃ a, Hid (sumP l / l.length = a) := ⟨_, rfl⟩
  have hce : Hid (cent l = l.map (subM a)) := by show cent l = _; rw [cent, ha.out]
  rw [show sumP l / l.length = a from ha.out] at hd havg
  obtain ⟨n, hn⟩ : ∃ n, Hid (l.length = n) := ⟨_, rfl⟩
  have hn' : l.length = n := hn.out
  rw [hn'] at h0 h64 havg ⊢
  have HAVG : Hid (fS n l + gS n l / n = a) := havg
  clear hn' havg
  have hql := fun k => fS_abs 8070450532247928832 n h0 (l.take k) (hA.take k)
  have hrl := fun k => gS_le n h0 h64 (l.take k)
  have hrn := fun k => gS_nonneg n (by omega) (l.take k)
  have hn0 : ¬ (n : Int) = 0 := by omega
  have hn1 : (n : Int) ≤ 64 := by omega
  go_enter Try.func43, Try.ntmps43
  go_wp2_with fail
  go_loop [3, 4, 5] (fun x y c => ∃ (k : Nat) (q r : Int), k ≤ n ∧ c = .int .i64 k ∧ x = .int .i64 q ∧ y = .int .i64 r ∧ fS n (l.take k) = q ∧ gS n (l.take k) = r) (fun _ _ c => n - (intOf c).toNat)
  case atStart => exact ⟨0, 0, 0, by omega, rfl, rfl, rfl, by simp [fS], by simp [gS]⟩
  case round =>
    obtain ⟨k, q, r, hk, rfl, rfl, rfl, hq, hr⟩ := hrel
    by_cases hlt : k < n
    · obtain ⟨m, hm⟩ : ∃ m, l[k]? = some m := ⟨l[k]'(by rw [hn.out]; exact hlt), List.getElem?_eq_getElem _⟩
      obtain ⟨c0, c1, c2⟩ := R.cells k m hm
      have hlt' : (k : Int) < (n : Int) := by omega
      have HQ : Hid (fS n (l.take (k + 1)) = q + m.pr / n) := by show _ = _; rw [fS_take_succ n l k m hm, hq]
      have HR : Hid (gS n (l.take (k + 1)) = r + m.pr % n) := by show _ = _; rw [gS_take_succ n l k m hm, hr]
      have ha := hA m (List.mem_of_getElem? hm)
      have hfl := fun W => floor48 W m.pr n h0 h64 ha
      have b1 := hql (k + 1)
      have b2 := hrl (k + 1)
      have b4 := hrn (k + 1)
      rw [HQ.out, List.length_take, hn.out, Nat.min_eq_left (by omega)] at b1
      rw [HR.out, List.length_take, hn.out, Nat.min_eq_left (by omega)] at b2
      rw [HR.out] at b4
      have b3 := kQ_le 8070450532247928832 n (k + 1) (by omega)
      have b5 : (k + 1) * (8070450532247928832 / n + 1) = (k + 1) * (8070450532247928832 / n) + (k + 1) := by rw [Nat.mul_add, Nat.mul_one]
      generalize eqx : m.pr / (n : Int) = qx at *
      generalize erx : m.pr % (n : Int) = rx at *
      have e3 : -9223372036854775808 ≤ q + qx := by omega
      have e4 : q + qx ≤ 9223372036854775807 := by omega
      have e5 : -4096 ≤ r + rx := by omega
      have e6 : r + rx ≤ 4096 := by omega
      clear hm hq hr hql hrl hrn b1 b2 b3 b4 b5 ha hA R hd
      go_wp2_with fail
      refine (hfl _).mono ?_
      rintro e w1 ⟨rfl, e1⟩
      have e1 := e1.symm
      subst e1
      clear hfl
      go_wp2_with fail
      go_round
      case rel => exact ⟨k + 1, q + qx, r + rx, by omega, by go_num, rfl, rfl, by rw [HQ.out], by rw [HR.out]⟩
      case measure => simp [intOf]; omega
    · have hkn : k = n := by omega
      subst hkn
      have hlt' : ¬ (k : Int) < (k : Int) := by omega
      have b1 := hql k
      have b2 := hrl k
      have b4 := hrn k
      rw [hq, List.length_take, hn.out, Nat.min_self] at b1
      rw [hr, List.length_take, hn.out, Nat.min_self] at b2
      rw [hr] at b4
      have b3 := kQ_le 8070450532247928832 k k (Nat.le_refl _)
      have b5 : k * (8070450532247928832 / k + 1) = k * (8070450532247928832 / k) + k := by rw [Nat.mul_add, Nat.mul_one]
      rw [List.take_of_length_le (by rw [hn.out]; exact Nat.le_refl _)] at hq hr
      rw [hq, hr] at HAVG
      have d1 : 0 ≤ r / (k : Int) := Int.ediv_nonneg b4 (by omega)
      have d2 : r / (k : Int) ≤ r := Int.ediv_le_self _ b4
      have d3 : r.tdiv (k : Int) = r / (k : Int) := Int.tdiv_eq_ediv_of_nonneg b4
      generalize eqx : r / (k : Int) = rq at *
      have HV : Hid (q + rq = a) := HAVG.out
      have e3 : -9223372036854775000 ≤ q + rq := by omega
      have e4 : q + rq ≤ 9223372036854775000 := by omega
      have e5 : rq ≤ 9223372036854775000 := by omega
      clear hq hr hql hrl hrn b1 b2 b3 b5 hA d2 HAVG
      have hqa : q + rq = a := HV.out
      rw [hqa] at e3 e4
      clear HV ha
      go_wp2_with fail
      clear hqa e5 d1 d3 eqx b4
      go_loopw [8] (fun c wr => ∃ i : Nat, i ≤ k ∧ c = .int .i64 i ∧ Rw wr g cap (mapTo (subM a) l i) ∧ Turn (fun b => b = g) w wr) (fun c _ => k - (intOf c).toNat)
      case atStart => exact ⟨0, by omega, rfl, by rw [mapTo_zero]; exact R, Turn.refl _ _⟩
      case round =>
        clear R
        obtain ⟨i, hi, rfl, R, T⟩ := hrel
        by_cases hlt2 : i < k
        · obtain ⟨m, hm⟩ : ∃ m, l[i]? = some m := ⟨l[i]'(by rw [hn.out]; exact hlt2), List.getElem?_eq_getElem _⟩
          have hlt2' : (i : Int) < (k : Int) := by omega
          obtain ⟨i1, i2⟩ := hd m (List.mem_of_getElem? hm)
          have R2 := R.set i m (mapTo_at _ l i m hm) (m.pr - a) (by omega)
          have hms := mapTo_succ (subM a) l i m hm
          rw [show subM a m = { m with pr := m.pr - a } from rfl] at hms
          rw [hms] at R2
          obtain ⟨c0, c1, c2⟩ := R.cells i m (mapTo_at _ l i m hm)
          have f2 := R.frozen (i * 3 + 2)
          have T2 := T.setCell (p := ⟨g, i * 3 + 2, none⟩) (fun _ => rfl) (.int .i64 (m.pr - a))
          have i2' : m.pr - a ≤ 9223372036854775807 := by omega
          clear hm R hms hd i2
          go_wp2_with fail
          go_roundw
          case rel => exact ⟨i + 1, by omega, by go_num, R2, T2⟩
          case measure => simp [intOf]; omega
        · have hkn : i = k := by omega
          subst hkn
          have hlt' : ¬ (i : Int) < (i : Int) := by omega
          rw [mapTo_all _ l i hn.out, ← hce.out] at R
          clear hd
          go_wp2_with fail
          go_end0
          exact ⟨rfl, R, T⟩
end Go.Proofs.Ytcmoocoklhjkfab
