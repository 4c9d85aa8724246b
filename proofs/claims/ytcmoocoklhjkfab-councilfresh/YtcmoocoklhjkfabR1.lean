/- average, centre of the program. -/
import Derived.Test.YtcmoocoklhjkfabR0
import Derived.Test.YtcmoocoklhjkfabD2
namespace Go.Proofs.Ytcmoocoklhjkfab
open Go.RowKit
set_option linter.unusedVariables false

theorem kQ_le (B n k : Nat) (hk : k ≤ n) : k * (B / n) ≤ B := Nat.le_trans (Nat.mul_le_mul_right _ hk) (Nat.mul_div_le B n)

set_option maxRecDepth 100000 in
set_option maxHeartbeats 1000000 in
theorem average46 (w : World) (v : Value) (l : List Mb) (h : Ms w v l) (h0 : 0 < l.length) (h64 : l.length ≤ 64) (hA : Abs 8070450532247928832 l) : Calls Try.prog 46 #[v] w fun e w' => e = .returned (.int .i64 (sumP l / l.length)) ∧ Turn no w w' := by
  have havg := avg_prog (l.length : Int) (by omega) l
  obtain ⟨a, cap, rfl, h⟩ := h
  have hcells := h.cells
  clear h
  obtain ⟨n, hn⟩ : ∃ n, Hid (l.length = n) := ⟨_, rfl⟩
  have hn' : l.length = n := hn.out
  rw [hn'] at h0 h64 havg ⊢
  have HAVG : Hid (qS n l + (rS n l).tdiv n + (if (rS n l).tmod n < 0 then -1 else 0) = sumP l / n) := havg
  have hql := fun k => qS_abs 8070450532247928832 n h0 (l.take k) (hA.take k)
  have hrl := fun k => rS_abs n h0 h64 (l.take k)
  clear hn' havg
  have hn0 : ¬ (n : Int) = 0 := by omega
  have hn1 : (n : Int) ≤ 64 := by omega
  go_enter Try.func46, Try.ntmps46
  go_wp2_with fail
  go_loopw [4, 5, 13] (fun x y c wr => ∃ (k : Nat) (q r : Int), k ≤ n ∧ c = .int .i64 k ∧ x = .int .i64 q ∧ y = .int .i64 r ∧ qS n (l.take k) = q ∧ rS n (l.take k) = r ∧ Turn no w wr) (fun _ _ c _ => n - (intOf c).toNat)
  case atStart => exact ⟨0, 0, 0, by omega, rfl, rfl, rfl, by simp [qS], by simp [rS], Turn.refl _ _⟩
  case round =>
    obtain ⟨k, q, r, hk, rfl, rfl, rfl, hq, hr, T⟩ := hrel
    by_cases hlt : k < n
    · obtain ⟨m, hm⟩ : ∃ m, l[k]? = some m := ⟨l[k]'(by rw [hn.out]; exact hlt), List.getElem?_eq_getElem _⟩
      obtain ⟨b, off, rfl, c0, c1, c2⟩ := hcells k m hm
      have c0 := T.keep c0 (fun q => q)
      have c1 := T.keep c1 (fun q => q)
      have c2 := T.keep c2 (fun q => q)
      have hlt' : (k : Int) < (n : Int) := by omega
      have TA : ∀ o : Obj, Turn no w (wr.alloc o) := fun o => T.alloc o
      have HQ : Hid (qS n (l.take (k + 1)) = q + m.pr.tdiv n) := by show _ = _; rw [qS_take_succ n l k m hm, hq]
      have HR : Hid (rS n (l.take (k + 1)) = r + m.pr.tmod n) := by show _ = _; rw [rS_take_succ n l k m hm, hr]
      have ha := hA m (List.mem_of_getElem? hm)
      have b1 := hql (k + 1)
      have b2 := hrl (k + 1)
      rw [HQ.out, List.length_take, hn.out, Nat.min_eq_left (by omega)] at b1
      rw [HR.out, List.length_take, hn.out, Nat.min_eq_left (by omega)] at b2
      have b3 := kQ_le 8070450532247928832 n (k + 1) (by omega)
      have d1 : (m.pr.tdiv n).natAbs ≤ m.pr.natAbs := by rw [Int.natAbs_tdiv]; exact Nat.div_le_self _ _
      have d2 := tmod_lt m.pr n (by omega)
      generalize eqx : m.pr.tdiv (n : Int) = qx at *
      generalize erx : m.pr.tmod (n : Int) = rx at *
      have e1 : -9223372036854775808 ≤ qx := by omega
      have e2 : qx ≤ 9223372036854775807 := by omega
      have e3 : -9223372036854775808 ≤ q + qx := by omega
      have e4 : q + qx ≤ 9223372036854775807 := by omega
      have e5 : -4096 ≤ r + rx := by omega
      have e6 : r + rx ≤ 4096 := by omega
      clear hcells hm hq hr hql hrl b1 b2 b3 ha hA
      go_wp2_with fail
      go_roundw
      case rel => exact ⟨k + 1, q + qx, r + rx, by omega, by go_num, rfl, rfl, by rw [HQ.out], by rw [HR.out], TA _⟩
      case measure => simp [intOf]; omega
    · have hkn : k = n := by omega
      subst hkn
      have hlt' : ¬ (k : Int) < (k : Int) := by omega
      have b1 := hql k
      have b2 := hrl k
      rw [hq, List.length_take, hn.out, Nat.min_self] at b1
      rw [hr, List.length_take, hn.out, Nat.min_self] at b2
      have b3 := kQ_le 8070450532247928832 k k (Nat.le_refl _)
      rw [List.take_of_length_le (by rw [hn.out]; exact Nat.le_refl _)] at hq hr
      rw [hq, hr] at HAVG
      have d1 : (r.tdiv k).natAbs ≤ r.natAbs := by rw [Int.natAbs_tdiv]; exact Nat.div_le_self _ _
      generalize eqx : r.tdiv (k : Int) = rq at *
      generalize erx : r.tmod (k : Int) = rm at *
      have e3 : -9223372036854775000 ≤ q + rq := by omega
      have e4 : q + rq ≤ 9223372036854775000 := by omega
      have e1 : -9223372036854775000 ≤ rq := by omega
      have e2 : rq ≤ 9223372036854775000 := by omega
      clear hcells hq hr hql hrl b1 b2 b3 hA d1
      by_cases a1 : rm < 0
      · have HV : Hid (q + rq - 1 = sumP l / k) := by
          have := HAVG.out
          rw [if_pos a1] at this
          show _ = _
          omega
        clear HAVG
        go_wp2_with fail
        go_ret
        exact ⟨ret_i HV.out, T⟩
      · have HV : Hid (q + rq = sumP l / k) := by
          have := HAVG.out
          rw [if_neg a1] at this
          show _ = _
          omega
        clear HAVG
        go_wp2_with fail
        go_ret
        exact ⟨ret_i HV.out, T⟩

/-- What an average of priorities is. -/
theorem avg_between (l : List Mb) (lo hi : Int) (h0 : 0 < l.length) (h : ∀ m ∈ l, lo ≤ m.pr ∧ m.pr ≤ hi) : lo ≤ sumP l / l.length ∧ sumP l / l.length ≤ hi := by
  have key : ∀ r : List Mb, (∀ m ∈ r, lo ≤ m.pr ∧ m.pr ≤ hi) → lo * r.length ≤ sumP r ∧ sumP r ≤ hi * r.length := by
    intro r
    induction r with
    | nil => intro _; simp [sumP]
    | cons m r ih =>
      intro hr
      have h1 := ih (fun x hx => hr x (by simp [hx]))
      have h2 := hr m (by simp)
      simp only [sumP, List.length_cons, Int.natCast_add, Int.mul_add]
      constructor
      · have : lo * ((1 : Nat) : Int) = lo := by simp
        omega
      · have : hi * ((1 : Nat) : Int) = hi := by simp
        omega
  obtain ⟨k1, k2⟩ := key l h
  have hp : (0 : Int) < (l.length : Int) := by omega
  constructor
  · exact (Int.le_ediv_iff_mul_le hp).2 k1
  · have := Int.ediv_le_ediv hp k2
    rwa [Int.mul_ediv_cancel _ (by omega)] at this

set_option maxRecDepth 100000 in
set_option maxHeartbeats 1000000 in
theorem centre35 (w : World) (g cap : Nat) (l : List Mb) (R : Rw w g cap l) (h0 : 0 < l.length) (h64 : l.length ≤ 64) (hA : Abs 8070450532247928832 l) (hd : ∀ m ∈ l, -9223372036854775808 ≤ m.pr - sumP l / l.length ∧ m.pr - sumP l / l.length < 9223372036854775808) :
    Calls Try.prog 35 #[.slice (some ⟨g, 0, none⟩) l.length cap] w fun e w' => e = .returned (.tuple #[]) ∧ Rw w' g cap (cent l) ∧ Turn (fun b => b = g) w w' := by
  have hav := average46 w (.slice (some ⟨g, 0, none⟩) l.length cap) l ⟨_, cap, rfl, R.at⟩ h0 h64 hA
  obtain ⟨a, ha⟩ : ∃ a, Hid (sumP l / l.length = a) := ⟨_, rfl⟩
  have hce : Hid (cent l = l.map (subM a)) := by show cent l = _; rw [cent, ha.out]
  rw [show sumP l / l.length = a from ha.out] at hav hd
  obtain ⟨n, hn⟩ : ∃ n, Hid (l.length = n) := ⟨_, rfl⟩
  have hn' : l.length = n := hn.out
  rw [hn'] at h0 h64 hav ⊢
  clear hn'
  go_enter Try.func35, Try.ntmps35
  go_wp2_with fail
  refine hav.mono ?_
  rintro e w1 ⟨rfl, T1⟩
  have R1 := R.turn_no T1
  clear hav R
  go_wp2_with fail
  go_loopw [8] (fun c wr => ∃ k : Nat, k ≤ n ∧ c = .int .i64 k ∧ Rw wr g cap (mapTo (subM a) l k) ∧ Turn (fun b => b = g) w wr) (fun c _ => n - (intOf c).toNat)
  case atStart => exact ⟨0, by omega, rfl, by rw [mapTo_zero]; exact R1, T1.of_no⟩
  case round =>
    clear R1
    obtain ⟨k, hk, rfl, R, T⟩ := hrel
    by_cases hlt : k < n
    · obtain ⟨m, hm⟩ : ∃ m, l[k]? = some m := ⟨l[k]'(by rw [hn.out]; exact hlt), List.getElem?_eq_getElem _⟩
      have hlt' : (k : Int) < (n : Int) := by omega
      obtain ⟨i1, i2⟩ := hd m (List.mem_of_getElem? hm)
      have R2 := R.set k m (mapTo_at _ l k m hm) (m.pr - a) (by omega)
      have hms := mapTo_succ (subM a) l k m hm
      rw [show subM a m = { m with pr := m.pr - a } from rfl] at hms
      rw [hms] at R2
      obtain ⟨c0, c1, c2⟩ := R.cells k m (mapTo_at _ l k m hm)
      have f2 := R.frozen (k * 3 + 2)
      have T2 := T.setCell (p := ⟨g, k * 3 + 2, none⟩) (fun _ => rfl) (.int .i64 (m.pr - a))
      have i2' : m.pr - a ≤ 9223372036854775807 := by omega
      clear hm R hms hd hA i2
      go_wp2_with fail
      go_roundw
      case rel => exact ⟨k + 1, by omega, by go_num, R2, T2⟩
      case measure => simp [intOf]; omega
    · have hkn : k = n := by omega
      subst hkn
      have hlt' : ¬ (k : Int) < (k : Int) := by omega
      rw [mapTo_all _ l k hn.out, ← hce.out] at R
      clear hd hA
      go_wp2_with fail
      go_end0
      exact ⟨rfl, R, T⟩
end Go.Proofs.Ytcmoocoklhjkfab
