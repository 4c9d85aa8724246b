/- drawTogether of the program. -/
import Derived.Test.YtcmoocoklhjkfabR1
namespace Go.Proofs.Ytcmoocoklhjkfab
open Go.RowKit
set_option linter.unusedVariables false

theorem hiK_succ (l : List Mb) (k : Nat) (m : Mb) (h : l[k]? = some m) : hiK l (k + 1) = max (hiK l k) m.pr ∧ loK l (k + 1) = min (loK l k) m.pr := by
  rw [hiK, loK, getD_some h]
  exact ⟨rfl, rfl⟩
theorem hiK_abs (B : Nat) (l : List Mb) (h : Abs B l) (k : Nat) (h0 : 0 < l.length) (hk : k ≤ l.length) : (hiK l k).natAbs ≤ B ∧ (loK l k).natAbs ≤ B := by
  obtain ⟨⟨a, ha, ea⟩, b, hb, eb⟩ := hiK_mem l k h0 hk
  rw [ea, eb]
  exact ⟨h a ha, h b hb⟩
theorem lo_le_hi (l : List Mb) (k : Nat) : loK l k ≤ hiK l k := by
  induction k with
  | zero => rw [hiK, loK]; omega
  | succ k ih => rw [hiK, loK]; omega

theorem apart_wrap (hi lo : Int) (d : Nat) (h : lo ≤ hi) (hd : d = (hi - lo).toNat) (hb : d < 18446744073709551616) : IntKind.u64.wrap (IntKind.u64.wrap hi - IntKind.u64.wrap lo) = (d : Int) := by
  simp only [IntKind.wrap_u64]
  omega

set_option maxRecDepth 100000 in
set_option maxHeartbeats 1000000 in
theorem draw34 (w : World) (g cap t2 : Nat) (l : List Mb) (R : Rw w g cap l) (h0 : 0 < l.length) (h64 : l.length ≤ 64) (hA : Abs 8070450532247928832 l) (ht : 1 < t2) (ht2 : t2 ≤ 2305843009213693950) :
    Calls Try.prog 34 #[.slice (some ⟨g, 0, none⟩) l.length cap, .int .u64 t2] w fun e w' => e = .returned (.tuple #[]) ∧ Rw w' g cap (narr t2 l) ∧ Turn (fun b => b = g) w w' := by
  obtain ⟨z, hz⟩ : ∃ z, l[0]? = some z := ⟨l[0], List.getElem?_eq_getElem h0⟩
  obtain ⟨_, _, cz⟩ := R.cells 0 z hz
  simp only [Nat.zero_mul, Nat.zero_add] at cz
  have hz0 : hiK l 0 = z.pr := by rw [hiK, getD_some hz]
  have hz1 : loK l 0 = z.pr := by rw [loK, getD_some hz]
  have hHA := fun k hk => hiK_abs 8070450532247928832 l hA k h0 hk
  have hLH := fun k => lo_le_hi l k
  have hap : apartN l = (hiK l l.length - loK l l.length).toNat := rfl
  obtain ⟨n, hn⟩ : ∃ n, Hid (l.length = n) := ⟨_, rfl⟩
  have hn' : l.length = n := hn.out
  rw [hn'] at h0 h64 hap hHA ⊢
  clear hn'
  have h0' : (0 : Int) < (n : Int) := by omega
  have H00 : Hid (hiK l 0 = z.pr ∧ loK l 0 = z.pr) := ⟨hz0, hz1⟩
  have HAP : Hid (apartN l = (hiK l n - loK l n).toNat) := hap
  clear hz0 hz1 hap hz
  go_enter Try.func34, Try.ntmps34
  go_wp2_with fail
  go_quiet (fail)
  go_wp2_with fail
  go_loopw [4, 5, 21] (fun x y c wr => ∃ k : Nat, k ≤ n ∧ c = .int .i64 k ∧ x = .int .i64 (loK l k) ∧ y = .int .i64 (hiK l k) ∧ Turn no w wr) (fun _ _ c _ => n - (intOf c).toNat)
  case atStart => exact ⟨0, by omega, rfl, by rw [H00.out.2], by rw [H00.out.1], (Turn.refl no w).drewN _⟩
  case round =>
    obtain ⟨k, hk, rfl, rfl, rfl, T⟩ := hrel
    by_cases hlt : k < n
    · obtain ⟨m, hm⟩ : ∃ m, l[k]? = some m := ⟨l[k]'(by rw [hn.out]; exact hlt), List.getElem?_eq_getElem _⟩
      obtain ⟨c0, c1, c2⟩ := (R.turn_no T).cells k m hm
      have hlt' : (k : Int) < (n : Int) := by omega
      have TA : ∀ o : Obj, Turn no w (wr.alloc o) := fun o => T.alloc o
      have HS : Hid (hiK l (k + 1) = max (hiK l k) m.pr ∧ loK l (k + 1) = min (loK l k) m.pr) := hiK_succ l k m hm
      have hlh := hLH k
      generalize hiK l k = hi at *
      generalize loK l k = lo at *
      clear hm hA R hHA hLH cz H00
      rcases (show m.pr < lo ∧ ¬ hi < m.pr ∨ ¬ m.pr < lo ∧ hi < m.pr ∨ ¬ m.pr < lo ∧ ¬ hi < m.pr by omega) with ⟨a1, a2⟩ | ⟨a1, a2⟩ | ⟨a1, a2⟩
      all_goals
        go_wp2_with fail
        go_quiet (fail)
        go_wp2_with fail
        go_roundw
        case rel => exact ⟨k + 1, by omega, by go_num, by rw [HS.out.2]; go_num, by rw [HS.out.1]; go_num, (TA _).drewN _⟩
        case measure => simp [intOf]; omega
    · have hkn : k = n := by omega
      subst hkn
      have hlt' : ¬ (k : Int) < (k : Int) := by omega
      obtain ⟨a1, a2⟩ := hHA k (Nat.le_refl _)
      have hlh := hLH k
      have R1 := R.turn_no T
      obtain ⟨d, hd⟩ : ∃ d, Hid (apartN l = d) := ⟨_, rfl⟩
      have hdd : d = (hiK l k - loK l k).toNat := by rw [← hd.out]; exact HAP.out
      have hwr := apart_wrap (hiK l k) (loK l k) d hlh hdd (by omega)
      have hnr : Hid (narr t2 l = if d ≤ t2 then l else l.map (divM (rN d t2))) := by show narr t2 l = _; rw [narr, hd.out]
      have hdb : d ≤ 16140901064495857664 := by omega
      clear HAP
      generalize hiK l k = hi at *
      generalize loK l k = lo at *
      clear hdd hHA hLH H00 cz a1 a2 hlh
      by_cases a3 : d ≤ t2
      · have a3' : (d : Int) ≤ (t2 : Int) := by omega
        have HN : Hid (narr t2 l = l) := by show narr t2 l = l; rw [hnr.out, if_pos a3]
        clear hnr hA
        go_wp2_with fail
        first | go_end0 | refine bodyPost_ret (results_none rfl _ _ _) rfl ?_
        exact ⟨rfl, by rw [HN.out]; exact R1, T.of_no⟩
      · have a3' : ¬ (d : Int) ≤ (t2 : Int) := by omega
        have HN : Hid (narr t2 l = l.map (divM (rN d t2))) := by show narr t2 l = _; rw [hnr.out, if_neg a3]
        clear hnr
        obtain ⟨rr, hrr⟩ : ∃ rr, Hid (rN d t2 = rr) := ⟨_, rfl⟩
        rw [show rN d t2 = rr from hrr.out] at HN
        have hr0 : (d - 1) / t2 + 1 = rr := hrr.out
        have hr1 : ((d : Int) - 1) / (t2 : Int) + 1 = (rr : Int) := by
          rw [← hr0, Int.natCast_add, Int.natCast_ediv, Int.natCast_sub (by omega)]
          rfl
        have hrb : rr ≤ 8070450532247928833 := by
          have : (d - 1) / t2 ≤ (d - 1) / 2 := Nat.div_le_div_left (by omega) (by decide)
          omega
        have hr2 : (rr : Int) ≤ 8070450532247928833 := by omega
        have hr5 : 1 ≤ rr := by rw [← hr0]; exact Nat.le_add_left _ _
        have hr3 : ¬ (rr : Int) = 0 := by omega
        have ht3 : ¬ (t2 : Int) = 0 := by omega
        have hd1 : (1 : Int) ≤ (d : Int) := by omega
        have hd2 : (d : Int) ≤ 16140901064495857664 := by omega
        have hr4 : ((d : Int) - 1) / (t2 : Int) = (rr : Int) - 1 := by rw [← hr1]; exact (Int.add_sub_cancel _ _).symm
        clear hrr hr0 hr1
        go_wp2_with fail
        clear hr4 hwr hd1 hd2 ht3
        go_loopw [50] (fun c wr => ∃ i : Nat, i ≤ k ∧ c = .int .i64 i ∧ Rw wr g cap (mapTo (divM rr) l i) ∧ Turn (fun b => b = g) w wr) (fun c _ => k - (intOf c).toNat)
        case atStart => exact ⟨0, by omega, rfl, by rw [mapTo_zero]; exact R1, T.of_no⟩
        case round =>
          clear R1 T
          obtain ⟨i, hi, rfl, R, T⟩ := hrel
          by_cases hlt2 : i < k
          · obtain ⟨m, hm⟩ : ∃ m, l[i]? = some m := ⟨l[i]'(by rw [hn.out]; exact hlt2), List.getElem?_eq_getElem _⟩
            have hlt2' : (i : Int) < (k : Int) := by omega
            have ha := hA m (List.mem_of_getElem? hm)
            have d1 : (m.pr.tdiv rr).natAbs ≤ m.pr.natAbs := by rw [Int.natAbs_tdiv]; exact Nat.div_le_self _ _
            have R2 := R.set i m (mapTo_at _ l i m hm) (m.pr.tdiv rr) (by omega)
            have hms := mapTo_succ (divM rr) l i m hm
            rw [show divM rr m = { m with pr := m.pr.tdiv rr } from rfl] at hms
            rw [hms] at R2
            obtain ⟨c0, c1, c2⟩ := R.cells i m (mapTo_at _ l i m hm)
            have f2 := R.frozen (i * 3 + 2)
            have T2 := T.setCell (p := ⟨g, i * 3 + 2, none⟩) (fun _ => rfl) (.int .i64 (m.pr.tdiv rr))
            generalize eqx : m.pr.tdiv (rr : Int) = qx at *
            have e1 : -9223372036854775808 ≤ qx := by omega
            have e2 : qx ≤ 9223372036854775807 := by omega
            clear hm R hms hA d1 ha
            go_wp2_with fail
            go_roundw
            case rel => exact ⟨i + 1, by omega, by go_num, R2, T2⟩
            case measure => simp [intOf]; omega
          · have hkn : i = k := by omega
            subst hkn
            have hlt' : ¬ (i : Int) < (i : Int) := by omega
            rw [mapTo_all _ l i hn.out, ← HN.out] at R
            clear hA
            go_wp2_with fail
            go_end0
            exact ⟨rfl, R, T⟩
end Go.Proofs.Ytcmoocoklhjkfab
