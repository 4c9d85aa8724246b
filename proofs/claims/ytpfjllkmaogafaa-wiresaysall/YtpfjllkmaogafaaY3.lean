/- The document's Var. -/
import Derived.Test.YtpfjllkmaogafaaYn
namespace Go.Proofs.Ytpfjllkmaogafaa
open Go.RowKit
set_option linter.unusedVariables false

theorem vsize_step (bs : List UInt8) (j k : Nat) (hj : j < bs.length) : vsize k (bs.drop j) = if k = 9 ∧ 1 < (bs.getD j 0).toNat then (0, 11) else if 0 < k ∧ (bs.getD j 0).toNat = 0 then (0, 11) else if (bs.getD j 0).toNat < 128 then (k + 1, 0) else vsize (k + 1) (bs.drop (j + 1)) := by
  rw [List.drop_eq_getElem_cons hj, List.getD_eq_getElem?_getD, List.getElem?_eq_getElem hj]
  rfl
theorem vsize_none (bs : List UInt8) (j k : Nat) (hj : ¬ j < bs.length) : vsize k (bs.drop j) = (0, 10) := by
  rw [List.drop_eq_nil_of_le (by omega)]
  rfl
/-- One byte more of a Var: nothing is carried over. -/
theorem vstep (x t c k : Nat) (hk : k ≤ 9) (ht : t = 128 ^ k) (hx : x < t) (hc : c < 256) (h9 : k = 9 → c ≤ 1) :
    ∃ y, c % 128 * t = y ∧ x + y < 18446744073709551616 ∧ x < 9223372036854775808 + 1 ∧ y < 18446744073709551616 ∧ t ≤ 9223372036854775808 ∧ IntKind.u64.wrap ((c : Int) % 128 * (t : Int)) = (y : Int) ∧ (k < 9 → x + y < t * 128 ∧ t * 128 ≤ 9223372036854775808) := by
  have ht9 : t ≤ 9223372036854775808 := by
    have := Nat.pow_le_pow_right (show 0 < 128 by omega) hk
    rw [ht]
    exact Nat.le_trans this (by decide)
  have hy : c % 128 * t ≤ 127 * t := Nat.mul_le_mul_right _ (by omega)
  have hy9 : k = 9 → c % 128 * t ≤ 9223372036854775808 := fun q => by
    have h1 := h9 q
    have : c % 128 * t ≤ 1 * t := Nat.mul_le_mul_right _ (by omega)
    omega
  have ht8 : k < 9 → t ≤ 72057594037927936 := fun q => by
    have := Nat.pow_le_pow_right (show 0 < 128 by omega) (show k ≤ 8 by omega)
    rw [ht]
    exact Nat.le_trans this (by decide)
  have hyb : x + c % 128 * t < 18446744073709551616 := by
    by_cases q : k = 9
    · have := hy9 q; omega
    · have := ht8 (by omega); omega
  have he : (c : Int) % 128 * (t : Int) = ((c % 128 * t : Nat) : Int) := by simp
  generalize c % 128 * t = y at *
  refine ⟨y, rfl, hyb, by omega, by omega, ht9, ?_, fun q => by have := ht8 q; omega⟩
  rw [he, IntKind.wrap_u64]
  omega
set_option maxRecDepth 100000 in
set_option maxHeartbeats 4000000 in
theorem var73 (w : World) (q : Nat) (v : Value) (bs : List UInt8) (i : Nat) (h : Rq w q v bs i 0) (hle : bs.length ≤ 140737488355328) :
    Calls Try.prog 101 #[.pointer (some ⟨q, 0, none⟩)] w fun e w' => e = .returned (.int .u64 (rvar bs i).1) ∧ Rq w' q v bs (rvar bs i).2.1 (rvar bs i).2.2 ∧ Turn (fun k => k = q) w w' := by
  have Hc := shutX (fun W (t : Turn no w W) => And.intro (h.turn_no t).c0 (And.intro (h.turn_no t).c1 (And.intro (h.turn_no t).c2 (And.intro ((h.turn_no t).f 1) ((h.turn_no t).f 2)))))
  have HE := shutX (fun W (t : Turn no w W) (e : Int) => And.intro ((h.turn_no t).at2 e) ((t.of_no (S := fun k => k = q)).trans (set_turn W q 2 (.int .i64 e)) (fun _ _ q => q)))
  have HP := shutX (fun W (t : Turn no w W) (j : Nat) (hj : j ≤ bs.length) => And.intro ((h.turn_no t).at1 j hj) ((t.of_no (S := fun k => k = q)).trans (set_turn W q 1 (.int .i64 j)) (fun _ _ q => q)))
  have c2 := h.c2
  have hile := h.le
  obtain ⟨g, cap, rfl⟩ := h.nn
  have Hb := shutX (fun W (t : Turn no w W) (j : Nat) (hj : j < bs.length) => show W.cell? ⟨g, j, none⟩ = some (.int .u8 (bs.getD j 0).toNat) by
    have := (h.own.turn_no t).cell j (bv (bs.getD j 0)) (by rw [List.getElem?_map, List.getD_eq_getElem?_getD, List.getElem?_eq_getElem hj]; rfl)
    exact this)
  have HS := shutX (vsize_step bs)
  have HZ := shutX (vsize_none bs)
  have HV := shutX (vsum_succ bs i)
  have HR : Shut (∀ r, rvar bs i = r → r = if (vsize 0 (bs.drop i)).2 = 0 then (vsum (bs.drop i) (vsize 0 (bs.drop i)).1, i + (vsize 0 (bs.drop i)).1, 0) else (0, i, (vsize 0 (bs.drop i)).2)) := ⟨fun r hr => hr.symm⟩
  obtain ⟨N, hN⟩ : ∃ N, bs.length = N := ⟨_, rfl⟩
  rw [hN] at Hc HP HE Hb hile hle HS HZ ⊢
  have HN := shutX hN
  clear h hN
  go_enter Try.func101, Try.ntmps101
  go_wp2_with fail
  go_loopw [3, 4, 5] (fun n t c wr => ∃ (k x y : Nat), k ≤ 9 ∧ i + k ≤ N ∧ x = vsum (bs.drop i) k ∧ y = 128 ^ k ∧ x < y ∧ vsize 0 (bs.drop i) = vsize k (bs.drop (i + k)) ∧ n = .int .u64 x ∧ t = .int .u64 y ∧ c = .int .i64 k ∧ Turn no w wr) (fun _ _ c _ => 10 - (intOf c).toNat)
  case atStart => exact ⟨0, 0, 1, by omega, by omega, rfl, rfl, by omega, by rw [Nat.add_zero], rfl, rfl, rfl, Turn.refl _ _⟩
  case round =>
    obtain ⟨k, x, y, hk, hik, hx, hy, hxy, hv, rfl, rfl, rfl, T⟩ := hrel
    obtain ⟨x0, x1, x2, f1, f2⟩ := Hc.out wr T
    have HX := shutX (And.intro hx (And.intro hy hv))
    clear c2
    by_cases hlt : i + k < N
    · have cb := Hb.out wr T (i + k) hlt
      have hs := HS.out (i + k) k hlt
      rw [← hv] at hs
      have hvs := HV.out k
      have hc8 := (bs.getD (i + k) 0).toNat_lt
      have e1 : bs[i + k]?.getD 0 = bs.getD (i + k) 0 := (List.getD_eq_getElem?_getD ..).symm
      rw [e1] at hvs
      generalize (bs.getD (i + k) 0).toNat = c at *
      have Hs := shutX (And.intro hs hvs)
      clear hs hvs hx hv e1
      have hr := HR.out _ rfl
      have HR2 := shutX hr
      clear hr HR HS HZ HV Hb
      have hlt' : ¬ ((N : Int) ≤ (i : Int) + (k : Int)) := by omega
      have hd : decide ((N : Int) ≤ (i : Int) + (k : Int)) = false := by simpa using hlt'
      go_upto_region 7 with fail
      go_quiet (fail)
      have T0 : ∀ m, Turn no w (wr.drewN (nq + m)) := fun m => T.drewN _
      go_upto_region 10 with fail
      go_quiet (fail)
      have T1 := T0 nq
      clear x0 cb T0 T hlt' hd
      by_cases hA : k = 9 ∧ 1 < c
      · have HZ := shutX (Hs.out.1.trans (if_pos hA))
        obtain ⟨rfl, hc1⟩ := hA
        have hc1' : (1 : Int) < (c : Int) := by omega
        go_wp2_with fail
        go_ret
        rw [HR2.out, HZ.out]
        exact ⟨rfl, HE.out _ T1 11⟩
      · by_cases hB : 0 < k ∧ c = 0
        · have HZ := shutX ((Hs.out.1.trans (if_neg hA)).trans (if_pos hB))
          obtain ⟨hk0, rfl⟩ := hB
          have hk0' : (0 : Int) < (k : Int) := by omega
          by_cases h9 : k = 9
          · subst h9
            go_wp2_with fail
            go_ret
            rw [HR2.out, HZ.out]
            exact ⟨rfl, HE.out _ T1 11⟩
          · have h9' : ((k : Int) == 9) = false := by simp; omega
            go_wp2_with fail
            go_ret
            rw [HR2.out, HZ.out]
            exact ⟨rfl, HE.out _ T1 11⟩
        · have h91 : k = 9 → c ≤ 1 := fun q => by
            rcases Nat.lt_or_ge 1 c with r | r
            · exact (hA ⟨q, r⟩).elim
            · exact r
          obtain ⟨Y, hY, hxY, hxl, hYl, hyl, hwr, hfit⟩ := vstep x y c k hk hy hxy hc8 h91
          have HVS := shutX (show vsum (bs.drop i) (k + 1) = x + Y by rw [Hs.out.2, ← HX.out.1, ← HX.out.2.1, hY])
          clear hY
          by_cases hC : c < 128
          · have HZ := shutX (((Hs.out.1.trans (if_neg hA)).trans (if_neg hB)).trans (if_pos hC))
            have hC' : (c : Int) < 128 := by omega
            by_cases h0 : k = 0
            · subst h0
              clear hA hB h91 hfit hy
              go_wp2_with fail
              go_ret
              have hP := HP.out _ T1 (i + (0 + 1)) (by omega)
              rw [HR2.out, HZ.out]
              simp only [Int.natCast_add, Int.natCast_one, if_true] at hP ⊢
              rw [HVS.out]
              exact ⟨by simp, by simpa [Int.add_assoc] using hP⟩
            · have hk0' : (0 : Int) < (k : Int) := by omega
              have hc0 : ((c : Int) == 0) = false := by
                have : c ≠ 0 := fun q => hB ⟨by omega, q⟩
                simp; omega
              by_cases h9 : k = 9
              · subst h9
                have hc1 : ¬ (1 : Int) < (c : Int) := by have := h91 rfl; omega
                clear hA hB h91 hfit hy
                go_wp2_with fail
                go_ret
                have hP := HP.out _ T1 (i + (9 + 1)) (by omega)
                rw [HR2.out, HZ.out]
                simp only [Int.natCast_add, Int.natCast_one, if_true] at hP ⊢
                rw [HVS.out]
                exact ⟨by simp, by simpa [Int.add_assoc] using hP⟩
              · have h9' : ((k : Int) == 9) = false := by simp; omega
                clear hA hB h91 hfit hy
                go_wp2_with fail
                go_ret
                have hP := HP.out _ T1 (i + (k + 1)) (by omega)
                rw [HR2.out, HZ.out]
                simp only [Int.natCast_add, Int.natCast_one, if_true] at hP ⊢
                rw [HVS.out]
                exact ⟨by simp, by simpa [Int.add_assoc] using hP⟩
          · have HZ := shutX (((Hs.out.1.trans (if_neg hA)).trans (if_neg hB)).trans (if_neg hC))
            have hC' : ¬ (c : Int) < 128 := by omega
            have hc0 : ((c : Int) == 0) = false := by simp; omega
            have h9 : k < 9 := by
              rcases Nat.lt_or_ge k 9 with r | r
              · exact r
              · have := h91 (by omega); omega
            have h9' : ((k : Int) == 9) = false := by simp; omega
            have hf1 := hfit h9
            have hf2 : (y : Int) * 128 ≤ 9223372036854775808 := by omega
            clear hA hB h91 hy
            by_cases h0 : k = 0
            · subst h0
              go_wp2_with fail
              go_roundw
              case rel => exact ⟨0 + 1, x + Y, y * 128, by omega, by omega, HVS.out.symm, by rw [HX.out.2.1, Nat.pow_succ], (hfit (by omega)).1, HZ.out, by go_num, by go_num, by go_num, T1⟩
              case measure => simp [intOf] <;> omega
            · have hk0' : (0 : Int) < (k : Int) := by omega
              go_wp2_with fail
              go_roundw
              case rel => exact ⟨k + 1, x + Y, y * 128, by omega, by omega, HVS.out.symm, by rw [HX.out.2.1, Nat.pow_succ], (hfit (by omega)).1, HZ.out, by go_num, by go_num, by go_num, T1⟩
              case measure => simp [intOf] <;> omega
    · have hz := HZ.out (i + k) k hlt
      rw [← hv] at hz
      have hge : ¬ ((i : Int) + (k : Int) < (N : Int)) := by omega
      have hr := HR.out _ rfl
      rw [hz] at hr
      have HR2 := shutX hr
      clear hz hr hv hx hy
      go_upto_region 7 with fail
      go_quiet (fail)
      go_wp2_with fail
      go_ret
      rw [HR2.out]
      exact ⟨rfl, HE.out _ (T.drewN nq) 10⟩
end Go.Proofs.Ytpfjllkmaogafaa

