/- The document's Power; same. -/
import Derived.Test.YtmfphlagpifkaaaG2
namespace Go.Proofs.Ytmfphlagpifkaaa
open Go.RowKit
set_option linter.unusedVariables false

theorem named_take (l : List Gu) (a j : Nat) (m : Gu) (h : l[j]? = some m) : named (l.take (j + 1)) a = (named (l.take j) a || ((m.ad : Int) == (a : Int))) := by
  rw [List.take_add_one, h]
  simp [named, List.any_append]
set_option maxRecDepth 100000 in
set_option maxHeartbeats 4000000 in
theorem rpower6 (w : World) (v u : Value) (M : List Mb) (l : List Gu) (hM : Ms w v M) (h : Gs w u l) : Calls Try.prog 6 #[.agg #[v], u] w fun e w' => e = .returned (.int .u64 (powE M l)) ∧ Turn no w w' := by
  have T0 : Turn no w (w.alloc (.cells #[v] 24)) := (Turn.refl no w).alloc _
  have R0 := Row.new w #[v] 24
  have S := rsound12 (w.alloc (.cells #[v] 24)) v M (hM.turn_no T0)
  obtain ⟨ad, cap, rfl, hM⟩ := hM
  have hcells := hM.cells
  have hle : M.length ≤ 9223372036854775807 := by have := hM.le; have := hM.cap; simp only [maxLen] at this; omega
  obtain ⟨ad2, cap2, rfl, h⟩ := h
  have gcells := h.cells
  have gle : l.length ≤ 9223372036854775807 := by have := h.le; have := h.cap; simp only [maxLen] at this; omega
  clear hM h
  obtain ⟨n, hn⟩ : ∃ n, Hid (M.length = n) := ⟨_, rfl⟩
  have hn' : M.length = n := hn.out
  obtain ⟨p, hp⟩ : ∃ p, Hid (l.length = p) := ⟨_, rfl⟩
  have hp' : l.length = p := hp.out
  rw [hn'] at hle R0 S T0 ⊢
  rw [hp'] at gle ⊢
  clear hn' hp'
  have HC := shut hcells
  have HG := shut gcells
  have HT0 := shut T0
  have HR0 := shut R0
  clear hcells T0 R0 gcells
  obtain ⟨w0, hw0⟩ : ∃ w0, w.alloc (.cells #[.slice ad n cap] 24) = w0 := ⟨_, rfl⟩
  rw [hw0] at HT0 HR0 S
  have y0 := HR0.out.cell 0 _ rfl
  go_enter Try.func6, Try.ntmps6
  go_upto_region 1 with fail
  try rw [hw0]
  clear hw0
  by_cases hs : soundE M = 0
  · have hpe : powE M l = psum M l := if_pos hs
    rw [hs] at S
    have HP := shut hpe
    clear hs hpe
    go_wp2_with (go_at_call 12; refine S.mono ?_; clear S; rintro e w1 ⟨rfl, t1⟩)
    have HT1 := shut (t1 : Turn no w0 w1)
    clear y0 t1
    go_loopw [6, 5, 7, 8] (fun c s c7 c8 wr => ∃ (k : Nat) (q : Int), k ≤ n ∧ c = .int .i64 k ∧ s = .int .u64 q ∧ Shut (q = psum (M.take k) l) ∧ Shut (Turn no w0 wr)) (fun c _ _ _ _ => n - (intOf c).toNat)
    case atStart => exact ⟨0, 0, by omega, rfl, rfl, rfl, HT1.out⟩
    case round =>
      obtain ⟨k, q, hk, rfl, rfl, HQ, HT⟩ := hrel
      obtain ⟨wo, hwo⟩ : ∃ wo, wo = wr := ⟨_, rfl⟩
      rw [← hwo] at HT ⊢
      clear hwo wr
      have y0 := HT.out.keep (HR0.out.cell 0 _ rfl) (fun q => q)
      by_cases hlt : k < n
      · obtain ⟨m, hm⟩ : ∃ m, M[k]? = some m := ⟨M[k]'(by rw [hn.out]; exact hlt), List.getElem?_eq_getElem _⟩
        obtain ⟨b, off, rfl, c0, c1, c2⟩ := HC.out k m hm
        have hlt' : (k : Int) < (n : Int) := by omega
        have HS : Shut (psum (M.take (k + 1)) l = stepP l q m) := by show _ = _; rw [psum_take M l k m hm, HQ.out]
        have HC0 := shut c0
        have HC1 := shut c1
        clear hm c0 c1 c2
        go_wp2_with fail
        clear y0
        go_loopw [8, 7] (fun c s wr => ∃ (j : Nat) (nm : Bool), j ≤ p ∧ c = .int .i64 j ∧ s = .bool nm ∧ Shut (nm = named (l.take j) m.ad) ∧ Shut (Turn no w0 wr)) (fun c _ _ => p - (intOf c).toNat)
        case atStart => exact ⟨0, false, by omega, rfl, rfl, rfl, HT.out⟩
        case round =>
          obtain ⟨j, nm, hj, rfl, rfl, HN, HTJ⟩ := hrel
          have y0 := HTJ.out.keep (HR0.out.cell 0 _ rfl) (fun q => q)
          have TT := HT0.out.then_no HTJ.out
          by_cases hjp : j < p
          · obtain ⟨x, hx⟩ : ∃ x, l[j]? = some x := ⟨l[j]'(by rw [hp.out]; exact hjp), List.getElem?_eq_getElem _⟩
            obtain ⟨b2, off2, rfl, r2⟩ := HG.out j x hx
            have z0 := TT.keep (r2 0 (.int .u64 x.ad) rfl) (fun q => q)
            have z1 := TT.keep HC0.out (fun q => q)
            rw [Nat.add_zero] at z0
            have hjp' : (j : Int) < (p : Int) := by omega
            have HN2 : Shut (named (l.take (j + 1)) m.ad = (nm || ((x.ad : Int) == (m.ad : Int)))) := by show _ = _; rw [named_take l m.ad j x hx, HN.out]
            clear hx r2 TT
            cases nm with
            | true =>
              go_wp2_with fail
              go_quiet (fail)
              go_wp2_with fail
              go_roundw
              case rel => exact ⟨j + 1, true, by omega, by go_num, rfl, by show _ = _; rw [HN2.out]; rfl, HTJ.out.drewN _⟩
              case measure => simp [intOf]; omega
            | false =>
              go_wp2_with fail
              go_quiet (fail)
              go_wp2_with fail
              go_roundw
              case rel => exact ⟨j + 1, _, by omega, by go_num, rfl, by show _ = _; rw [HN2.out]; rfl, HTJ.out.drewN _⟩
              case measure => simp [intOf]; omega
          · have hkn : j = p := by omega
            have hjp' : ¬ (j : Int) < (p : Int) := by omega
            have HB : Shut (named l m.ad = nm) := by show _ = _; rw [HN.out, List.take_of_length_le (by rw [hp.out]; omega)]
            have z1 := TT.keep HC1.out (fun q => q)
            clear hkn
            cases nm with
            | true =>
              have ha := addP_eq q m.pw
              have HA : Shut (stepP l q m = addP q m.pw) := by show _ = _; unfold stepP; rw [HB.out]; rfl
              generalize addP q m.pw = q2 at *
              go_wp2_with fail
              go_roundw
              case rel => exact ⟨k + 1, q2, by omega, by go_num, rfl, by show _ = _; rw [HS.out, HA.out], HTJ.out⟩
              case measure => simp [intOf]; omega
            | false =>
              have HA : Shut (stepP l q m = q) := by show _ = _; unfold stepP; rw [HB.out]; rfl
              go_wp2_with fail
              go_roundw
              case rel => exact ⟨k + 1, q, by omega, by go_num, rfl, by show _ = _; rw [HS.out, HA.out], HTJ.out⟩
              case measure => simp [intOf]; omega
      · have hkn : k = n := by omega
        have hlt' : ¬ (k : Int) < (n : Int) := by omega
        have HE : Shut (q = powE M l) := by show _ = _; rw [HQ.out, HP.out, List.take_of_length_le (by rw [hn.out]; omega)]
        clear hkn
        go_wp2_with fail
        go_ret
        exact ⟨by rw [← HE.out]; rfl, HT0.out.then_no HT.out⟩
  · have hp : powE M l = 0 := if_neg hs
    have HP := shut hp
    clear hp
    generalize soundE M = e0 at *
    have hne : (e0 != 0) = true := by simpa using hs
    go_wp2_with (go_at_call 12; refine S.mono ?_; clear S; rintro e w1 ⟨rfl, t1⟩)
    go_ret
    exact ⟨by rw [HP.out]; rfl, HT0.out.then_no t1⟩
end Go.Proofs.Ytmfphlagpifkaaa
