/- One turn of the document. -/
import Derived.Test.YtbhimedajfkioaaGd
namespace Go.Proofs.Ytbhimedajfkioaa
open Go.RowKit
set_option linter.unusedVariables false

theorem mapTo_get (f : Mb → Mb) (l : List Mb) (k j : Nat) (h : j < k) : (mapTo f l k)[j]? = (l.map f)[j]? := by
  unfold mapTo
  by_cases hj : j < l.length
  · rw [List.getElem?_append_left (by simp; omega), List.getElem?_map, List.getElem?_map, List.getElem?_take, if_pos h]
  · rw [List.getElem?_eq_none (by simp; omega), List.getElem?_eq_none (by simp; omega)]

theorem wrapI (x : Int) (h : -9223372036854775808 ≤ x) (h' : x < 9223372036854775808) : IntKind.i64.wrap x = x := by
  rw [IntKind.wrap_i64]
  omega

set_option maxRecDepth 100000 in
set_option maxHeartbeats 1000000 in
theorem once42 (w : World) (g cap t : Nat) (l : List Mb) (R : Rw w g cap l) (hin : InR t l) (ht : t ≤ 1152921504606846975) (h0 : 0 < l.length) :
    Calls Try.prog 72 #[.slice (some ⟨g, 0, none⟩) l.length cap, .int .i64 t] w fun e w' => e = .returned (.int .i64 (best (up t l))) ∧ Rw w' g cap (turnL t l) ∧ Turn (fun b => b = g) w w' := by
  have hle : l.length ≤ 9223372036854775807 := by have := R.le; have := R.most; simp only [maxLen] at this; omega
  have hul := up_len t l
  have hgw := R.lt
  obtain ⟨n, hn⟩ : ∃ n, Hid (l.length = n) := ⟨_, rfl⟩
  have hn' : l.length = n := hn.out
  rw [hn'] at hle h0 hul ⊢
  clear hn'
  have HBE : Hid (best (up t l) = bestN (up t l) n) := by show best (up t l) = _; unfold best; rw [hul]
  go_enter Try.func72, Try.ntmps72
  go_wp2_with fail
  go_loopw [5, 6] (fun x c wr => ∃ k : Nat, k ≤ n ∧ c = .int .i64 k ∧ x = .int .i64 (bestN (up t l) k) ∧ Rw wr g cap (mapTo (upM t) l k) ∧ Turn (fun b => b = g) w wr) (fun _ c _ => n - (intOf c).toNat)
  case atStart => exact ⟨0, by omega, rfl, rfl, by rw [mapTo_zero]; exact R, Turn.refl _ _⟩
  case round =>
    clear R
    obtain ⟨k, hk, rfl, rfl, R, T⟩ := hrel
    by_cases hlt : k < n
    · obtain ⟨m, hm⟩ : ∃ m, l[k]? = some m := ⟨l[k]'(by rw [hn.out]; exact hlt), List.getElem?_eq_getElem _⟩
      have hlt' : (k : Int) < (n : Int) := by omega
      obtain ⟨i1, i2, i3⟩ := hin m (List.mem_of_getElem? hm)
      have hgr := R.lt
      obtain ⟨X, hX⟩ : ∃ X : Int, Hid (min (m.pr + m.pw) (7 * (t : Int)) = X) := ⟨_, rfl⟩
      have hXb : -(7 * (t : Int)) ≤ X ∧ X ≤ 7 * t := by have := hX.out; omega
      have R2 := R.set k m (mapTo_at _ l k m hm) X (by omega)
      have hms := mapTo_succ (upM t) l k m hm
      rw [show upM t m = { m with pr := min (m.pr + m.pw) (7 * t) } from rfl, show min (m.pr + m.pw) (7 * (t : Int)) = X from hX.out] at hms
      rw [hms] at R2
      obtain ⟨c0, c1, c2⟩ := R.cells k m (mapTo_at _ l k m hm)
      have f2 := R.frozen (k * 3 + 2)
      have hbk := bestN_le (up t l) k
      have hxk : (mapTo (upM t) l (k + 1))[k]? = some { m with pr := X } := by
        rw [mapTo_get _ _ _ _ (by omega), List.getElem?_map, hm]
        simp [upM, hX.out]
      have hxu : (up t l)[k]? = some { m with pr := X } := by rw [up_map, ← mapTo_get _ _ (k + 1) _ (by omega)]; exact hxk
      obtain ⟨y, hy⟩ : ∃ y, (up t l)[bestN (up t l) k]? = some y := ⟨_, List.getElem?_eq_getElem (by rw [hul]; omega)⟩
      have hyk : (mapTo (upM t) l (k + 1))[bestN (up t l) k]? = some y := by rw [mapTo_get _ _ _ _ (by omega), ← up_map]; exact hy
      have HS : Hid (bestN (up t l) (k + 1) = if y.pr < X then k else bestN (up t l) k) := bestN_succ _ k _ y hxu hy
      obtain ⟨_, _, d2⟩ := R2.cells k _ hxk
      obtain ⟨_, _, e2⟩ := R2.cells _ y hyk
      have T2 := T.setCell (p := ⟨g, k * 3 + 2, none⟩) (fun _ => rfl) (.int .i64 X)
      have K1 : (wr.setCell ⟨g, k * 3 + 2, none⟩ (.int .i64 X)).cell? ⟨g, k * 3 + 1, none⟩ = some (.int .u64 m.pw) := (R2.cells k _ hxk).2.1
      have T3 : Turn (fun b => b = g) wr (wr.setCell ⟨g, k * 3 + 2, none⟩ (.int .i64 X)) := (Turn.refl (fun b => b = g) wr).setCell (p := ⟨g, k * 3 + 2, none⟩) (fun _ => rfl) _
      have hmin : (if 7 * (t : Int) < m.pr + (m.pw : Int) then 7 * (t : Int) else m.pr + m.pw) = X := by
        have := hX.out
        split <;> omega
      obtain ⟨bk, hbk'⟩ : ∃ bk, Hid (bestN (up t l) k = bk) := ⟨_, rfl⟩
      rw [show bestN (up t l) k = bk from hbk'.out] at hbk e2 HS ⊢
      have hbk2 : (bk : Int) < (n : Int) := by omega
      clear hm R hms hin hxk hxu hy hyk hul
      go_wp2_with fail
      refine wp_region_held_drew (S := fun W => Turn (fun b => b = g) wr W ∧ W.cell? ⟨g, k * 3 + 1, none⟩ = some (.int .u64 m.pw)) (by kernel_rfl) ⟨(Turn.refl _ wr).drew, c1⟩ (fun hHeld => ?_)
      refine' wpAnyH_take (i := 0) (v := .slice (some ⟨g, 0, none⟩) n cap) rfl (by kernel_rfl) (by kernel_rfl) (by kernel_rfl) (fun _ _ _ h => h) (Or.inl ⟨by kernel_rfl, fun W hW => ?y1⟩) hHeld ?r1
      · go_simp
      refine' wpAnyH_take (i := 1) (v := .int .i64 k) rfl (by kernel_rfl) (by kernel_rfl) (by kernel_rfl) (fun _ _ _ h => h) (Or.inl ⟨by kernel_rfl, fun W hW => ?y2⟩) hHeld ?r2
      · go_simp
      refine' wpAnyH_take (i := 2) (v := .slice (some ⟨g, 0, none⟩) n cap) rfl (by kernel_rfl) (by kernel_rfl) (by kernel_rfl) (fun _ _ _ h => h) (Or.inl ⟨by kernel_rfl, fun W hW => ?y3⟩) hHeld ?r3
      · go_simp
      refine' wpAnyH_take (i := 3) (v := .int .i64 k) rfl (by kernel_rfl) (by kernel_rfl) (by kernel_rfl) (fun _ _ _ h => h) (Or.inl ⟨by kernel_rfl, fun W hW => ?y4⟩) hHeld ?r4
      · go_simp
      refine' wpAnyH_take (i := 4) (v := .pointer (some ⟨g, k * 3, none⟩)) rfl (by kernel_rfl) (by kernel_rfl) (by kernel_rfl) (fun _ _ _ h => h) (Or.inl ⟨by kernel_rfl, fun W hW => ?y5⟩) hHeld ?r5
      · go_simp
      refine' wpAnyH_take (i := 5) (v := .pointer (some ⟨g, k * 3 + 2, none⟩)) rfl (by kernel_rfl) (by kernel_rfl) (by kernel_rfl) (fun _ _ _ h => h) (Or.inl ⟨by kernel_rfl, fun W hW => ?y6⟩) hHeld ?r6
      · go_simp
      refine' wpAnyH_take (i := 7) (v := .slice (some ⟨g, 0, none⟩) n cap) rfl (by kernel_rfl) (by kernel_rfl) (by kernel_rfl) (fun _ _ _ h => h) (Or.inl ⟨by kernel_rfl, fun W hW => ?y7⟩) hHeld ?r7
      · go_simp
      refine' wpAnyH_take (i := 8) (v := .int .i64 k) rfl (by kernel_rfl) (by kernel_rfl) (by kernel_rfl) (fun _ _ _ h => h) (Or.inl ⟨by kernel_rfl, fun W hW => ?y8⟩) hHeld ?r8
      · go_simp
      refine' wpAnyH_take (i := 9) (v := .pointer (some ⟨g, k * 3, none⟩)) rfl (by kernel_rfl) (by kernel_rfl) (by kernel_rfl) (fun _ _ _ h => h) (Or.inl ⟨by kernel_rfl, fun W hW => ?y9⟩) hHeld ?r9
      · go_simp
      refine' wpAnyH_take (i := 10) (v := .pointer (some ⟨g, k * 3 + 1, none⟩)) rfl (by kernel_rfl) (by kernel_rfl) (by kernel_rfl) (fun _ _ _ h => h) (Or.inl ⟨by kernel_rfl, fun W hW => ?y10⟩) hHeld ?r10
      · go_simp
      refine' wpAnyH_take (i := 11) (v := .int .u64 m.pw) rfl (by kernel_rfl) (by kernel_rfl) (by kernel_rfl) (fun _ _ _ h => h) (Or.inl ⟨by kernel_rfl, fun W hW => ?y11⟩) hHeld ?r11
      · have c := hW.2
        go_simp
      refine' wpAnyH_take (i := 12) (v := .int .i64 m.pw) rfl (by kernel_rfl) (by kernel_rfl) (by kernel_rfl) (fun _ _ _ h => h) (Or.inl ⟨by kernel_rfl, fun W hW => ?y12⟩) hHeld ?r12
      · go_simp
        exact wrapI _ (by omega) (by omega)
      refine' wpAnyH_take (i := 14) (v := .int .i64 t) rfl (by kernel_rfl) (by kernel_rfl) (by kernel_rfl) (fun _ _ _ h => h) (Or.inl ⟨by kernel_rfl, fun W hW => ?y13⟩) hHeld ?r13
      · go_simp
      refine' wpAnyH_take (i := 15) (v := .int .i64 (7 * (t : Int))) rfl (by kernel_rfl) (by kernel_rfl) (by kernel_rfl) (fun _ _ _ h => h) (Or.inl ⟨by kernel_rfl, fun W hW => ?y14⟩) hHeld ?r14
      · go_simp
        exact wrapI _ (by omega) (by omega)
      refine wpAnyH_ready (rs := [6]) (by kernel_rfl) (by simp) ?_
      refine AllReadyH.cons rfl (fun K hK => ?_) AllReadyH.nil
      go_simp
      refine hK.out _ _ ⟨(Turn.refl _ wr).drew, c1⟩ (fun hHeld => ?_)
      clear hK
      refine' wpAnyH_take (i := 13) (v := .int .i64 (m.pr + m.pw)) rfl (by kernel_rfl) (by kernel_rfl) (by kernel_rfl) (fun _ _ _ h => h) (Or.inl ⟨by kernel_rfl, fun W hW => ?y15⟩) hHeld ?r15
      · go_simp
        exact wrapI _ (by omega) (by omega)
      refine' wpAnyH_take (i := 16) (v := .int .i64 X) rfl (by kernel_rfl) (by kernel_rfl) (by kernel_rfl) (fun _ _ _ h => h) (Or.inl ⟨by kernel_rfl, fun W hW => ?y16⟩) hHeld ?r16
      · go_simp
      refine' wpAnyH_take (i := 17) (v := .pointer (some ⟨g, k * 3, none⟩)) rfl (by kernel_rfl) (by kernel_rfl) (by kernel_rfl) (fun _ _ _ h => h) (Or.inl ⟨by kernel_rfl, fun W hW => ?y17⟩) hHeld ?r17
      · go_simp
      refine' wpAnyH_take (i := 18) (v := .pointer (some ⟨g, k * 3 + 2, none⟩)) rfl (by kernel_rfl) (by kernel_rfl) (by kernel_rfl) (fun _ _ _ h => h) (Or.inl ⟨by kernel_rfl, fun W hW => ?y18⟩) hHeld ?r18
      · go_simp
      refine wpAnyH_ready (rs := [19]) (by kernel_rfl) (by simp) ?_
      refine AllReadyH.cons rfl (fun K hK => ?_) AllReadyH.nil
      go_simp
      refine hK.out _ _ ⟨T3.drew, K1⟩ (fun hHeld => ?_)
      clear hK
      refine wpAnyH_done (by kernel_rfl) ?_ _
      clear hHeld c0 c1 c2 f2 K1 T3 hmin hgr
      generalize wr.setCell ⟨g, k * 3 + 2, none⟩ (.int .i64 X) = w2 at *
      by_cases a1 : y.pr < X
      · have HS2 : Hid (bestN (up t l) (k + 1) = k) := by have := HS.out; rw [if_pos a1] at this; exact this
        clear HS
        go_wp2_with fail
        go_quiet (fail)
        go_wp2_with fail
        go_roundw
        case rel => exact ⟨k + 1, by omega, by go_num, by rw [HS2.out], R2.turn_no ((Turn.refl no w2).drewN _), T2.drewN _⟩
        case measure => simp [intOf]; omega
      · have HS2 : Hid (bestN (up t l) (k + 1) = bk) := by have := HS.out; rw [if_neg a1] at this; exact this
        clear HS
        go_wp2_with fail
        go_quiet (fail)
        go_wp2_with fail
        go_roundw
        case rel => exact ⟨k + 1, by omega, by go_num, by rw [HS2.out], R2.turn_no ((Turn.refl no w2).drewN _), T2.drewN _⟩
        case measure => simp [intOf]; omega
    · have hkn : k = n := by omega
      subst hkn
      have hlt' : ¬ (k : Int) < (k : Int) := by omega
      rw [mapTo_all _ l k hn.out, ← up_map] at R
      have hbl := best_lt (up t l) (by omega)
      have hiu := hin.up
      obtain ⟨x, hx⟩ : ∃ x, (up t l)[best (up t l)]? = some x := ⟨_, List.getElem?_eq_getElem hbl⟩
      obtain ⟨i1, i2, i3⟩ := hiu x (List.mem_of_getElem? hx)
      have HTL : Hid (turnL t l = (up t l).set (best (up t l)) { x with pr := max (x.pr - t) (-(7 * (t : Int))) }) := by
        show turnL t l = _
        unfold turnL
        simp [List.getD, hx, downM]
      rw [hul] at hbl
      rw [HBE.out] at hbl hx HTL
      obtain ⟨bb, hbb⟩ : ∃ bb, Hid (bestN (up t l) k = bb) := ⟨_, rfl⟩
      rw [show bestN (up t l) k = bb from hbb.out] at hbl hx HTL ⊢
      have hgr := R.lt
      have R2 := R.set bb x hx (max (x.pr - t) (-(7 * (t : Int)))) (by omega)
      rw [← HTL.out] at R2
      obtain ⟨c0, c1, c2⟩ := R.cells bb x hx
      have f2 := R.frozen (bb * 3 + 2)
      have T2 := T.setCell (p := ⟨g, bb * 3 + 2, none⟩) (fun _ => rfl) (.int .i64 (max (x.pr - t) (-(7 * (t : Int)))))
      have hbl' : (bb : Int) < (k : Int) := by omega
      clear hin hiu R hx HTL hul
      by_cases a1 : x.pr - (t : Int) < -(7 * (t : Int))
      · have e : max (x.pr - t) (-(7 * (t : Int))) = -(7 * (t : Int)) := by omega
        have a1' : x.pr - (t : Int) < -7 * (t : Int) := by omega
        rw [e] at R2 T2
        clear e
        go_wp2_with fail
        go_ret
        have e7 : -7 * (t : Int) = -(7 * (t : Int)) := by omega
        first | exact ⟨ret_i (by rw [HBE.out, hbb.out]), R2, T2⟩ | (rw [e7]; exact ⟨ret_i (by rw [HBE.out, hbb.out]), R2, T2⟩)
      · have e : max (x.pr - t) (-(7 * (t : Int))) = x.pr - t := by omega
        have a1' : ¬ x.pr - (t : Int) < -7 * (t : Int) := by omega
        rw [e] at R2 T2
        clear e
        go_wp2_with fail
        go_ret
        exact ⟨ret_i (by rw [HBE.out, hbb.out]), R2, T2⟩
end Go.Proofs.Ytbhimedajfkioaa
