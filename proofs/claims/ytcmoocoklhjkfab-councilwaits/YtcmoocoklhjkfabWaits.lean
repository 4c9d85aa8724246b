/- CouncilWaits: the walk and the row. -/
import Derived.Test.YtcmoocoklhjkfabBounds
import Derived.Test.YtcmoocoklhjkfabQ2
namespace Go.Proofs.Ytcmoocoklhjkfab
open Go.ChangeShapes Go.WideShapes Go.ChangeAt Go.RowKit Go.Joins Go.Deep
set_option linter.unusedVariables false

theorem xor_not (x : Nat) (hx : x < 18446744073709551616) : 18446744073709551615 ^^^ x = 18446744073709551615 - x := by
  apply Nat.eq_of_testBit_eq
  intro i
  have h1 : (18446744073709551615 : Nat).testBit i = decide (i < 64) := by
    rw [show (18446744073709551615 : Nat) = 2 ^ 64 - 1 from rfl, Nat.testBit_two_pow_sub_one]
  rw [Nat.testBit_xor, h1]
  by_cases hi : i < 64
  · rw [bit_not x i hx hi]
    simp [hi]
  · rw [Nat.testBit_lt_two_pow (Nat.lt_of_lt_of_le hx (Nat.pow_le_pow_right (n := 2) (i := 64) (by decide) (by omega))), Nat.testBit_lt_two_pow (Nat.lt_of_lt_of_le (show 18446744073709551615 - x < 18446744073709551616 by omega) (Nat.pow_le_pow_right (n := 2) (i := 64) (by decide) (by omega)))]
    simp [hi]
theorem not_u64 (x : Nat) (hx : x < 18446744073709551616) : bits BinOp.xor IntKind.u64 IntKind.u64.max (x : Int) = ((18446744073709551615 - x : Nat) : Int) := by
  have h := bits_xor_u64_nat 18446744073709551615 x (by decide) hx
  rw [xor_not x hx] at h
  exact h
/-- Who is chosen, and where he stands. -/
theorem prop_idx (y : List Mb) (hw : weighE y = 0) (i : Nat) : idxE y (propN (tot y) y i) = ch y i := by
  have hl := ch_lt hw i
  obtain ⟨m, hm⟩ : ∃ m, y[ch y i]? = some m := ⟨_, List.getElem?_eq_getElem hl⟩
  have hk := turns_keys (tot y) y (i + 1)
  obtain ⟨z, hz, e1, _⟩ := keys_get hk.symm (ch y i) m hm
  have e : propN (tot y) y i = m.ad := by
    unfold propN
    rw [show best (up (tot y) (turnsN (tot y) y i)) = ch y i from rfl, List.getD, hz]
    simp [e1]
  rw [e]
  exact idx_at y (weigh_rising y hw) _ m hm

set_option maxRecDepth 100000 in
set_option maxHeartbeats 4000000 in
theorem waits_any (w : World) (v : Value) (l : List Mb) (aa : Option Addr) (acap : Nat) (ac : List Actx) (s : Nat) (h : Ms w v l) (A : Acts w aa acap ac) (hb : l.length * 24 ≤ 140737488351232) (hs : s < 18446744073709551616) :
    Calls Try.prog 5 #[v, .slice aa ac.length acap, .int .u64 s] w fun e w' => e = .returned (.bool true) ∧ Turn no w w' := by
  have c1 := alive9 w
  obtain ⟨va, vcap, ev⟩ := h.shape
  obtain ⟨n, hn⟩ : ∃ n, Hid (l.length = n) := ⟨_, rfl⟩
  obtain ⟨an, han⟩ : ∃ an, Hid (ac.length = an) := ⟨_, rfl⟩
  rw [show l.length = n from hn.out] at ev
  have cM := fun W (hT : Turn no w W) (hL : weighE l = 0) => made10 W v l aa acap ac (h.turn_no hT) (A.turn_no hT) hL
  have hmg := fun (hL : weighE l = 0) => made_good l ac hL
  have hms := fun (hL : weighE l = 0) => made_sound l ac hL
  rw [show ac.length = an from han.out] at cM ⊢
  subst ev
  clear A
  go_enter Try.func5, Try.ntmps5
  go_wp2_with fail
  refine c1.mono ?_
  rintro e w1 ⟨rfl, T⟩
  have c2 := rnew16_any w1 _ l (h.turn_no T) hb
  clear c1
  go_wp2_with fail
  refine c2.mono ?_
  rintro e w2 ⟨u, rfl, M, t⟩
  have TA : Turn no w2 (w2.alloc (.cells #[u] 26)) := (Turn.refl no w2).alloc _
  have T := (T.then_no t).then_no TA
  obtain ⟨ua, uc, eu⟩ := M.shape
  generalize (newL l).length = ul at *
  subst eu
  clear c2 M t TA h
  by_cases hL : weighE l = 0
  · rw [hL]
    have c3 := cM _ T hL
    obtain ⟨hG, hW⟩ := hmg hL
    have hS := hms hL
    obtain ⟨y, hy⟩ : ∃ y, Hid (madeL l ac = y) := ⟨_, rfl⟩
    rw [show madeL l ac = y from hy.out] at c3 hG hW hS
    obtain ⟨yl, hyl⟩ : ∃ yl, Hid (y.length = yl) := ⟨_, rfl⟩
    have hyl' : y.length = yl := hyl.out
    have hb := tot_le_top y hW
    have h64 := (weigh_ok y hW).2.1
    have hn0 := (weigh_ok y hW).1
    have hpos := tot_pos y hW
    have hGt := fun k => turns_good hG (Nat.le_refl _) hW (by omega) k
    have hwait := fun σ (hσ : 2 * tot y / 3 + 1 ≤ powI y 0 σ) => waits hG hW (by omega) hGt (fun j => σ.testBit j) (by rw [← powI_pwS]; omega)
    have hci := fun i => prop_idx y hW i
    have hcl := fun i => ch_lt hW i
    have cL := fun W u M => ltotal18 W u y M hb
    have cP := fun W u M => power24 W u y s M hb h64 hs
    have cQ := fun W u M => power24 W u y (18446744073709551615 - s) M hb h64 (by omega)
    have cR := fun W u M i hi => prop12_yes W u y M i hS hi
    have cI := fun W u M a => index20 W u y M a
    have hnot := not_u64 s hs
    rw [hyl'] at hwait h64 hn0 hcl
    obtain ⟨NX, hNX⟩ : ∃ NX, 18446744073709551615 - s = NX := ⟨_, rfl⟩
    rw [hNX] at cQ hnot
    have hNb : NX < 18446744073709551616 := by omega
    clear hNX
    have hw1 := fun (q : 2 * tot y / 3 + 1 ≤ powI y 0 s) => hwait s q
    have hw2 := fun (q : 2 * tot y / 3 + 1 ≤ powI y 0 NX) => hwait NX q
    clear hwait
    obtain ⟨tt, htt⟩ : ∃ tt, tot y = tt := ⟨_, rfl⟩
    obtain ⟨p1, hp1⟩ : ∃ p, powI y 0 s = p := ⟨_, rfl⟩
    obtain ⟨p2, hp2⟩ : ∃ p, powI y 0 NX = p := ⟨_, rfl⟩
    rw [htt] at cL hb hw1 hw2 hpos hci cR
    rw [hp1] at cP hw1
    rw [hp2] at cQ hw2
    clear htt hp1 hp2 hG hW hS hL cM hmg hms hGt hyl'
    have q9 : (tt : Int) ≤ 1152921504606846975 := by omega
    go_wp2_with fail
    generalize w2.alloc (.cells #[.slice ua ul uc] 26) = w3 at *
    refine c3.mono ?_
    rintro e w4 ⟨uy, rfl, MY, t⟩
    have TC : Turn no w4 (w4.alloc (.cells #[uy] 26)) := (Turn.refl no w4).alloc _
    have BY := Bx.new w4 uy 26
    have T := (T.then_no t).then_no TC
    have MY := MY.ms.turn_no TC
    have c4 := cL _ _ MY
    obtain ⟨ya, yc, ey⟩ := MY.shape
    rw [show y.length = yl from hyl.out] at ey
    subst ey
    clear c3 t TC cL
    go_wp2_with fail
    generalize w4.alloc (.cells #[.slice ya yl yc] 26) = w5 at *
    refine c4.mono ?_
    rintro e w6 ⟨rfl, e6⟩
    have e6 := e6.symm
    subst e6
    have k1 := BY.c
    have c5 := cP _ _ MY
    clear c4
    go_wp2_with fail
    refine c5.mono ?_
    rintro e w7 ⟨rfl, t⟩
    have BY := BY.turn_no t
    have MY := MY.turn_no t
    have T := T.then_no t
    have k2 := BY.c
    clear c5 t k1
    by_cases a1 : p1 < 2 * tt / 3 + 1
    · have a1' : (p1 : Int) < 2 * (tt : Int) / 3 + 1 := by omega
      have c6 := cQ _ _ MY
      clear hw1 cP
      go_wp2_with fail
      refine c6.mono ?_
      rintro e w8 ⟨rfl, t⟩
      have BY := BY.turn_no t
      have MY := MY.turn_no t
      have T := T.then_no t
      have k3 := BY.c
      clear c6 t k2
      by_cases a2 : p2 < 2 * tt / 3 + 1
      · have a2' : (p2 : Int) < 2 * (tt : Int) / 3 + 1 := by omega
        clear hw2
        go_wp2_with fail
        go_ret
        exact ⟨rfl, T⟩
      · have a2' : ¬ (p2 : Int) < 2 * (tt : Int) / 3 + 1 := by omega
        obtain ⟨i0, hi0, hbit⟩ := hw2 (by omega)
        clear hw2 cQ hnot
        go_wp2_with fail
        obtain ⟨σ, hσ⟩ : ∃ σ, σ = NX := ⟨_, rfl⟩
        rw [← hσ] at hbit hNb ⊢
        clear hσ
        have hsb := hNb
        go_loopw [12] (fun x wr => ∃ i : Nat, i ≤ 11 * yl ∧ x = .int .i64 i ∧ (∀ j, j < i → σ.testBit (ch y j) = false) ∧ Turn no w8 wr) (fun x _ => 11 * yl - (intOf x).toNat)
        case atStart => exact ⟨0, by omega, rfl, fun j hj => by omega, Turn.refl _ _⟩
        case round =>
          obtain ⟨i, hi, rfl, hno, TR⟩ := hrel
          have BR := BY.turn_no TR
          have MR := MY.turn_no TR
          have k4 := BR.c
          by_cases hlt : i < 11 * yl
          · have hlt' : (i : Int) < 11 * (yl : Int) := by omega
            have c7 := cR _ _ MR i (by omega)
            clear a1 a1'
            go_wp2_with fail
            refine c7.mono ?_
            rintro e w9 ⟨rfl, t⟩
            have TR := TR.then_no t
            have BR := BR.turn_no t
            have MR := MR.turn_no t
            have k5 := BR.c
            have c8 := cI _ _ MR (propN tt y i)
            rw [hci i] at c8
            have hcb := hcl i
            have c9 := fun W => in40 W σ (ch y i) hsb (by omega)
            clear c7 t k4
            go_wp2_with fail
            refine c8.mono ?_
            rintro e w10 ⟨rfl, t⟩
            have TR := TR.then_no t
            clear c8 t k5
            cases hbi : σ.testBit (ch y i) with
            | true =>
              rw [hbi] at c9
              go_wp2_with fail
              refine (c9 _).mono ?_
              rintro e w11 ⟨rfl, e11⟩
              have e11 := e11.symm
              subst e11
              clear c9 hbi hno
              go_wp2_with fail
              go_ret
              exact ⟨rfl, T.then_no TR⟩
            | false =>
              rw [hbi] at c9
              have hno2 : ∀ j, j < i + 1 → σ.testBit (ch y j) = false := fun j hj => by
                rcases Nat.lt_or_ge j i with q | q
                · exact hno j q
                · have e : j = i := by omega
                  rw [e]
                  exact hbi
              go_wp2_with fail
              refine (c9 _).mono ?_
              rintro e w11 ⟨rfl, e11⟩
              have e11 := e11.symm
              subst e11
              clear c9 hbi hno
              go_wp2_with fail
              go_roundw
              case rel => exact ⟨i + 1, by omega, by go_num, hno2, TR⟩
              case measure => simp [intOf]; omega
          · exact absurd (hno i0 (by omega)) (by rw [hbit]; decide)
    · have a1' : ¬ (p1 : Int) < 2 * (tt : Int) / 3 + 1 := by omega
      have c6 := cP _ _ MY
      clear hw2 cQ hnot
      go_wp2_with fail
      refine c6.mono ?_
      rintro e w8 ⟨rfl, t⟩
      have BY := BY.turn_no t
      have MY := MY.turn_no t
      have T := T.then_no t
      have k3 := BY.c
      obtain ⟨i0, hi0, hbit⟩ := hw1 (by omega)
      clear c6 t k2 hw1 cP
      go_wp2_with fail
      obtain ⟨σ, hσ⟩ : ∃ σ, σ = s := ⟨_, rfl⟩
      rw [← hσ] at hbit hs ⊢
      clear hσ
      have hsb := hs
      go_loopw [12] (fun x wr => ∃ i : Nat, i ≤ 11 * yl ∧ x = .int .i64 i ∧ (∀ j, j < i → σ.testBit (ch y j) = false) ∧ Turn no w8 wr) (fun x _ => 11 * yl - (intOf x).toNat)
      case atStart => exact ⟨0, by omega, rfl, fun j hj => by omega, Turn.refl _ _⟩
      case round =>
        obtain ⟨i, hi, rfl, hno, TR⟩ := hrel
        have BR := BY.turn_no TR
        have MR := MY.turn_no TR
        have k4 := BR.c
        by_cases hlt : i < 11 * yl
        · have hlt' : (i : Int) < 11 * (yl : Int) := by omega
          have c7 := cR _ _ MR i (by omega)
          clear a1 a1'
          go_wp2_with fail
          refine c7.mono ?_
          rintro e w9 ⟨rfl, t⟩
          have TR := TR.then_no t
          have BR := BR.turn_no t
          have MR := MR.turn_no t
          have k5 := BR.c
          have c8 := cI _ _ MR (propN tt y i)
          rw [hci i] at c8
          have hcb := hcl i
          have c9 := fun W => in40 W σ (ch y i) hsb (by omega)
          clear c7 t k4
          go_wp2_with fail
          refine c8.mono ?_
          rintro e w10 ⟨rfl, t⟩
          have TR := TR.then_no t
          clear c8 t k5
          cases hbi : σ.testBit (ch y i) with
          | true =>
            rw [hbi] at c9
            go_wp2_with fail
            refine (c9 _).mono ?_
            rintro e w11 ⟨rfl, e11⟩
            have e11 := e11.symm
            subst e11
            clear c9 hbi hno
            go_wp2_with fail
            go_ret
            exact ⟨rfl, T.then_no TR⟩
          | false =>
            rw [hbi] at c9
            have hno2 : ∀ j, j < i + 1 → σ.testBit (ch y j) = false := fun j hj => by
              rcases Nat.lt_or_ge j i with q | q
              · exact hno j q
              · have e : j = i := by omega
                rw [e]
                exact hbi
            go_wp2_with fail
            refine (c9 _).mono ?_
            rintro e w11 ⟨rfl, e11⟩
            have e11 := e11.symm
            subst e11
            clear c9 hbi hno
            go_wp2_with fail
            go_roundw
            case rel => exact ⟨i + 1, by omega, by go_num, hno2, TR⟩
            case measure => simp [intOf]; omega
        · exact absurd (hno i0 (by omega)) (by rw [hbit]; decide)
  · have hL' : (weighE l == 0) = false := by simp; exact hL
    have hL2 : (weighE l != 0) = true := by simp; exact hL
    clear cM hmg hms
    generalize weighE l = lE at *
    go_wp2_with fail
    go_ret
    exact ⟨rfl, T⟩

set_option maxRecDepth 100000 in
theorem waits_lifted (os : Os) (started : os.Started) (H : Type) (enc : TypeId × Value → H) :
    ReturnsInHanded {} Try.checked os 5 .any (Rows.councilWaitsSpec.pre6 enc Try.prog Try.f5 Rows.councilWaitsRow.domain false) (Rows.councilWaitsSpec.post enc Try.prog Try.f5 false true false false) := by
  refine returnsInHanded_of_change_sized (C := Try.checked) own started (by kernel_rfl) Try.func5
    (ChangeSpec.witness6 (enc := enc) (C := Try.checked) false ⟨#[], #[.slice none 0 0, .slice none 0 0, .int .u64 0], []⟩ 8 (by kernel_rfl) (by kernel_rfl) (by kernel_rfl) (by kernel_rfl)) ?_
  intro W base args ds gs before hval0 hW hcnd hsz _
  have hval : ∀ (j : Nat) t v, Try.f5.params[j]? = some t → args[j]? = some v → Value.okWide Try.prog W .any base t v := hval0
  have hW' := hW
  obtain ⟨p, q, hA0, hV, rfl, hfz, hnd⟩ := hW
  have hA : DataW.TrodAll enc Try.prog W 0 (fun _ => true) true Try.f5.params.toList args.toList ds p := hA0
  rw [Try.params5] at hA hval hsz
  obtain ⟨v0, v1, v2, d0, d1, d2, p0, p1, p2, rfl, rfl, rfl, h0, h1, h2⟩ := trodAll_three hA
  obtain ⟨rfl, rfl⟩ := trodVars_none hV
  have k0 := h0
  have k1 := h1
  have k2 := h2
  have lt0 : ∀ x ∈ p0, x.block < W.heap.size := by obtain ⟨m, hm⟩ := k0; exact DataW.trod_lt m _ _ _ hm
  have lt1 : ∀ x ∈ p1, x.block < W.heap.size := by obtain ⟨m, hm⟩ := k1; exact DataW.trod_lt m _ _ _ hm
  have lt2 : ∀ x ∈ p2, x.block < W.heap.size := by obtain ⟨m, hm⟩ := k2; exact DataW.trod_lt m _ _ _ hm
  obtain ⟨a0, l0, c0, rfl⟩ := okWide_slice Try.underlying22 (hval 0 22 v0 rfl rfl)
  obtain ⟨a1, l1, c1, rfl⟩ := okWide_slice Try.underlying23 (hval 1 23 v1 rfl rfl)
  obtain ⟨zz, rfl⟩ := okWide_int Try.underlying38 (hval 2 38 v2 rfl rfl)
  obtain ⟨m0, t0⟩ := h0
  obtain ⟨m1, t1⟩ := h1
  obtain ⟨m2, t2⟩ := h2
  obtain ⟨l, M, hw⟩ := open_ms (v := .slice a0 l0 c0) t0
  obtain ⟨aa, acap, ac, ea, A⟩ := open_acts (v := .slice a1 l1 c1) t1 (sized_of hsz (j := 1) rfl rfl)
  obtain ⟨z, hz, _, wz⟩ := DataW.trod_int Try.underlying38 t2
  have hv2 : zz = z := by
    have e : ([Value.int .u64 zz] : List Value) = [.int .u64 z] := hz
    simpa using e
  subst hv2
  obtain ⟨s, rfl, hs⟩ := u64_of wz
  have hle := ms_sized hsz (j := 0) rfl rfl hw
  have hwalk := waits_any W _ l aa acap ac s M A hle hs
  rw [← ea] at hwalk
  clear hA0 hval0
  refine hwalk.mono fun e W' ⟨he, tt⟩ => ?_
  subst he
  have bel := tt.below
  exact ⟨_, rfl, _, _, _, [], _, [], hW', trodAll_mk1 (shut_bool Try.underlying4 _), (trodAll_mk3 (Below.trod laidOut (by kernel_rfl) (of_decide_eq_true (by kernel_rfl)) k0 bel lt0) (Below.trod laidOut (by kernel_rfl) (of_decide_eq_true (by kernel_rfl)) k1 bel lt1) (Below.trod laidOut (by kernel_rfl) (of_decide_eq_true (by kernel_rfl)) k2 bel lt2)), rfl, bel.frame _, fun h => by cases h⟩

theorem waits_holds : Rows.CouncilWaitsSaid :=
  OpenClaim.holds_of_wide 5 Try.f5 rfl rfl rfl rfl rfl rfl rfl ⟨rfl, rfl, rfl, rfl, rfl⟩ rfl rfl rfl rfl rfl (by kernel_rfl) Try.func5 (by kernel_rfl)
    (of_decide_eq_true (by kernel_rfl)) (by unfold Func.isWrapper; first | (rw [if_pos (by decide +kernel)]; kernel_rfl) | (rw [if_neg (by decide +kernel)]; exact ⟨rfl, rfl⟩))
    (fun os started H enc _ => waits_lifted os started H enc)
#print axioms waits_holds
end Go.Proofs.Ytcmoocoklhjkfab
