/- CouncilOverlaps: the walk and the row. -/
import Derived.Test.YtcmoocoklhjkfaaO1
import Derived.Test.YtcmoocoklhjkfaaSounds
namespace Go.Proofs.Ytcmoocoklhjkfaa
open Go.ChangeShapes Go.WideShapes Go.ChangeAt Go.RowKit Go.Joins Go.Deep
set_option linter.unusedVariables false

theorem xor_not (x : Nat) (hx : x < 18446744073709551616) : 18446744073709551615 ^^^ x = 18446744073709551615 - x := by
  apply Nat.eq_of_testBit_eq
  intro i
  have h1 : (18446744073709551615 : Nat).testBit i = decide (i < 64) := by
    rw [show (18446744073709551615 : Nat) = 2 ^ 64 - 1 from rfl, Nat.testBit_two_pow_sub_one]
  rw [Nat.testBit_xor, h1]
  by_cases hi : i < 64
  · rw [bit_not x i hx hi]
    simp [hi]
  · rw [Nat.testBit_lt_two_pow (Nat.lt_of_lt_of_le hx (Nat.pow_le_pow_right (n := 2) (i := 64) (by decide) (by omega))), Nat.testBit_lt_two_pow (Nat.lt_of_lt_of_le (show 18446744073709551615 - x < 18446744073709551616 by omega) (Nat.pow_le_pow_right (n := 2) (i := 64) (by decide) (by omega)))]
    simp [hi]
theorem not_u64 (x : Nat) (hx : x < 18446744073709551616) : bits BinOp.xor IntKind.u64 IntKind.u64.max (x : Int) = ((18446744073709551615 - x : Nat) : Int) := by
  have h := bits_xor_u64_nat 18446744073709551615 x (by decide) hx
  rw [xor_not x hx] at h
  exact h

set_option maxRecDepth 100000 in
set_option maxHeartbeats 1000000 in
theorem over_bad (w : World) (v : Value) (l : List Mb) (x y : Int) (h : Ms w v l) (hE : soundE l ≠ 0) : Calls Try.prog 6 #[.agg #[v], .int .u64 x, .int .u64 y] w fun e w' => e = .returned (.bool true) ∧ Turn no w w' := by
  have T0 : Turn no w (w.alloc (.cells #[v] 24)) := (Turn.refl no w).alloc _
  have B0 := Bx.new w v 24
  have h0 := h.turn_no T0
  have c1 := alive9 (w.alloc (.cells #[v] 24))
  have hq : quorumN l = 0 := by unfold quorumN; rw [if_neg hE]
  have ht : thirdN l = 0 := by unfold thirdN; rw [if_neg hE]
  have cS := fun W M => rsound11 W v l M
  have cQ := fun W M => quorum21 W v l M
  have cH := fun W M => third22 W v l M
  rw [hq] at cQ
  rw [ht] at cH
  have hne : (soundE l == 0) = false := by simp; exact hE
  have hne2 : (soundE l != 0) = true := by simp; exact hE
  generalize soundE l = sE at *
  clear h hq ht
  go_enter Try.func6, Try.ntmps6
  go_wp2_with fail
  refine c1.mono ?_
  rintro e w1 ⟨rfl, t⟩
  have B1 := B0.turn_no t
  have h1 := h0.turn_no t
  have T := T0.then_no t
  have k1 := B1.c
  have c2 := cS _ h1
  clear t
  go_wp2_with fail
  refine c2.mono ?_
  rintro e w2 ⟨rfl, t⟩
  have B1 := B1.turn_no t
  have h1 := h1.turn_no t
  have T := T.then_no t
  have k2 := B1.c
  have c3 := cQ _ h1
  clear t
  go_wp2_with fail
  refine c3.mono ?_
  rintro e w3 ⟨rfl, t⟩
  have B1 := B1.turn_no t
  have h1 := h1.turn_no t
  have T := T.then_no t
  have k3 := B1.c
  have c4 := cH _ h1
  clear t
  go_wp2_with fail
  refine c4.mono ?_
  rintro e w4 ⟨rfl, t⟩
  have T := T.then_no t
  go_wp2_with fail
  go_ret
  exact ⟨rfl, T⟩

set_option maxRecDepth 100000 in
set_option maxHeartbeats 1000000 in
theorem over_yes (w : World) (v : Value) (l : List Mb) (x y : Nat) (h : Ms w v l) (hE : soundE l = 0) (hx : x < 18446744073709551616) (hy : y < 18446744073709551616) : Calls Try.prog 6 #[.agg #[v], .int .u64 x, .int .u64 y] w fun e w' => e = .returned (.bool true) ∧ Turn no w w' := by
  have T0 : Turn no w (w.alloc (.cells #[v] 24)) := (Turn.refl no w).alloc _
  have B0 := Bx.new w v 24
  have h0 := h.turn_no T0
  have c1 := alive9 (w.alloc (.cells #[v] 24))
  have hb := tot_le_top l (sound_ok l hE).1
  have hpos := tot_pos l (sound_ok l hE).1
  have hn := (weigh_ok l (sound_ok l hE).1).2.1
  have hQ : quorumN l = 2 * tot l / 3 + 1 := by unfold quorumN; rw [if_pos hE]
  have hH : thirdN l = tot l / 3 + 1 := by unfold thirdN; rw [if_pos hE]
  have hxy := powI_and l 0 x y
  have hnx := powI_not l 0 x (by omega) hx
  have hxyb : x &&& y < 18446744073709551616 := Nat.lt_of_le_of_lt Nat.and_le_left hx
  have cS := fun W M => rsound11 W v l M
  have cT := fun W M => total23 W v l M
  have cL := fun W M => ltotal18 W v l M hb
  have cQ := fun W M => quorum21 W v l M
  have cH := fun W M => third22 W v l M
  have cX := fun W M => power24 W v l x M hb hn hx
  have cY := fun W M => power24 W v l y M hb hn hy
  have cXY := fun W M => power24 W v l (x &&& y) M hb hn hxyb
  have cN := fun W M => power24 W v l (18446744073709551615 - x) M hb hn (by omega)
  rw [hE] at cS
  rw [soundT_ok l hE] at cT
  have hand := bits_and_u64_nat x y hx hy
  have hnot := not_u64 x hx
  obtain ⟨Q, hq⟩ : ∃ Q, quorumN l = Q := ⟨_, rfl⟩
  obtain ⟨H, hh⟩ : ∃ H, thirdN l = H := ⟨_, rfl⟩
  obtain ⟨tt, htt⟩ : ∃ t, tot l = t := ⟨_, rfl⟩
  obtain ⟨px, hpx⟩ : ∃ p, powI l 0 x = p := ⟨_, rfl⟩
  obtain ⟨py, hpy⟩ : ∃ p, powI l 0 y = p := ⟨_, rfl⟩
  obtain ⟨pxy, hpxy⟩ : ∃ p, powI l 0 (x &&& y) = p := ⟨_, rfl⟩
  obtain ⟨pn, hpn⟩ : ∃ p, powI l 0 (18446744073709551615 - x) = p := ⟨_, rfl⟩
  obtain ⟨XY, hXY⟩ : ∃ p, (x &&& y) = p := ⟨_, rfl⟩
  obtain ⟨NX, hNX⟩ : ∃ p, 18446744073709551615 - x = p := ⟨_, rfl⟩
  rw [hq, htt] at hQ
  rw [hh, htt] at hH
  rw [hpx, hpy, hpxy, htt] at hxy
  rw [hpx, hpn, htt] at hnx
  rw [htt] at cT cL hb hpos
  rw [hq] at cQ
  rw [hh] at cH
  rw [hpx] at cX
  rw [hpy] at cY
  rw [hpxy, hXY] at cXY
  rw [hpn, hNX] at cN
  rw [hNX] at hnot
  rw [hXY] at hand
  clear hE hq hh htt hpx hpy hpxy hpn hXY hxyb hn hNX
  have hand' : bits BinOp.and IntKind.u64 (x : Int) (y : Int) = (XY : Int) := hand
  clear hand h
  have q1 : ¬ 3 * (Q : Int) ≤ 2 * (tt : Int) := by omega
  have q2 : ¬ 2 * (tt : Int) < 3 * ((Q : Int) - 1) := by omega
  have q3 : ¬ 3 * (H : Int) ≤ (tt : Int) := by omega
  have q4 : ¬ (tt : Int) < 3 * ((H : Int) - 1) := by omega
  have q5 : 1 ≤ (Q : Int) := by omega
  have q6 : 1 ≤ (H : Int) := by omega
  have q7 : (Q : Int) ≤ 1152921504606846976 := by omega
  have q8 : (H : Int) ≤ 1152921504606846976 := by omega
  have q9 : (tt : Int) ≤ 1152921504606846975 := by omega
  have r1 : ¬ ((Q : Int) ≤ px ∧ (Q : Int) ≤ py ∧ (pxy : Int) < H) := by omega
  have r2 : ¬ ((pn : Int) < H ∧ (px : Int) < tt + 1 - H) := by omega
  have q10 : (H : Int) ≤ (tt : Int) + 1 := by omega
  clear hQ hH hxy hnx hb hpos
  go_enter Try.func6, Try.ntmps6
  go_wp2_with fail
  refine c1.mono ?_
  rintro e w1 ⟨rfl, t⟩
  have B1 := B0.turn_no t
  have h1 := h0.turn_no t
  have T := T0.then_no t
  have k1 := B1.c
  have c2 := cS _ h1
  clear t c1 cS
  go_wp2_with fail
  refine c2.mono ?_
  rintro e w2 ⟨rfl, t⟩
  have B1 := B1.turn_no t
  have h1 := h1.turn_no t
  have T := T.then_no t
  have k2 := B1.c
  have c3 := cT _ h1
  clear t c2 k1 cT
  go_wp2_with fail
  refine c3.mono ?_
  rintro e w3 ⟨rfl, t⟩
  have B1 := B1.turn_no t
  have h1 := h1.turn_no t
  have T := T.then_no t
  have k3 := B1.c
  have c4 := cQ _ h1
  clear t c3 k2 cQ
  go_wp2_with fail
  refine c4.mono ?_
  rintro e w4 ⟨rfl, t⟩
  have B1 := B1.turn_no t
  have h1 := h1.turn_no t
  have T := T.then_no t
  have k4 := B1.c
  have c5 := cH _ h1
  clear t c4 k3 cH
  go_wp2_with fail
  refine c5.mono ?_
  rintro e w5 ⟨rfl, t⟩
  have B1 := B1.turn_no t
  have h1 := h1.turn_no t
  have T := T.then_no t
  have k5 := B1.c
  have c6 := cL _ h1
  clear t c5 k4 cL
  go_wp2_with fail
  refine c6.mono ?_
  rintro e w6 ⟨rfl, e6⟩
  have e6 := e6.symm
  subst e6
  clear c6
  have c7 := cX _ h1
  go_wp2_with fail
  refine c7.mono ?_
  rintro e w7 ⟨rfl, t⟩
  clear c7 k5
  by_cases a1 : (Q : Int) ≤ px
  · have B1 := B1.turn_no t
    have h1 := h1.turn_no t
    have T := T.then_no t
    have k6 := B1.c
    have c8 := cY _ h1
    clear t
    go_wp2_with fail
    refine c8.mono ?_
    rintro e w8 ⟨rfl, t⟩
    clear c8 k6
    by_cases a2 : (Q : Int) ≤ py
    · have a3 : ¬ (pxy : Int) < H := fun q => r1 ⟨a1, a2, q⟩
      have B1 := B1.turn_no t
      have h1 := h1.turn_no t
      have T := T.then_no t
      have k7 := B1.c
      have c9 := cXY _ h1
      clear t
      go_wp2_with fail
      refine c9.mono ?_
      rintro e w9 ⟨rfl, t⟩
      clear c9 k7
      have B1 := B1.turn_no t
      have h1 := h1.turn_no t
      have T := T.then_no t
      have k8 := B1.c
      have c8 := cN _ h1
      clear t
      go_wp2_with fail
      refine c8.mono ?_
      rintro e w8 ⟨rfl, t⟩
      have B1 := B1.turn_no t
      have h1 := h1.turn_no t
      have T := T.then_no t
      have k9 := B1.c
      have c9 := cX _ h1
      clear t
      by_cases b1 : (pn : Int) < H
      · have b2 : ¬ (px : Int) < tt + 1 - H := fun q => r2 ⟨b1, q⟩
        go_wp2_with fail
        refine c9.mono ?_
        rintro e w9 ⟨rfl, t⟩
        have T := T.then_no t
        go_wp2_with fail
        go_ret
        exact ⟨rfl, T⟩
      · go_wp2_with fail
        go_ret
        exact ⟨rfl, T⟩
    · have a2' : decide ((Q : Int) ≤ py) = false := by simpa using a2
      have B1 := B1.turn_no t
      have h1 := h1.turn_no t
      have T := T.then_no t
      have k8 := B1.c
      have c8 := cN _ h1
      clear t
      go_wp2_with fail
      refine c8.mono ?_
      rintro e w8 ⟨rfl, t⟩
      have B1 := B1.turn_no t
      have h1 := h1.turn_no t
      have T := T.then_no t
      have k9 := B1.c
      have c9 := cX _ h1
      clear t
      by_cases b1 : (pn : Int) < H
      · have b2 : ¬ (px : Int) < tt + 1 - H := fun q => r2 ⟨b1, q⟩
        go_wp2_with fail
        refine c9.mono ?_
        rintro e w9 ⟨rfl, t⟩
        have T := T.then_no t
        go_wp2_with fail
        go_ret
        exact ⟨rfl, T⟩
      · go_wp2_with fail
        go_ret
        exact ⟨rfl, T⟩
  · have a1' : decide ((Q : Int) ≤ px) = false := by simpa using a1
    have B1 := B1.turn_no t
    have h1 := h1.turn_no t
    have T := T.then_no t
    have k8 := B1.c
    have c8 := cN _ h1
    clear t
    go_wp2_with fail
    refine c8.mono ?_
    rintro e w8 ⟨rfl, t⟩
    have B1 := B1.turn_no t
    have h1 := h1.turn_no t
    have T := T.then_no t
    have k9 := B1.c
    have c9 := cX _ h1
    clear t
    by_cases b1 : (pn : Int) < H
    · have b2 : ¬ (px : Int) < tt + 1 - H := fun q => r2 ⟨b1, q⟩
      go_wp2_with fail
      refine c9.mono ?_
      rintro e w9 ⟨rfl, t⟩
      have T := T.then_no t
      go_wp2_with fail
      go_ret
      exact ⟨rfl, T⟩
    · go_wp2_with fail
      go_ret
      exact ⟨rfl, T⟩

theorem over_any (w : World) (v : Value) (l : List Mb) (x y : Nat) (h : Ms w v l) (hx : x < 18446744073709551616) (hy : y < 18446744073709551616) : Calls Try.prog 6 #[.agg #[v], .int .u64 x, .int .u64 y] w fun e w' => e = .returned (.bool true) ∧ Turn no w w' := by
  by_cases hE : soundE l = 0
  · exact over_yes w v l x y h hE hx hy
  · exact over_bad w v l x y h hE

set_option maxRecDepth 100000 in
theorem over_lifted (os : Os) (started : os.Started) (H : Type) (enc : TypeId × Value → H) :
    ReturnsInHanded {} Try.checked os 6 .any (Rows.councilOverlapsSpec.pre6 enc Try.prog Try.f6 Rows.councilOverlapsRow.domain false) (Rows.councilOverlapsSpec.post enc Try.prog Try.f6 false true false false) := by
  refine returnsInHanded_of_change_sized (C := Try.checked) own started (by kernel_rfl) Try.func6
    (ChangeSpec.witness6 (enc := enc) (C := Try.checked) false ⟨#[], #[.agg #[.slice none 0 0], .int .u64 0, .int .u64 0], []⟩ 8 (by kernel_rfl) (by kernel_rfl) (by kernel_rfl) (by kernel_rfl)) ?_
  intro W base args ds gs before hval0 hW hcnd hsz _
  have hval : ∀ (j : Nat) t v, Try.f6.params[j]? = some t → args[j]? = some v → Value.okWide Try.prog W .any base t v := hval0
  have hW' := hW
  obtain ⟨p, q, hA0, hV, rfl, hfz, hnd⟩ := hW
  have hA : DataW.TrodAll enc Try.prog W 0 (fun _ => true) true Try.f6.params.toList args.toList ds p := hA0
  rw [Try.params6] at hA hval hsz
  obtain ⟨v0, v1, v2, d0, d1, d2, p0, p1, p2, rfl, rfl, rfl, h0, h1, h2⟩ := trodAll_three hA
  obtain ⟨rfl, rfl⟩ := trodVars_none hV
  have k0 := h0
  have k1 := h1
  have k2 := h2
  have lt0 : ∀ x ∈ p0, x.block < W.heap.size := by obtain ⟨m, hm⟩ := k0; exact DataW.trod_lt m _ _ _ hm
  have lt1 : ∀ x ∈ p1, x.block < W.heap.size := by obtain ⟨m, hm⟩ := k1; exact DataW.trod_lt m _ _ _ hm
  have lt2 : ∀ x ∈ p2, x.block < W.heap.size := by obtain ⟨m, hm⟩ := k2; exact DataW.trod_lt m _ _ _ hm
  obtain ⟨cs, rfl, _, _⟩ : ∃ cs, v0 = .agg cs ∧ cs.size = Try.prog.cellsOf 24 ∧ Row.okWide Try.prog W .any base 24 cs := by
    have := hval 0 24 v0 rfl rfl
    simpa [Value.okWide, Try.underlying24] using this
  obtain ⟨za, rfl⟩ := okWide_int Try.underlying30 (hval 1 30 v1 rfl rfl)
  obtain ⟨zb, rfl⟩ := okWide_int Try.underlying30 (hval 2 30 v2 rfl rfl)
  obtain ⟨m0, t0⟩ := h0
  obtain ⟨m1, t1⟩ := h1
  obtain ⟨m2, t2⟩ := h2
  obtain ⟨v, l, hcs, M, hw⟩ := open_co (L := cs.toList) t0
  obtain ⟨z1, hz1, _, wz1⟩ := DataW.trod_int Try.underlying30 t1
  obtain ⟨z2, hz2, _, wz2⟩ := DataW.trod_int Try.underlying30 t2
  have hv1 : za = z1 := by
    have e : ([Value.int .u64 za] : List Value) = [.int .u64 z1] := hz1
    simpa using e
  have hv2 : zb = z2 := by
    have e : ([Value.int .u64 zb] : List Value) = [.int .u64 z2] := hz2
    simpa using e
  subst hv1
  subst hv2
  obtain ⟨x, rfl, hx⟩ := u64_of wz1
  obtain ⟨y, rfl, hy⟩ := u64_of wz2
  have hc : cs = #[v] := by
    apply Array.ext'
    simpa using hcs
  subst hc
  clear hA0 hval0
  refine (over_any W _ l x y M hx hy).mono fun e W' ⟨he, tt⟩ => ?_
  subst he
  have bel := tt.below
  exact ⟨_, rfl, _, _, _, [], _, [], hW', trodAll_mk1 (shut_bool Try.underlying4 _), (trodAll_mk3 (Below.trod laidOut (by kernel_rfl) (of_decide_eq_true (by kernel_rfl)) k0 bel lt0) (Below.trod laidOut (by kernel_rfl) (of_decide_eq_true (by kernel_rfl)) k1 bel lt1) (Below.trod laidOut (by kernel_rfl) (of_decide_eq_true (by kernel_rfl)) k2 bel lt2)), rfl, bel.frame _, fun h => by cases h⟩

theorem over_holds : Rows.CouncilOverlapsSaid :=
  OpenClaim.holds_of_wide 6 Try.f6 rfl rfl rfl rfl rfl rfl rfl ⟨rfl, rfl, rfl, rfl, rfl⟩ rfl rfl rfl rfl rfl (by kernel_rfl) Try.func6 (by kernel_rfl)
    (of_decide_eq_true (by kernel_rfl)) (by unfold Func.isWrapper; first | (rw [if_pos (by decide +kernel)]; kernel_rfl) | (rw [if_neg (by decide +kernel)]; exact ⟨rfl, rfl⟩))
    (fun os started H enc _ => over_lifted os started H enc)
#print axioms over_holds
end Go.Proofs.Ytcmoocoklhjkfaa
