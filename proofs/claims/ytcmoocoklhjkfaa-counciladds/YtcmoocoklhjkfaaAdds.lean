/- CouncilAdds: the walk and the row. -/
import Derived.Test.YtcmoocoklhjkfaaE3
import Derived.Test.YtcmoocoklhjkfaaSounds
namespace Go.Proofs.Ytcmoocoklhjkfaa
open Go.ChangeShapes Go.WideShapes Go.ChangeAt Go.RowKit Go.Joins Go.Deep
set_option linter.unusedVariables false

theorem turns_add (t : Nat) (l : List Mb) (a b : Nat) : turnsN t (turnsN t l a) b = turnsN t l (a + b) := by
  induction b with
  | zero => rfl
  | succ b ih => rw [turnsN, ih, ← Nat.add_assoc, turnsN]
theorem prop_add (t : Nat) (l : List Mb) (a : Nat) : propN t (turnsN t l a) 0 = propN t l a := by
  unfold propN
  rw [turns_add]
  rfl
theorem turns_tot (t : Nat) (l : List Mb) (k : Nat) : tot (turnsN t l k) = tot l := keys_tot (turns_keys t l k)
theorem turns_sound (l : List Mb) (h : soundE l = 0) (k : Nat) : soundE (turnsN (tot l) l k) = 0 := by
  refine sound_end _ ?_ (fun m hm => ?_)
  · rw [keys_weigh (turns_keys (tot l) l k)]
    exact (sound_ok l h).1
  · rw [turns_tot]
    have := turns_in (sound_in l h) k m hm
    simp [wideB]
    omega

set_option maxRecDepth 100000 in
set_option maxHeartbeats 1000000 in
theorem adds_bad (w : World) (v : Value) (l : List Mb) (a b : Int) (h : Ms w v l) (hE : soundE l ≠ 0 ∨ a < 0 ∨ 65536 < a) : Calls Try.prog 3 #[.agg #[v], .int .i64 a, .int .i64 b] w fun e w' => e = .returned (.bool true) ∧ Turn no w w' := by
  have T0 : Turn no w (w.alloc (.cells #[v] 24)) := (Turn.refl no w).alloc _
  have B0 := Bx.new w v 24
  have h0 := h.turn_no T0
  have c1 := alive9 (w.alloc (.cells #[v] 24))
  have hne : turnE l a ≠ 0 := by
    unfold turnE
    by_cases q : soundE l = 0
    · rw [if_neg (by omega), if_pos (by omega)]
      decide
    · rw [if_pos q]
      exact q
  have hne' : (turnE l a == 0) = false := by simp; exact hne
  have hne2 : (turnE l a != 0) = true := by simp; exact hne
  have hE' : ((soundE l == 0) = false ∧ (soundE l != 0) = true) ∨ soundE l = 0 ∧ a < 0 ∨ soundE l = 0 ∧ ¬ a < 0 ∧ 65536 < a := by
    by_cases q : soundE l = 0
    · rcases hE with r | r | r
      · exact absurd q r
      · exact .inr (.inl ⟨q, r⟩)
      · exact .inr (.inr ⟨q, by omega, r⟩)
    · exact .inl ⟨by simp; exact q, by simp; exact q⟩
  obtain ⟨va, vc, ev⟩ := h.shape
  obtain ⟨n, hn⟩ : ∃ n, Hid (l.length = n) := ⟨_, rfl⟩
  rw [show l.length = n from hn.out] at ev
  subst ev
  clear h hE
  go_enter Try.func3, Try.ntmps3
  go_wp2_with fail
  refine c1.mono ?_
  rintro e w1 ⟨rfl, T1⟩
  have B1 := B0.turn_no T1
  have h1 := h0.turn_no T1
  have T := T0.then_no T1
  have k1 := B1.c
  have c1 := turn10_any _ _ l h1 a
  clear h0 B0 T0 T1
  go_wp2_with fail
  refine c1.mono ?_
  rintro e w2 ⟨u, rfl, M, _, t⟩
  have TB : Turn no w2 (w2.alloc (.cells #[u] 24)) := (Turn.refl no w2).alloc _
  have t2 := t.then_no TB
  have B1 := B1.turn_no t2
  have h1 := h1.turn_no t2
  have T := T.then_no t2
  have k1 := B1.c
  have c2 := rsound11 _ _ l h1
  obtain ⟨ua, uc, eu⟩ := M.shape
  generalize (turnR l a).length = ul at *
  subst eu
  clear t t2 M
  go_wp2_with fail
  generalize w2.alloc (.cells #[.slice ua ul uc] 24) = w3 at *
  refine c2.mono ?_
  rintro e w4 ⟨rfl, t⟩
  have T := T.then_no t
  clear c1 c2 t
  rcases hE' with ⟨q, q2⟩ | ⟨q, r⟩ | ⟨q, r, s⟩
  · generalize soundE l = sE at *
    go_wp2_with fail
    go_ret
    exact ⟨rfl, T⟩
  · rw [q]
    clear q
    go_wp2_with fail
    go_ret
    exact ⟨rfl, T⟩
  · rw [q]
    clear q
    go_wp2_with fail
    go_ret
    exact ⟨rfl, T⟩

set_option maxRecDepth 100000 in
set_option maxHeartbeats 1000000 in
theorem adds_yes (w : World) (v : Value) (l : List Mb) (a : Nat) (b : Int) (h : Ms w v l) (hE : soundE l = 0) (ha : a ≤ 65536) (hb0 : -9223372036854775808 ≤ b) (hb1 : b < 9223372036854775808) : Calls Try.prog 3 #[.agg #[v], .int .i64 a, .int .i64 b] w fun e w' => e = .returned (.bool true) ∧ Turn no w w' := by
  have T0 : Turn no w (w.alloc (.cells #[v] 24)) := (Turn.refl no w).alloc _
  have B0 := Bx.new w v 24
  have h0 := h.turn_no T0
  have c1 := alive9 (w.alloc (.cells #[v] 24))
  have hxs := turns_sound l hE a
  have hxt := turns_tot (tot l) l a
  have hpa := prop_add (tot l) l a
  have hta := turns_add (tot l) l a
  have cT := fun W M => turn10_yes W v l M a hE ha
  have cS := fun W M => rsound11 W v l M
  rw [hE] at cS
  have cP := fun W M (q : a ≤ 65535) => prop12_yes W v l M a hE q
  have cU := fun W M (c : Nat) (q : a + c ≤ 65536) => turn10_yes W v l M (a + c) hE q
  obtain ⟨x, hx⟩ : ∃ x, Hid (turnsN (tot l) l a = x) := ⟨_, rfl⟩
  rw [show turnsN (tot l) l a = x from hx.out] at hxs hxt hpa hta cT
  have dP := fun W u M => prop12_yes W u x M 0 hxs (by decide)
  have dS := fun W u M => rsound11 W u x M
  rw [hxs] at dS
  have dT := fun W u M (c : Nat) (q : c ≤ 65536) => turn10_yes W u x M c hxs q
  rw [hxt] at dP dT
  rw [hpa] at dP
  simp only [hta] at dT
  clear hxs hxt hpa hta hx hE
  generalize propN (tot l) l a = pp at *
  obtain ⟨va, vc, ev⟩ := h.shape
  obtain ⟨n, hn⟩ : ∃ n, Hid (l.length = n) := ⟨_, rfl⟩
  rw [show l.length = n from hn.out] at ev
  subst ev
  have ha1 : ¬ (a : Int) < 0 := by omega
  have ha2 : ¬ (65536 : Int) < (a : Int) := by omega
  clear h
  go_enter Try.func3, Try.ntmps3
  go_wp2_with fail
  refine c1.mono ?_
  rintro e w1 ⟨rfl, T1⟩
  have B1 := B0.turn_no T1
  have h1 := h0.turn_no T1
  have T := T0.then_no T1
  have k1 := B1.c
  have c1 := cT _ h1
  clear h0 B0 T0 T1
  go_wp2_with fail
  refine c1.mono ?_
  rintro e w2 ⟨u, rfl, MM, t⟩
  have M := MM.ms
  have TB : Turn no w2 (w2.alloc (.cells #[u] 24)) := (Turn.refl no w2).alloc _
  have BX := Bx.new w2 u 24
  have t2 := t.then_no TB
  have B1 := B1.turn_no t2
  have h1 := h1.turn_no t2
  have T := T.then_no t2
  have M := M.turn_no TB
  have k1 := B1.c
  have c2 := cS _ h1
  obtain ⟨ua, uc, eu⟩ := M.shape
  obtain ⟨xl, hxl⟩ : ∃ xl, Hid (x.length = xl) := ⟨_, rfl⟩
  rw [show x.length = xl from hxl.out] at eu
  subst eu
  clear t t2 MM c1 cT
  go_wp2_with fail
  generalize w2.alloc (.cells #[.slice ua xl uc] 24) = w3 at *
  refine c2.mono ?_
  rintro e w4 ⟨rfl, t⟩
  have B1 := B1.turn_no t
  have BX := BX.turn_no t
  have h1 := h1.turn_no t
  have T := T.then_no t
  have M := M.turn_no t
  have k2 := BX.c
  have c3 := dP _ _ M
  clear t c2 cS k1
  go_wp2_with fail
  refine c3.mono ?_
  rintro e w5 ⟨rfl, t⟩
  have B1 := B1.turn_no t
  have BX := BX.turn_no t
  have h1 := h1.turn_no t
  have T := T.then_no t
  have M := M.turn_no t
  have k1 := B1.c
  clear t c3 dP k2
  by_cases ha3 : a ≤ 65535
  · have ha4 : (a : Int) ≤ 65535 := by omega
    have c4 := cP _ h1 ha3
    go_wp2_with fail
    refine c4.mono ?_
    rintro e w6 ⟨rfl, t⟩
    have B1 := B1.turn_no t
    have BX := BX.turn_no t
    have h1 := h1.turn_no t
    have T := T.then_no t
    have M := M.turn_no t
    have k2 := BX.c
    have c5 := dS _ _ M
    clear t c4 cP k1
    go_wp2_with fail
    refine c5.mono ?_
    rintro e w7 ⟨rfl, t⟩
    have B1 := B1.turn_no t
    have BX := BX.turn_no t
    have h1 := h1.turn_no t
    have T := T.then_no t
    have M := M.turn_no t
    clear t c5 k2
    by_cases hb2 : b < 0
    · go_wp2_with fail
      go_ret
      exact ⟨rfl, T⟩
    by_cases hb3 : 65536 - (a : Int) < b
    · go_wp2_with fail
      go_ret
      exact ⟨rfl, T⟩
    obtain ⟨c, rfl⟩ : ∃ c : Nat, b = c := ⟨b.toNat, by omega⟩
    have k3 := BX.c
    have c6 := dT _ _ M c (by omega)
    have hac : a + c ≤ 65536 := by omega
    clear hb2 hb0 hb1
    have hb2 : ¬ (c : Int) < 0 := by omega
    go_wp2_with fail
    refine c6.mono ?_
    rintro e w8 ⟨y, rfl, Y, t⟩
    have Y := Y.ms
    have TY : Turn no w8 (w8.alloc (.cells #[y] 24)) := (Turn.refl no w8).alloc _
    have BY := Bx.new w8 y 24
    have t2 := t.then_no TY
    have B1 := B1.turn_no t2
    have BX := BX.turn_no t2
    have h1 := h1.turn_no t2
    have T := T.then_no t2
    have M := M.turn_no t2
    have Y := Y.turn_no TY
    obtain ⟨ya, yc, ey⟩ := Y.shape
    have c7 := cU _ h1 c (by omega)
    have k4 := B1.c
    obtain ⟨z, hz⟩ : ∃ z, Hid (turnsN (tot l) l (a + c) = z) := ⟨_, rfl⟩
    rw [show turnsN (tot l) l (a + c) = z from hz.out] at ey Y c7
    obtain ⟨yl, hyl⟩ : ∃ yl, Hid (z.length = yl) := ⟨_, rfl⟩
    rw [show z.length = yl from hyl.out] at ey
    subst ey
    rw [show ((a + c : Nat) : Int) = (a : Int) + (c : Int) by omega] at c7
    clear t t2 dT c6 cU k3
    go_wp2_with fail
    generalize w8.alloc (.cells #[.slice ya yl yc] 24) = w9 at *
    refine c7.mono ?_
    rintro e w10 ⟨q, rfl, Q, t⟩
    have Q := Q.ms
    have TQ : Turn no w10 (w10.alloc (.cells #[q] 24)) := (Turn.refl no w10).alloc _
    have BQ := Bx.new w10 q 24
    have t2 := t.then_no TQ
    have BX := BX.turn_no t2
    have BY := BY.turn_no t2
    have T := T.then_no t2
    have M := M.turn_no t2
    have Y := Y.turn_no t2
    have Q := Q.turn_no TQ
    obtain ⟨qa, qc, eq⟩ := Q.shape
    rw [show z.length = yl from hyl.out] at eq
    subst eq
    have k5 := BX.c
    have c8 := dS _ _ M
    clear t t2 c7 k4
    go_wp2_with fail
    generalize w10.alloc (.cells #[.slice qa yl qc] 24) = w11 at *
    refine c8.mono ?_
    rintro e w12 ⟨rfl, t⟩
    have BY := BY.turn_no t
    have BQ := BQ.turn_no t
    have T := T.then_no t
    have Y := Y.turn_no t
    have Q := Q.turn_no t
    have k6 := BY.c
    have k7 := BQ.c
    have c9 := same13 _ _ _ z Y Q
    clear t c8 k5 dS
    go_wp2_with fail
    refine c9.mono ?_
    rintro e w13 ⟨rfl, t⟩
    have T := T.then_no t
    go_wp2_with fail
    go_ret
    exact ⟨rfl, T⟩
  · have ha4 : ¬ (a : Int) ≤ 65535 := by omega
    clear k1 cP
    by_cases hb2 : b < 0
    · go_wp2_with fail
      go_ret
      exact ⟨rfl, T⟩
    by_cases hb3 : 65536 - (a : Int) < b
    · go_wp2_with fail
      go_ret
      exact ⟨rfl, T⟩
    obtain ⟨c, rfl⟩ : ∃ c : Nat, b = c := ⟨b.toNat, by omega⟩
    have k3 := BX.c
    have c6 := dT _ _ M c (by omega)
    have hac : a + c ≤ 65536 := by omega
    clear hb2 hb0 hb1
    have hb2 : ¬ (c : Int) < 0 := by omega
    go_wp2_with fail
    refine c6.mono ?_
    rintro e w8 ⟨y, rfl, Y, t⟩
    have Y := Y.ms
    have TY : Turn no w8 (w8.alloc (.cells #[y] 24)) := (Turn.refl no w8).alloc _
    have BY := Bx.new w8 y 24
    have t2 := t.then_no TY
    have B1 := B1.turn_no t2
    have BX := BX.turn_no t2
    have h1 := h1.turn_no t2
    have T := T.then_no t2
    have M := M.turn_no t2
    have Y := Y.turn_no TY
    obtain ⟨ya, yc, ey⟩ := Y.shape
    have c7 := cU _ h1 c (by omega)
    have k4 := B1.c
    obtain ⟨z, hz⟩ : ∃ z, Hid (turnsN (tot l) l (a + c) = z) := ⟨_, rfl⟩
    rw [show turnsN (tot l) l (a + c) = z from hz.out] at ey Y c7
    obtain ⟨yl, hyl⟩ : ∃ yl, Hid (z.length = yl) := ⟨_, rfl⟩
    rw [show z.length = yl from hyl.out] at ey
    subst ey
    rw [show ((a + c : Nat) : Int) = (a : Int) + (c : Int) by omega] at c7
    clear t t2 dT c6 cU k3
    go_wp2_with fail
    generalize w8.alloc (.cells #[.slice ya yl yc] 24) = w9 at *
    refine c7.mono ?_
    rintro e w10 ⟨q, rfl, Q, t⟩
    have Q := Q.ms
    have TQ : Turn no w10 (w10.alloc (.cells #[q] 24)) := (Turn.refl no w10).alloc _
    have BQ := Bx.new w10 q 24
    have t2 := t.then_no TQ
    have BX := BX.turn_no t2
    have BY := BY.turn_no t2
    have T := T.then_no t2
    have M := M.turn_no t2
    have Y := Y.turn_no t2
    have Q := Q.turn_no TQ
    obtain ⟨qa, qc, eq⟩ := Q.shape
    rw [show z.length = yl from hyl.out] at eq
    subst eq
    have k5 := BX.c
    have c8 := dS _ _ M
    clear t t2 c7 k4
    go_wp2_with fail
    generalize w10.alloc (.cells #[.slice qa yl qc] 24) = w11 at *
    refine c8.mono ?_
    rintro e w12 ⟨rfl, t⟩
    have BY := BY.turn_no t
    have BQ := BQ.turn_no t
    have T := T.then_no t
    have Y := Y.turn_no t
    have Q := Q.turn_no t
    have k6 := BY.c
    have k7 := BQ.c
    have c9 := same13 _ _ _ z Y Q
    clear t c8 k5 dS
    go_wp2_with fail
    refine c9.mono ?_
    rintro e w13 ⟨rfl, t⟩
    have T := T.then_no t
    go_wp2_with fail
    go_ret
    exact ⟨rfl, T⟩

theorem adds_any (w : World) (v : Value) (l : List Mb) (a b : Int) (h : Ms w v l) (hb0 : -9223372036854775808 ≤ b) (hb1 : b < 9223372036854775808) : Calls Try.prog 3 #[.agg #[v], .int .i64 a, .int .i64 b] w fun e w' => e = .returned (.bool true) ∧ Turn no w w' := by
  by_cases hE : soundE l ≠ 0 ∨ a < 0 ∨ 65536 < a
  · exact adds_bad w v l a b h hE
  · have := adds_yes w v l a.toNat b h (by omega) (by omega) hb0 hb1
    rw [show ((a.toNat : Nat) : Int) = a by omega] at this
    exact this

set_option maxRecDepth 100000 in
theorem adds_lifted (os : Os) (started : os.Started) (H : Type) (enc : TypeId × Value → H) :
    ReturnsInHanded {} Try.checked os 3 .any (Rows.councilAddsSpec.pre6 enc Try.prog Try.f3 Rows.councilAddsRow.domain false) (Rows.councilAddsSpec.post enc Try.prog Try.f3 false true false false) := by
  refine returnsInHanded_of_change_sized (C := Try.checked) own started (by kernel_rfl) Try.func3
    (ChangeSpec.witness6 (enc := enc) (C := Try.checked) false ⟨#[], #[.agg #[.slice none 0 0], .int .i64 0, .int .i64 0], []⟩ 8 (by kernel_rfl) (by kernel_rfl) (by kernel_rfl) (by kernel_rfl)) ?_
  intro W base args ds gs before hval0 hW hcnd hsz _
  have hval : ∀ (j : Nat) t v, Try.f3.params[j]? = some t → args[j]? = some v → Value.okWide Try.prog W .any base t v := hval0
  have hW' := hW
  obtain ⟨p, q, hA0, hV, rfl, hfz, hnd⟩ := hW
  have hA : DataW.TrodAll enc Try.prog W 0 (fun _ => true) true Try.f3.params.toList args.toList ds p := hA0
  rw [Try.params3] at hA hval hsz
  obtain ⟨v0, v1, v2, d0, d1, d2, p0, p1, p2, rfl, rfl, rfl, h0, h1, h2⟩ := trodAll_three hA
  obtain ⟨rfl, rfl⟩ := trodVars_none hV
  have k0 := h0
  have k1 := h1
  have k2 := h2
  have lt0 : ∀ x ∈ p0, x.block < W.heap.size := by obtain ⟨m, hm⟩ := k0; exact DataW.trod_lt m _ _ _ hm
  have lt1 : ∀ x ∈ p1, x.block < W.heap.size := by obtain ⟨m, hm⟩ := k1; exact DataW.trod_lt m _ _ _ hm
  have lt2 : ∀ x ∈ p2, x.block < W.heap.size := by obtain ⟨m, hm⟩ := k2; exact DataW.trod_lt m _ _ _ hm
  obtain ⟨cs, rfl, _, _⟩ : ∃ cs, v0 = .agg cs ∧ cs.size = Try.prog.cellsOf 24 ∧ Row.okWide Try.prog W .any base 24 cs := by
    have := hval 0 24 v0 rfl rfl
    simpa [Value.okWide, Try.underlying24] using this
  obtain ⟨za, rfl⟩ := okWide_int Try.underlying3 (hval 1 3 v1 rfl rfl)
  obtain ⟨zb, rfl⟩ := okWide_int Try.underlying3 (hval 2 3 v2 rfl rfl)
  obtain ⟨m0, t0⟩ := h0
  obtain ⟨m2, t2⟩ := h2
  obtain ⟨v, l, hcs, M, hw⟩ := open_co (L := cs.toList) t0
  obtain ⟨z2, hz2, _, wz2⟩ := DataW.trod_int Try.underlying3 t2
  have hv2 : zb = z2 := by
    have e : ([Value.int .i64 zb] : List Value) = [.int .i64 z2] := hz2
    simpa using e
  subst hv2
  have hbb := i64_of wz2
  have hc : cs = #[v] := by
    apply Array.ext'
    simpa using hcs
  subst hc
  clear hA0 hval0
  refine (adds_any W _ l za zb M hbb.1 hbb.2).mono fun e W' ⟨he, tt⟩ => ?_
  subst he
  have bel := tt.below
  exact ⟨_, rfl, _, _, _, [], _, [], hW', trodAll_mk1 (shut_bool Try.underlying4 _), (trodAll_mk3 (Below.trod laidOut (by kernel_rfl) (of_decide_eq_true (by kernel_rfl)) k0 bel lt0) (Below.trod laidOut (by kernel_rfl) (of_decide_eq_true (by kernel_rfl)) k1 bel lt1) (Below.trod laidOut (by kernel_rfl) (of_decide_eq_true (by kernel_rfl)) k2 bel lt2)), rfl, bel.frame _, fun h => by cases h⟩

theorem adds_holds : Rows.CouncilAddsSaid :=
  OpenClaim.holds_of_wide 3 Try.f3 rfl rfl rfl rfl rfl rfl rfl ⟨rfl, rfl, rfl, rfl, rfl⟩ rfl rfl rfl rfl rfl (by kernel_rfl) Try.func3 (by kernel_rfl)
    (of_decide_eq_true (by kernel_rfl)) (by unfold Func.isWrapper; first | (rw [if_pos (by decide +kernel)]; kernel_rfl) | (rw [if_neg (by decide +kernel)]; exact ⟨rfl, rfl⟩))
    (fun os started H enc _ => adds_lifted os started H enc)
#print axioms adds_holds
end Go.Proofs.Ytcmoocoklhjkfaa
