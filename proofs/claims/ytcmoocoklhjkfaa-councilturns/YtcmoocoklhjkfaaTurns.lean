/- CouncilTurns: the walk and the row. -/
import Derived.Test.YtcmoocoklhjkfaaE3
import Derived.Test.YtcmoocoklhjkfaaSounds
namespace Go.Proofs.Ytcmoocoklhjkfaa
open Go.ChangeShapes Go.WideShapes Go.ChangeAt Go.RowKit Go.Joins Go.Deep
set_option linter.unusedVariables false

set_option maxRecDepth 100000 in
set_option maxHeartbeats 1000000 in
theorem turns_any (w : World) (v : Value) (l : List Mb) (k r : Int) (h : Ms w v l) (hb : l.length * 24 ≤ 140737488351232) : Calls Try.prog 7 #[.agg #[v], .int .i64 k, .int .i64 r] w fun e w' => e = .returned (.bool true) ∧ Turn no w w' := by
  have T0 : Turn no w (w.alloc (.cells #[v] 24)) := (Turn.refl no w).alloc _
  have B0 := Bx.new w v 24
  have h0 := h.turn_no T0
  have c1 := alive9 (w.alloc (.cells #[v] 24))
  obtain ⟨va, vc, ev⟩ := h.shape
  obtain ⟨n, hn⟩ : ∃ n, Hid (l.length = n) := ⟨_, rfl⟩
  have hn' : l.length = n := hn.out
  rw [hn'] at ev
  subst ev
  clear h
  go_enter Try.func7, Try.ntmps7
  go_wp2_with fail
  refine c1.mono ?_
  rintro e w1 ⟨rfl, T1⟩
  have B1 := B0.turn_no T1
  have h1 := h0.turn_no T1
  have T := T0.then_no T1
  have k1 := B1.c
  have c1 := roomy14 w1 _ l h1 hb
  rw [hn'] at c1
  clear h0 B0 T0 T1
  go_wp2_with fail
  refine c1.mono ?_
  rintro e w2 ⟨g, cap, rfl, R, hg, t⟩
  have F := R.front
  have hle := R.le
  have hmo := R.most
  simp only [maxLen] at hmo
  rw [List.length_append, show mark.length = 2 from rfl, hn'] at hle
  rw [hn'] at F
  have TA : Turn no w2 (w2.alloc (.cells #[.slice (some ⟨g, 0, none⟩) n cap] 24)) := (Turn.refl no w2).alloc _
  have BA := Bx.new w2 (.slice (some ⟨g, 0, none⟩) n cap) 24
  have FA := F.turn_no TA
  have R := R.turn_no TA
  have B1 := B1.turn_no t
  have k2 := B1.c
  have B1 := B1.turn_no TA
  have h1 := (h1.turn_no t).turn_no TA
  have T := (T.then_no t).then_no TA
  have c1 := turn10_any _ _ l FA k
  obtain ⟨tE, htE⟩ : ∃ tE, Hid (turnE l k = tE) := ⟨_, rfl⟩
  obtain ⟨tR, htR⟩ : ∃ tR, Hid (turnR l k = tR) := ⟨_, rfl⟩
  obtain ⟨pE, hpE⟩ : ∃ pE, Hid (propE l r = pE) := ⟨_, rfl⟩
  obtain ⟨pA, hpA⟩ : ∃ pA, Hid (propA l r = pA) := ⟨_, rfl⟩
  rw [show turnE l k = tE from htE.out, show turnR l k = tR from htR.out] at c1
  clear hg F hn' t k1
  go_wp2_with fail
  generalize w2.alloc (.cells #[.slice (some ⟨g, 0, none⟩) n cap] 24) = w3 at *
  refine c1.mono ?_
  rintro e w4 ⟨u, rfl, M, _, t⟩
  have TB : Turn no w4 (w4.alloc (.cells #[u] 24)) := (Turn.refl no w4).alloc _
  have BB := Bx.new w4 u 24
  have t2 := t.then_no TB
  have BA := BA.turn_no t2
  have FA := FA.turn_no t2
  have R := R.turn_no t2
  have B1 := B1.turn_no t2
  have h1 := h1.turn_no t2
  have T := T.then_no t2
  have M := M.turn_no TB
  have k3 := BA.c
  have c2 := prop12_any _ _ l FA r
  rw [show propE l r = pE from hpE.out, show propA l r = pA from hpA.out] at c2
  obtain ⟨ua, uc, eu⟩ := M.shape
  obtain ⟨ul, hul⟩ : ∃ ul, Hid (tR.length = ul) := ⟨_, rfl⟩
  rw [show tR.length = ul from hul.out] at eu
  subst eu
  clear t t2 k2
  go_wp2_with fail
  generalize w4.alloc (.cells #[.slice ua ul uc] 24) = w5 at *
  refine c2.mono ?_
  rintro e w6 ⟨rfl, t⟩
  have R := R.turn_no t
  have B1 := B1.turn_no t
  have h1 := h1.turn_no t
  have T := T.then_no t
  have M := M.turn_no t
  have BB := BB.turn_no t
  have k3 := B1.c
  have c3 := rturn25_any _ _ l h1 k
  rw [show turnE l k = tE from htE.out, show turnR l k = tR from htR.out] at c3
  clear t
  go_wp2_with fail
  refine c3.mono ?_
  rintro e w7 ⟨x, rfl, X, t⟩
  have TC : Turn no w7 (w7.alloc (.cells #[x] 24)) := (Turn.refl no w7).alloc _
  have BC := Bx.new w7 x 24
  have t2 := t.then_no TC
  have R := R.turn_no t2
  have B1 := B1.turn_no t2
  have h1 := h1.turn_no t2
  have T := T.then_no t2
  have M := M.turn_no t2
  have BB := BB.turn_no t2
  have X := X.turn_no TC
  have k3 := B1.c
  have c4 := rprop26_any _ _ l h1 r
  rw [show propE l r = pE from hpE.out, show propA l r = pA from hpA.out] at c4
  obtain ⟨xa, xc, ex⟩ := X.shape
  rw [show tR.length = ul from hul.out] at ex
  subst ex
  clear t t2 TC
  go_wp2_with fail
  generalize w7.alloc (.cells #[.slice xa ul xc] 24) = w8 at *
  refine c4.mono ?_
  rintro e w9 ⟨rfl, t⟩
  have R := R.turn_no t
  have B1 := B1.turn_no t
  have h1 := h1.turn_no t
  have T := T.then_no t
  have M := M.turn_no t
  have BB := BB.turn_no t
  have X := X.turn_no t
  have BC := BC.turn_no t
  have k4 := BB.c
  have k5 := BC.c
  have c5 := same13 _ _ _ tR M X
  clear t
  go_wp2_with fail
  refine c5.mono ?_
  rintro e w10 ⟨rfl, t⟩
  have R := R.turn_no t
  have h1 := h1.turn_no t
  have B1 := B1.turn_no t
  have T := T.then_no t
  have k6 := B1.c
  have c6 := kept17 _ _ l g cap R h1
  rw [show l.length = n from hn.out] at c6
  clear t
  go_wp2_with fail
  refine c6.mono ?_
  rintro e w11 ⟨rfl, t⟩
  have T := T.then_no t
  go_wp2_with fail
  go_ret
  exact ⟨rfl, T⟩

set_option maxRecDepth 100000 in
theorem turns_lifted (os : Os) (started : os.Started) (H : Type) (enc : TypeId × Value → H) :
    ReturnsInHanded {} Try.checked os 7 .any (Rows.councilTurnsSpec.pre6 enc Try.prog Try.f7 Rows.councilTurnsRow.domain false) (Rows.councilTurnsSpec.post enc Try.prog Try.f7 false true false false) := by
  refine returnsInHanded_of_change_sized (C := Try.checked) own started (by kernel_rfl) Try.func7
    (ChangeSpec.witness6 (enc := enc) (C := Try.checked) false ⟨#[], #[.agg #[.slice none 0 0], .int .i64 0, .int .i64 0], []⟩ 8 (by kernel_rfl) (by kernel_rfl) (by kernel_rfl) (by kernel_rfl)) ?_
  intro W base args ds gs before hval0 hW hcnd hsz _
  have hval : ∀ (j : Nat) t v, Try.f7.params[j]? = some t → args[j]? = some v → Value.okWide Try.prog W .any base t v := hval0
  have hW' := hW
  obtain ⟨p, q, hA0, hV, rfl, hfz, hnd⟩ := hW
  have hA : DataW.TrodAll enc Try.prog W 0 (fun _ => true) true Try.f7.params.toList args.toList ds p := hA0
  rw [Try.params7] at hA hval hsz
  obtain ⟨v0, v1, v2, d0, d1, d2, p0, p1, p2, rfl, rfl, rfl, h0, h1, h2⟩ := trodAll_three hA
  obtain ⟨rfl, rfl⟩ := trodVars_none hV
  have k0 := h0
  have k1 := h1
  have k2 := h2
  have lt0 : ∀ x ∈ p0, x.block < W.heap.size := by obtain ⟨m, hm⟩ := k0; exact DataW.trod_lt m _ _ _ hm
  have lt1 : ∀ x ∈ p1, x.block < W.heap.size := by obtain ⟨m, hm⟩ := k1; exact DataW.trod_lt m _ _ _ hm
  have lt2 : ∀ x ∈ p2, x.block < W.heap.size := by obtain ⟨m, hm⟩ := k2; exact DataW.trod_lt m _ _ _ hm
  obtain ⟨cs, rfl, _, _⟩ : ∃ cs, v0 = .agg cs ∧ cs.size = Try.prog.cellsOf 24 ∧ Row.okWide Try.prog W .any base 24 cs := by
    have := hval 0 24 v0 rfl rfl
    simpa [Value.okWide, Try.underlying24] using this
  obtain ⟨za, rfl⟩ := okWide_int Try.underlying3 (hval 1 3 v1 rfl rfl)
  obtain ⟨zb, rfl⟩ := okWide_int Try.underlying3 (hval 2 3 v2 rfl rfl)
  obtain ⟨m0, t0⟩ := h0
  obtain ⟨v, l, hcs, M, hw⟩ := open_co (L := cs.toList) t0
  have hle := co_sized hsz (j := 0) rfl rfl hw
  have hc : cs = #[v] := by
    apply Array.ext'
    simpa using hcs
  subst hc
  clear hA0 hval0
  refine (turns_any W _ l za zb M hle).mono fun e W' ⟨he, tt⟩ => ?_
  subst he
  have bel := tt.below
  exact ⟨_, rfl, _, _, _, [], _, [], hW', trodAll_mk1 (shut_bool Try.underlying4 _), (trodAll_mk3 (Below.trod laidOut (by kernel_rfl) (of_decide_eq_true (by kernel_rfl)) k0 bel lt0) (Below.trod laidOut (by kernel_rfl) (of_decide_eq_true (by kernel_rfl)) k1 bel lt1) (Below.trod laidOut (by kernel_rfl) (of_decide_eq_true (by kernel_rfl)) k2 bel lt2)), rfl, bel.frame _, fun h => by cases h⟩

theorem turns_holds : Rows.CouncilTurnsSaid :=
  OpenClaim.holds_of_wide 7 Try.f7 rfl rfl rfl rfl rfl rfl rfl ⟨rfl, rfl, rfl, rfl, rfl⟩ rfl rfl rfl rfl rfl (by kernel_rfl) Try.func7 (by kernel_rfl)
    (of_decide_eq_true (by kernel_rfl)) (by unfold Func.isWrapper; first | (rw [if_pos (by decide +kernel)]; kernel_rfl) | (rw [if_neg (by decide +kernel)]; exact ⟨rfl, rfl⟩))
    (fun os started H enc _ => turns_lifted os started H enc)
#print axioms turns_holds
end Go.Proofs.Ytcmoocoklhjkfaa
