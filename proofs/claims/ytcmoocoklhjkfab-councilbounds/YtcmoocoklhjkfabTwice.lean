/- CouncilTwice: acts read, the walk and the row. -/
import Derived.Test.YtcmoocoklhjkfabM2
namespace Go.Proofs.Ytcmoocoklhjkfab
open Go.ChangeShapes Go.WideShapes Go.ChangeAt Go.RowKit Go.Joins Go.Deep
set_option linter.unusedVariables false

theorem weights_all {H : Type} {P : Program} {e : TypeId} : ∀ {ds : List (DataW H)} {d : DataW H} {n : Nat}, d ∈ ds → n ∈ d.weights P e → n ∈ DataW.weightsAll P e ds
  | [], _, _, h, _ => by cases h
  | x :: r, d, n, h, hn => by
    simp only [DataW.weightsAll, List.mem_append]
    rcases List.mem_cons.1 h with rfl | h
    · exact .inl hn
    · exact .inr (weights_all h hn)
theorem Ms.old {w : World} {v : Value} {l : List Mb} (h : Ms w v l) (hl : l ≠ []) : ∀ g, v.ownBlock = some g → g < w.heap.size := by
  obtain ⟨a, cap, e, M⟩ := h
  cases l with
  | nil => exact absurd rfl hl
  | cons m r =>
    obtain ⟨b, off, ea, c0, _⟩ := M.cells 0 m rfl
    intro g hg
    rw [e, ea] at hg
    cases hg
    exact World.block_lt_of_cell? w _ c0

section
variable {H : Type} {enc : TypeId × Value → H} {w : World} {base : Nat} {spare : Nat → Bool} {held : Bool}
set_option maxRecDepth 100000 in
theorem open_acts {n : Nat} {v : Value} {y : DataW H × List MemPlace} (h : DataW.trod enc Try.prog w base spare held n 23 [v] = some y) (hw : ∀ k ∈ y.1.weights Try.prog 23, k ≤ reachBytes) : ∃ a cap ac, v = .slice a ac.length cap ∧ Acts w a cap ac := by
  rcases open_slice Try.underlying23 h with ⟨hcs, _⟩ | ⟨a, len, cap, m, n', D, Pl, hcs, _, hl, hm, hmm, hx, hel⟩
  · simp at hcs
    exact ⟨none, 0, [], hcs, by simp, by simp [maxLen], fun j x hx => by simp at hx⟩
  · simp at hcs
    have hlm : len ≤ m := by rw [hmm]; split <;> omega
    have hspot : 0 < len → ∃ b off, a = ⟨b, off, none⟩ := fun h0 => by
      obtain ⟨cs', h1, h2⟩ := hel 0 (by omega)
      rw [cells58] at h1
      obtain ⟨_, hl', hc⟩ := World.cells?_some h1
      obtain ⟨b, off, spot⟩ := a
      have hc0 := World.cell?_spot ((hc 0 (by omega)).trans (List.getElem?_eq_getElem (by omega)))
      have hs : spot = none := by simpa [Addr.add] using hc0
      subst hs
      exact ⟨b, off, rfl⟩
    have hex : ∀ i, i < len → ∃ x : Actx, ∃ b off, a = ⟨b, off, none⟩ ∧ b < w.heap.size ∧ w.cell? ⟨b, off + i * 2, none⟩ = some (.int .i64 x.tn) ∧ w.cell? ⟨b, off + i * 2 + 1, none⟩ = some x.vl ∧ Ms w x.vl x.l ∧ x.l.length * 24 ≤ 140737488351232 ∧ (-9223372036854775808 ≤ x.tn ∧ x.tn < 9223372036854775808) ∧ (x.l ≠ [] → ∀ g, x.vl.ownBlock = some g → g < w.heap.size) := by
      intro i hi
      obtain ⟨cs', h1, h2⟩ := hel i (by omega)
      rw [cells58] at h1
      obtain ⟨x, rfl, hM, htn, hwt⟩ := open_act h2
      obtain ⟨_, hl', hc⟩ := World.cells?_some h1
      obtain ⟨b, off, rfl⟩ := hspot (by omega)
      have hc0 := hc 0 (by omega)
      have d0 : w.cell? ⟨b, off + i * 2, none⟩ = some (.int .i64 x.tn) := by
        rw [add3, Addr.add_lit] at hc0
        simpa using hc0
      have d1 : w.cell? ⟨b, off + i * 2 + 1, none⟩ = some x.vl := by
        have := hc 1 (by omega)
        rw [add3, Addr.add_lit] at this
        simpa [Nat.add_assoc] using this
      refine ⟨x, b, off, rfl, World.block_lt_of_cell? w _ d0, d0, d1, hM, ?_, htn, fun hne => hM.old hne⟩
      rcases hwt with q | ⟨d, es, sp, q, r⟩
      · rw [q]; simp
      · have hin : (es.length + sp.length) * Try.prog.bytesOf 55 ∈ y.1.weights Try.prog 23 := by
          rw [hx]
          simp only [DataW.weights, Try.underlying23]
          refine List.mem_cons_of_mem _ (List.mem_append.2 (.inl (weights_all (d := D i) (List.mem_map.2 ⟨i, by simpa using hi, rfl⟩) ?_)))
          simp only at q
          rw [q]
          simp [DataW.weights, Try.underlying58, DataW.weightsEach, Try.underlying22]
        have := hw _ hin
        rw [bytes44] at this
        have h2 : (es.length + sp.length) * 24 ≤ 140737488351232 := this
        omega
    obtain ⟨f, hf⟩ := choose_ltT act0 hex
    refine ⟨some a, cap, (List.range len).map f, by rw [hcs]; simp, by simpa using hl, hm, fun j g hg => ?_⟩
    rw [List.getElem?_map] at hg
    by_cases hj : j < len
    · rw [List.getElem?_range hj] at hg
      simp at hg
      rw [← hg]
      obtain ⟨b, off, rfl, r⟩ := hf j hj
      exact ⟨b, off, rfl, r⟩
    · rw [List.getElem?_eq_none (by simpa using hj)] at hg
      cases hg
end
theorem Acts.turn_no {w w' : World} {a : Option Addr} {cap : Nat} {ac : List Actx} (h : Acts w a cap ac) (t : Turn no w w') : Acts w' a cap ac :=
  ⟨h.le, h.most, fun j x hx => by
    obtain ⟨b, off, e, hb, c0, c1, M, hl, ht, ho⟩ := h.cells j x hx
    have hs := t.size
    exact ⟨b, off, e, by omega, t.keep c0 (fun q => q), t.keep c1 (fun q => q), M.turn_no t, hl, ht, fun q g hg => by have := ho q g hg; omega⟩⟩

/-- What New of the document tells of a list: one word of it. -/
theorem sized_of {H : Type} {P : Program} {ts : List TypeId} {ds : List (DataW H)} (hsz : (DataW.weightsEach P ts ds).all (· ≤ reachBytes) = true) {j : Nat} {t : TypeId} {d : DataW H} (ht : ts[j]? = some t) (hd : ds[j]? = some d) : ∀ k ∈ d.weights P t, k ≤ reachBytes := fun k hk => by
  have := List.all_eq_true.1 hsz _ (DataW.weights_mem_each ht hd k hk)
  exact of_decide_eq_true this

set_option maxRecDepth 100000 in
set_option maxHeartbeats 2000000 in
theorem twice_any (w : World) (v vn : Value) (l nx : List Mb) (aa : Option Addr) (acap : Nat) (ac : List Actx) (h : Ms w v l) (A : Acts w aa acap ac) (hx : Ms w vn nx) (hb : l.length * 24 ≤ 140737488351232) (hbx : nx.length * 24 ≤ 140737488351232) :
    Calls Try.prog 3 #[v, .slice aa ac.length acap, vn] w fun e w' => e = .returned (.bool true) ∧ Turn no w w' := by
  have c1 := alive9 w
  obtain ⟨va, vcap, ev⟩ := h.shape
  obtain ⟨na, ncap, en⟩ := hx.shape
  obtain ⟨n, hn⟩ : ∃ n, Hid (l.length = n) := ⟨_, rfl⟩
  obtain ⟨nn, hnn⟩ : ∃ nn, Hid (nx.length = nn) := ⟨_, rfl⟩
  obtain ⟨an, han⟩ : ∃ an, Hid (ac.length = an) := ⟨_, rfl⟩
  rw [show l.length = n from hn.out] at ev
  rw [show nx.length = nn from hnn.out] at en
  have cM := fun W (hT : Turn no w W) (hL : weighE l = 0) => made10 W v l aa acap ac (h.turn_no hT) (A.turn_no hT) hL
  rw [show ac.length = an from han.out] at cM ⊢
  subst ev
  subst en
  clear A
  go_enter Try.func3, Try.ntmps3
  go_wp2_with fail
  refine c1.mono ?_
  rintro e w1 ⟨rfl, T⟩
  have c2 := rnew16_any w1 _ l (h.turn_no T) hb
  clear c1
  go_wp2_with fail
  refine c2.mono ?_
  rintro e w2 ⟨u, rfl, M, t⟩
  have TA : Turn no w2 (w2.alloc (.cells #[u] 26)) := (Turn.refl no w2).alloc _
  have T := (T.then_no t).then_no TA
  have c3 := rnew16_any _ _ nx (hx.turn_no T) hbx
  obtain ⟨ua, uc, eu⟩ := M.shape
  generalize (newL l).length = ul at *
  subst eu
  clear c2 M t TA
  go_wp2_with fail
  generalize w2.alloc (.cells #[.slice ua ul uc] 26) = w3 at *
  refine c3.mono ?_
  rintro e w4 ⟨u2, rfl, M2, t⟩
  have TB : Turn no w4 (w4.alloc (.cells #[u2] 26)) := (Turn.refl no w4).alloc _
  have T := (T.then_no t).then_no TB
  obtain ⟨ua2, uc2, eu2⟩ := M2.shape
  generalize (newL nx).length = ul2 at *
  subst eu2
  clear c3 M2 t TB
  by_cases hL : weighE l = 0
  · by_cases hX : weighE nx = 0
    · rw [hL, hX]
      have cM := cM _ T hL
      have hms := made_sound l ac hL
      obtain ⟨y, hy⟩ : ∃ y, Hid (madeL l ac = y) := ⟨_, rfl⟩
      rw [show madeL l ac = y from hy.out] at cM hms
      have cR := fun W u M hT => renew11_yes W u (.slice na nn ncap) y nx M (hx.turn_no hT) hms hX
      have hra := renew_sound y nx hX
      have hrw : weighE (renewL y nx) = 0 := by rw [keys_weigh (renew_keys y nx)]; exact hX
      have cR2 := fun W u M hT => renew11_yes W u (.slice na nn ncap) (renewL y nx) nx M (hx.turn_no hT) hra hX
      have cR3 := fun W u M M' => renew11_yes W u u (renewL y nx) (renewL y nx) M M' hra hrw
      rw [renew_twice y nx hX] at cR2
      rw [renew_own y nx hX] at cR3
      obtain ⟨z, hz⟩ : ∃ z, Hid (renewL y nx = z) := ⟨_, rfl⟩
      rw [show renewL y nx = z from hz.out] at cR cR2 cR3
      obtain ⟨zl, hzl⟩ : ∃ zl, Hid (z.length = zl) := ⟨_, rfl⟩
      obtain ⟨yl, hyl⟩ : ∃ yl, Hid (y.length = yl) := ⟨_, rfl⟩
      clear hms hra hrw hL hX h
      go_wp2_with fail
      generalize w4.alloc (.cells #[.slice ua2 ul2 uc2] 26) = w5 at *
      refine cM.mono ?_
      rintro e w6 ⟨uy, rfl, MY, t⟩
      have TC : Turn no w6 (w6.alloc (.cells #[uy] 26)) := (Turn.refl no w6).alloc _
      have BY := Bx.new w6 uy 26
      have T := (T.then_no t).then_no TC
      have MY := MY.ms.turn_no TC
      have c5 := cR _ _ MY T
      obtain ⟨ya, yc, ey⟩ := MY.shape
      rw [show y.length = yl from hyl.out] at ey
      subst ey
      clear cM t TC
      go_wp2_with fail
      generalize w6.alloc (.cells #[.slice ya yl yc] 26) = w7 at *
      refine c5.mono ?_
      rintro e w8 ⟨uz, rfl, MZ, t⟩
      have TD : Turn no w8 (w8.alloc (.cells #[uz] 26)) := (Turn.refl no w8).alloc _
      have BZ := Bx.new w8 uz 26
      have T := (T.then_no t).then_no TD
      have MZ := MZ.ms.turn_no TD
      have c6 := cR2 _ _ MZ T
      obtain ⟨za, zc, ez⟩ := MZ.shape
      rw [show z.length = zl from hzl.out] at ez
      subst ez
      clear c5 cR t TD
      go_wp2_with fail
      generalize w8.alloc (.cells #[.slice za zl zc] 26) = w9 at *
      refine c6.mono ?_
      rintro e w10 ⟨ub, rfl, MB, t⟩
      have TE : Turn no w10 (w10.alloc (.cells #[ub] 26)) := (Turn.refl no w10).alloc _
      have BB := Bx.new w10 ub 26
      have t2 := t.then_no TE
      have T := T.then_no t2
      have BZ := BZ.turn_no t2
      have MZ := MZ.turn_no t2
      have MB := MB.ms.turn_no TE
      have k1 := BZ.c
      have c7 := cR3 _ _ MZ MZ
      obtain ⟨ba, bc, eb⟩ := MB.shape
      rw [show z.length = zl from hzl.out] at eb
      subst eb
      clear c6 cR2 t t2 TE
      go_wp2_with fail
      generalize w10.alloc (.cells #[.slice ba zl bc] 26) = w11 at *
      refine c7.mono ?_
      rintro e w12 ⟨ud, rfl, MD, t⟩
      have TF : Turn no w12 (w12.alloc (.cells #[ud] 26)) := (Turn.refl no w12).alloc _
      have BD := Bx.new w12 ud 26
      have t2 := t.then_no TF
      have T := T.then_no t2
      have BZ := BZ.turn_no t2
      have MZ := MZ.turn_no t2
      have BB := BB.turn_no t2
      have MB := MB.turn_no t2
      have MD := MD.ms.turn_no TF
      have k1 := BZ.c
      have k2 := BB.c
      have k3 := BD.c
      have c8 := same13 _ _ _ z MZ MB
      obtain ⟨da, dc, ed⟩ := MD.shape
      rw [show z.length = zl from hzl.out] at ed
      subst ed
      clear c7 cR3 t t2 TF
      go_wp2_with fail
      generalize w12.alloc (.cells #[.slice da zl dc] 26) = w13 at *
      refine c8.mono ?_
      rintro e w14 ⟨rfl, t⟩
      have T := T.then_no t
      have k1 := (BZ.turn_no t).c
      have k3 := (BD.turn_no t).c
      have c9 := same13 _ _ _ z (MZ.turn_no t) (MD.turn_no t)
      clear c8 t k2
      go_wp2_with fail
      refine c9.mono ?_
      rintro e w15 ⟨rfl, t⟩
      have T := T.then_no t
      go_wp2_with fail
      go_ret
      exact ⟨rfl, T⟩
    · rw [hL]
      have hX' : (weighE nx == 0) = false := by simp; exact hX
      have hX2 : (weighE nx != 0) = true := by simp; exact hX
      generalize weighE nx = xE at *
      clear cM hL
      go_wp2_with fail
      go_ret
      exact ⟨rfl, T⟩
  · have hL' : (weighE l == 0) = false := by simp; exact hL
    have hL2 : (weighE l != 0) = true := by simp; exact hL
    clear cM
    generalize weighE l = lE at *
    generalize weighE nx = xE at *
    go_wp2_with fail
    go_ret
    exact ⟨rfl, T⟩

set_option maxRecDepth 100000 in
theorem twice_lifted (os : Os) (started : os.Started) (H : Type) (enc : TypeId × Value → H) :
    ReturnsInHanded {} Try.checked os 3 .any (Rows.councilTwiceSpec.pre6 enc Try.prog Try.f3 Rows.councilTwiceRow.domain false) (Rows.councilTwiceSpec.post enc Try.prog Try.f3 false true false false) := by
  refine returnsInHanded_of_change_sized (C := Try.checked) own started (by kernel_rfl) Try.func3
    (ChangeSpec.witness6 (enc := enc) (C := Try.checked) false ⟨#[], #[.slice none 0 0, .slice none 0 0, .slice none 0 0], []⟩ 8 (by kernel_rfl) (by kernel_rfl) (by kernel_rfl) (by kernel_rfl)) ?_
  intro W base args ds gs before hval0 hW hcnd hsz _
  have hval : ∀ (j : Nat) t v, Try.f3.params[j]? = some t → args[j]? = some v → Value.okWide Try.prog W .any base t v := hval0
  have hW' := hW
  obtain ⟨p, q, hA0, hV, rfl, hfz, hnd⟩ := hW
  have hA : DataW.TrodAll enc Try.prog W 0 (fun _ => true) true Try.f3.params.toList args.toList ds p := hA0
  rw [Try.params3] at hA hval hsz
  obtain ⟨v0, v1, v2, d0, d1, d2, p0, p1, p2, rfl, rfl, rfl, h0, h1, h2⟩ := trodAll_three hA
  obtain ⟨rfl, rfl⟩ := trodVars_none hV
  have k0 := h0
  have k1 := h1
  have k2 := h2
  have lt0 : ∀ x ∈ p0, x.block < W.heap.size := by obtain ⟨m, hm⟩ := k0; exact DataW.trod_lt m _ _ _ hm
  have lt1 : ∀ x ∈ p1, x.block < W.heap.size := by obtain ⟨m, hm⟩ := k1; exact DataW.trod_lt m _ _ _ hm
  have lt2 : ∀ x ∈ p2, x.block < W.heap.size := by obtain ⟨m, hm⟩ := k2; exact DataW.trod_lt m _ _ _ hm
  obtain ⟨a0, l0, c0, rfl⟩ := okWide_slice Try.underlying22 (hval 0 22 v0 rfl rfl)
  obtain ⟨a1, l1, c1, rfl⟩ := okWide_slice Try.underlying23 (hval 1 23 v1 rfl rfl)
  obtain ⟨a2, l2, c2, rfl⟩ := okWide_slice Try.underlying22 (hval 2 22 v2 rfl rfl)
  obtain ⟨m0, t0⟩ := h0
  obtain ⟨m1, t1⟩ := h1
  obtain ⟨m2, t2⟩ := h2
  obtain ⟨l, M, hw⟩ := open_ms (v := .slice a0 l0 c0) t0
  obtain ⟨aa, acap, ac, ea, A⟩ := open_acts (v := .slice a1 l1 c1) t1 (sized_of hsz (j := 1) rfl rfl)
  obtain ⟨nx, M2, hw2⟩ := open_ms (v := .slice a2 l2 c2) t2
  have hle := ms_sized hsz (j := 0) rfl rfl hw
  have hle2 := ms_sized hsz (j := 2) rfl rfl hw2
  have hwalk := twice_any W _ _ l nx aa acap ac M A M2 hle hle2
  rw [← ea] at hwalk
  clear hA0 hval0
  refine hwalk.mono fun e W' ⟨he, tt⟩ => ?_
  subst he
  have bel := tt.below
  exact ⟨_, rfl, _, _, _, [], _, [], hW', trodAll_mk1 (shut_bool Try.underlying4 _), (trodAll_mk3 (Below.trod laidOut (by kernel_rfl) (of_decide_eq_true (by kernel_rfl)) k0 bel lt0) (Below.trod laidOut (by kernel_rfl) (of_decide_eq_true (by kernel_rfl)) k1 bel lt1) (Below.trod laidOut (by kernel_rfl) (of_decide_eq_true (by kernel_rfl)) k2 bel lt2)), rfl, bel.frame _, fun h => by cases h⟩

theorem twice_holds : Rows.CouncilTwiceSaid :=
  OpenClaim.holds_of_wide 3 Try.f3 rfl rfl rfl rfl rfl rfl rfl ⟨rfl, rfl, rfl, rfl, rfl⟩ rfl rfl rfl rfl rfl (by kernel_rfl) Try.func3 (by kernel_rfl)
    (of_decide_eq_true (by kernel_rfl)) (by unfold Func.isWrapper; first | (rw [if_pos (by decide +kernel)]; kernel_rfl) | (rw [if_neg (by decide +kernel)]; exact ⟨rfl, rfl⟩))
    (fun os started H enc _ => twice_lifted os started H enc)
#print axioms twice_holds
end Go.Proofs.Ytcmoocoklhjkfab
