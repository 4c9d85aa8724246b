/- made: acts, one behind the other. -/
import Derived.Test.YtcmoocoklhjkfabRenews
namespace Go.Proofs.Ytcmoocoklhjkfab
open Go.RowKit
set_option linter.unusedVariables false

theorem turns_add (t : Nat) (l : List Mb) (a b : Nat) : turnsN t (turnsN t l a) b = turnsN t l (a + b) := by
  induction b with
  | zero => rfl
  | succ b ih => rw [turnsN, ih, ← Nat.add_assoc, turnsN]
theorem turns_tot (t : Nat) (l : List Mb) (k : Nat) : tot (turnsN t l k) = tot l := keys_tot (turns_keys t l k)
theorem turns_sound (l : List Mb) (h : soundE l = 0) (k : Nat) : soundE (turnsN (tot l) l k) = 0 := by
  refine sound_end _ ?_ (fun m hm => ?_)
  · rw [keys_weigh (turns_keys (tot l) l k)]
    exact (sound_ok l h).1
  · rw [turns_tot]
    have := turns_in (sound_in l h) k m hm
    simp [wideB]
    omega

/-- An act: how many turns, and a list. -/
structure Actx where
  tn : Int
  vl : Value
  l : List Mb
def act0 : Actx := ⟨0, .slice none 0 0, []⟩
def turnsOf (n : Int) : Nat := if n < 0 then (-(n + 1)).toNat % 300 else n.toNat % 300
theorem turnsOf_lt (n : Int) : turnsOf n < 300 := by unfold turnsOf; split <;> omega
def stepL (x : List Mb) (a : Actx) : List Mb := if weighE a.l = 0 then renewL (turnsN (tot x) x (turnsOf a.tn)) a.l else turnsN (tot x) x (turnsOf a.tn)
def madeL (l : List Mb) (ac : List Actx) : List Mb := ac.foldl stepL (zeroed l)
theorem step_sound (x : List Mb) (a : Actx) (h : soundE x = 0) : soundE (stepL x a) = 0 := by
  unfold stepL
  split
  · rename_i hl
    exact renew_sound _ _ hl
  · exact turns_sound x h _
theorem made_take_succ (l : List Mb) (ac : List Actx) (k : Nat) (a : Actx) (h : ac[k]? = some a) : madeL l (ac.take (k + 1)) = stepL (madeL l (ac.take k)) a := by
  unfold madeL
  rw [List.take_add_one, h]
  simp
theorem foldl_sound (ac : List Actx) : ∀ x, soundE x = 0 → soundE (ac.foldl stepL x) = 0 := by
  induction ac with
  | nil => intro x hx; exact hx
  | cons a ac ih => intro x hx; exact ih _ (step_sound x a hx)
theorem made_sound (l : List Mb) (ac : List Actx) (h : weighE l = 0) : soundE (madeL l ac) = 0 := foldl_sound ac _ (by rw [zeroed_sound]; exact h)

/-- A list of acts, wherever it lies. -/
structure Acts (w : World) (a : Option Addr) (cap : Nat) (ac : List Actx) : Prop where
  le : ac.length ≤ cap
  most : cap ≤ maxLen
  cells : ∀ (j : Nat) (x : Actx), ac[j]? = some x → ∃ b off, a = some ⟨b, off, none⟩ ∧ b < w.heap.size ∧ w.cell? ⟨b, off + j * 2, none⟩ = some (.int .i64 x.tn) ∧ w.cell? ⟨b, off + j * 2 + 1, none⟩ = some x.vl ∧ Ms w x.vl x.l ∧ x.l.length * 24 ≤ 140737488351232 ∧ (-9223372036854775808 ≤ x.tn ∧ x.tn < 9223372036854775808) ∧ (x.l ≠ [] → ∀ g, x.vl.ownBlock = some g → g < w.heap.size)

set_option maxRecDepth 100000 in
set_option maxHeartbeats 1000000 in
theorem turns23 (w : World) (n : Int) (h0 : -9223372036854775808 ≤ n) (h1 : n < 9223372036854775808) : Calls Try.prog 23 #[.int .i64 n] w fun e w' => e = .returned (.int .i64 (turnsOf n)) ∧ w' = w := by
  by_cases hn : n < 0
  · have HT : Hid (turnsOf n = (-(n + 1)).toNat % 300) := by show turnsOf n = _; rw [turnsOf, if_pos hn]
    have e1 : -(n + 1) ≤ 9223372036854775807 := by omega
    have e2 : 0 ≤ -(n + 1) := by omega
    obtain ⟨k, hk⟩ : ∃ k : Nat, -(n + 1) = (k : Int) := ⟨(-(n + 1)).toNat, by omega⟩
    have e3 : (k : Int) ≤ 9223372036854775807 := by omega
    have hn1 : n + 1 ≤ 0 := by omega
    have hn2 : -9223372036854775808 ≤ n + 1 := by omega
    clear e1 e2
    go_enter Try.func23, Try.ntmps23
    go_wp2_with fail
    go_ret
    refine ⟨ret_i ?_, rfl⟩
    rw [HT.out, hk]
    simp
  · have HT : Hid (turnsOf n = n.toNat % 300) := by show turnsOf n = _; rw [turnsOf, if_neg hn]
    obtain ⟨k, hk⟩ : ∃ k : Nat, n = (k : Int) := ⟨n.toNat, by omega⟩
    subst hk
    go_enter Try.func23, Try.ntmps23
    go_wp2_with fail
    go_ret
    refine ⟨ret_i ?_, rfl⟩
    rw [HT.out]
    simp

set_option maxRecDepth 100000 in
set_option maxHeartbeats 2000000 in
theorem made10 (w : World) (v : Value) (l : List Mb) (aa : Option Addr) (acap : Nat) (ac : List Actx) (h : Ms w v l) (A : Acts w aa acap ac) (hL : weighE l = 0) : Calls Try.prog 10 #[v, .slice aa ac.length acap] w fun e w' => ∃ u, e = .returned (.tuple #[.agg #[u], .bool true]) ∧ Made w.heap.size w' u (madeL l ac) ∧ Turn no w w' := by
  have T0 : Turn no w (w.alloc (.cells #[.slice none 0 0] 26)) := (Turn.refl no w).alloc _
  have B0 := Bx.new w (.slice none 0 0) 26
  have hnew := new15_yes _ v l (h.turn_no T0) hL
  have hle : ac.length ≤ 9223372036854775807 := by have := A.le; have := A.most; simp only [maxLen] at this; omega
  have hcells := A.cells
  have hms := fun k => made_sound l (ac.take k) hL
  have hsucc := fun k a ha => made_take_succ l ac k a ha
  have hm0 : madeL l (ac.take 0) = zeroed l := rfl
  have hml : Hid (madeL l (ac.take ac.length) = madeL l ac) := by show _ = _; rw [List.take_length]
  have hz0 : w.heap.size < (w.alloc (.cells #[.slice none 0 0] 26)).heap.size := by simp
  rw [← hm0] at hnew
  clear h A hL hm0
  obtain ⟨n, hn⟩ : ∃ n, Hid (ac.length = n) := ⟨_, rfl⟩
  have hn' : ac.length = n := hn.out
  rw [hn'] at hle hml ⊢
  clear hn'
  go_enter Try.func10, Try.ntmps10
  go_wp2_with fail
  refine hnew.mono ?_
  rintro e w1 ⟨u, rfl, MD, T1⟩
  have B1 := B0.turn_no T1
  have T := T0.then_no T1
  have hz1 := T1.size
  have TA : Turn no w1 (w1.alloc (.cells #[u] 26)) := (Turn.refl no w1).alloc _
  have BP := Bx.new w1 u 26
  have B2 := B1.turn_no TA
  have T2 := T.then_no TA
  have MD2 : Made (w.heap.size + 1) (w1.alloc (.cells #[u] 26)) u (madeL l (ac.take 0)) := by
    obtain ⟨g, cap, e, R, ho⟩ := MD
    exact ⟨g, cap, e, R.turn_no TA, by simpa using ho⟩
  have hup : ∀ g, u.ownBlock = some g → g ≠ w1.heap.size := by
    obtain ⟨g, cap, e, R, ho⟩ := MD
    intro g' hg'
    rw [e] at hg'
    cases hg'
    exact Nat.ne_of_lt R.lt
  obtain ⟨p, hp⟩ : ∃ p, Hid (w1.heap.size = p) := ⟨_, rfl⟩
  have hpw : w.heap.size < p := by rw [← hp.out]; omega
  obtain ⟨ug, uc, eu, _⟩ := MD
  obtain ⟨ul0, hul0⟩ : ∃ ul0, Hid ((madeL l (ac.take 0)).length = ul0) := ⟨_, rfl⟩
  rw [show (madeL l (ac.take 0)).length = ul0 from hul0.out] at eu
  subst eu
  clear hnew T1 B0 B1 T0
  go_wp2_with fail
  rw [show w1.heap.size = p from hp.out] at BP hup ⊢
  clear hp T hz1
  generalize w1.alloc (.cells #[.slice (some ⟨ug, 0, none⟩) ul0 uc] 26) = w2 at *
  go_loopw [8] (fun x wr => ∃ (k : Nat) (u : Value), k ≤ n ∧ x = .int .i64 k ∧ Bx wr p u ∧ Made (w.heap.size + 1) wr u (madeL l (ac.take k)) ∧ (∀ g, u.ownBlock = some g → g ≠ p) ∧ Bx wr w.heap.size (.slice none 0 0) ∧ Turn no w wr) (fun x _ => n - (intOf x).toNat)
  case atStart => exact ⟨0, _, by omega, rfl, BP, MD2, hup, B2, T2⟩
  case round =>
    clear BP MD2 hup B2 T2
    obtain ⟨k, u, hk, rfl, BP, MD, hup, B2, T⟩ := hrel
    have hpl := BP.lt
    by_cases hlt : k < n
    · obtain ⟨a, ha⟩ : ∃ a, ac[k]? = some a := ⟨ac[k]'(by rw [hn.out]; exact hlt), List.getElem?_eq_getElem _⟩
      have hlt' : (k : Int) < (n : Int) := by omega
      obtain ⟨b, off, rfl, hbw, c0, c1, hMa, hbl, htb, hold⟩ := hcells k a ha
      have hbp : b ≠ p := by omega
      have hsx := hms k
      have hst := hsucc k a ha
      obtain ⟨x, hx⟩ : ∃ x, Hid (madeL l (ac.take k) = x) := ⟨_, rfl⟩
      rw [show madeL l (ac.take k) = x from hx.out] at MD hsx hst
      have ctn := fun W => turns23 W a.tn htb.1 htb.2
      have htl := turnsOf_lt a.tn
      have cT := fun W M => turn10_yes W u x M (turnsOf a.tn) hsx (by omega)
      have hsy := turns_sound x hsx (turnsOf a.tn)
      obtain ⟨y, hy⟩ : ∃ y, Hid (turnsN (tot x) x (turnsOf a.tn) = y) := ⟨_, rfl⟩
      rw [show turnsN (tot x) x (turnsOf a.tn) = y from hy.out] at cT hsy
      have hst2 : madeL l (ac.take (k + 1)) = if weighE a.l = 0 then renewL y a.l else y := by rw [hst, stepL, hy.out]
      have M := MD.ms
      have Ma := hMa.turn_no T
      have d0 := T.keep c0 (fun q => q)
      have d1 := T.keep c1 (fun q => q)
      have bx := BP.c
      have bf := BP.f
      obtain ⟨ug, uc, eu, _⟩ := MD
      obtain ⟨xl, hxl⟩ : ∃ xl, Hid (x.length = xl) := ⟨_, rfl⟩
      rw [show x.length = xl from hxl.out] at eu
      subst eu
      obtain ⟨tk, htk⟩ : ∃ tk, Hid (turnsOf a.tn = tk) := ⟨_, rfl⟩
      rw [show turnsOf a.tn = tk from htk.out] at ctn cT htl
      have hbq : ∀ W, Turn (fun b => b = p) wr W → ∀ (o : Nat) (z : Value), wr.cell? ⟨b, o, none⟩ = some z → W.cell? ⟨b, o, none⟩ = some z := fun W hW o z hz => hW.keep hz (fun q => hbp q)
      clear hcells hms hsucc hst hsx ha hx hy
      go_wp2_with fail
      refine wp_region_held_drew (S := fun W => Turn (fun b => b = p) wr W) (by kernel_rfl) (Turn.refl _ wr).drew (fun hHeld => ?_)
      refine' wpAnyH_take (i := 1) (v := .slice (some ⟨b, off, none⟩) n acap) rfl (by kernel_rfl) (by kernel_rfl) (by kernel_rfl) (fun _ _ _ h => h) (Or.inl ⟨by kernel_rfl, fun W hW => ?y1⟩) hHeld ?r1
      · go_simp
      refine' wpAnyH_take (i := 2) (v := .int .i64 k) rfl (by kernel_rfl) (by kernel_rfl) (by kernel_rfl) (fun _ _ _ h => h) (Or.inl ⟨by kernel_rfl, fun W hW => ?y2⟩) hHeld ?r2
      · go_simp
      refine' wpAnyH_take (i := 3) (v := .pointer (some ⟨b, off + k * 2, none⟩)) rfl (by kernel_rfl) (by kernel_rfl) (by kernel_rfl) (fun _ _ _ h => h) (Or.inl ⟨by kernel_rfl, fun W hW => ?y3⟩) hHeld ?r3
      · go_simp
      refine' wpAnyH_take (i := 4) (v := .pointer (some ⟨b, off + k * 2, none⟩)) rfl (by kernel_rfl) (by kernel_rfl) (by kernel_rfl) (fun _ _ _ h => h) (Or.inl ⟨by kernel_rfl, fun W hW => ?y4⟩) hHeld ?r4
      · go_simp
      refine' wpAnyH_take (i := 5) (v := .int .i64 a.tn) rfl (by kernel_rfl) (by kernel_rfl) (by kernel_rfl) (fun _ _ _ h => h) (Or.inl ⟨by kernel_rfl, fun W hW => ?y5⟩) hHeld ?r5
      · have c := hbq W hW _ _ d0
        go_simp
      refine wpAnyH_ready (rs := [0, 6]) (by kernel_rfl) (by simp) ?_
      refine AllReadyH.cons rfl (fun K hK => ?_) (AllReadyH.cons rfl (fun K hK => ?_) AllReadyH.nil)
      · go_simp
        refine hK.out _ _ hHeld (fun hHeld => ?_)
        clear hK
        refine wpAnyH_ready (rs := [6]) (by kernel_rfl) (by simp) ?_
        refine AllReadyH.cons rfl (fun K hK => ?_) AllReadyH.nil
        go_simp
        refine (ctn _).mono ?_
        rintro e w3 ⟨rfl, e3⟩
        have e3 := e3.symm
        subst e3
        go_wp2_with fail
        refine hK.out _ _ hHeld (fun hHeld => ?_)
        clear hK
        have M2 := M.turn_no ((Turn.refl no wr).drew)
        refine wpAnyH_ready (rs := [7]) (by kernel_rfl) (by simp) ?_
        refine AllReadyH.cons rfl (fun K hK => ?_) AllReadyH.nil
        go_simp
        refine (cT _ M2).mono ?_
        rintro e w4 ⟨uy, rfl, MY, t⟩
        have t1 : Turn no wr w4 := (Turn.refl no wr).drew.then_no t
        obtain ⟨gy, cy, ey, RY, hgy⟩ := MY
        obtain ⟨yl, hyl⟩ : ∃ yl, Hid (y.length = yl) := ⟨_, rfl⟩
        rw [show y.length = yl from hyl.out] at ey
        subst ey
        go_wp2_with fail
        refine hK.out _ _ t1.of_no (fun hHeld => ?_)
        clear hK
        refine' wpAnyH_take (i := 8) (v := .tuple #[.agg #[.slice (some ⟨gy, 0, none⟩) yl cy], .int .i64 0]) rfl (by kernel_rfl) (by kernel_rfl) (by kernel_rfl) (fun _ _ _ h => h) (Or.inl ⟨by kernel_rfl, fun W hW => ?y6⟩) hHeld ?r6
        · go_simp
        refine' wpAnyH_take (i := 9) (v := .agg #[.slice (some ⟨gy, 0, none⟩) yl cy]) rfl (by kernel_rfl) (by kernel_rfl) (by kernel_rfl) (fun _ _ _ h => h) (Or.inl ⟨by kernel_rfl, fun W hW => ?y7⟩) hHeld ?r7
        · go_simp
        refine' wpAnyH_take (i := 10) (v := .int .i64 0) rfl (by kernel_rfl) (by kernel_rfl) (by kernel_rfl) (fun _ _ _ h => h) (Or.inl ⟨by kernel_rfl, fun W hW => ?y8⟩) hHeld ?r8
        · go_simp
        refine wpAnyH_ready (rs := [11]) (by kernel_rfl) (by simp) ?_
        refine AllReadyH.cons rfl (fun K hK => ?_) AllReadyH.nil
        have BP4 := BP.turn_no t1
        have x4 := BP4.c
        have f4 := BP4.f
        have hgy' : wr.heap.size ≤ gy := hgy
        have hyp : gy ≠ p := by omega
        go_simp
        have TS : Turn (fun b => b = p) wr (w4.setCell ⟨p, 0, none⟩ (.slice (some ⟨gy, 0, none⟩) yl cy)) := (t1.of_no (S := fun b => b = p)).setCell (p := ⟨p, 0, none⟩) (fun _ => rfl) _
        refine hK.out _ _ TS (fun hHeld => ?_)
        clear hK
        refine wpAnyH_ready (rs := [12]) (by kernel_rfl) (by simp) ?_
        refine AllReadyH.cons rfl (fun K hK => ?_) AllReadyH.nil
        go_simp
        refine hK.out _ _ TS (fun hHeld => ?_)
        clear hK
        refine wpAnyH_done (by kernel_rfl) ?_ _
        have BP5 := BP4.put (.slice (some ⟨gy, 0, none⟩) yl cy)
        have RY5 := RY.turn ((Turn.refl (fun b => b = p) w4).setCell (p := ⟨p, 0, none⟩) (fun _ => rfl) (.slice (some ⟨gy, 0, none⟩) yl cy)) (fun q => by omega)
        have Tw5 : Turn no w (w4.setCell ⟨p, 0, none⟩ (.slice (some ⟨gy, 0, none⟩) yl cy)) := (T.of_no.trans TS (fun _ _ q => q)).mono (fun b hb q => by omega)
        have e0 := hbq _ TS _ _ d0
        have e1 := hbq _ TS _ _ d1
        have Ma5 := Ma.late TS (fun hne g hg q => by have := hold hne g hg; omega)
        have B25 := B2.turn TS (fun q => by omega)
        clear hHeld x4 f4 BP4 t t1 RY M M2 ctn cT bx bf hbq hMa c0 c1
        generalize w4.setCell ⟨p, 0, none⟩ (.slice (some ⟨gy, 0, none⟩) yl cy) = w5 at *
        have hp5 := BP5.lt
        have cN := rnew16_any w5 _ a.l Ma5 hbl
        obtain ⟨la, lc, el⟩ := Ma5.shape
        obtain ⟨ll, hll⟩ : ∃ ll, Hid (a.l.length = ll) := ⟨_, rfl⟩
        rw [show a.l.length = ll from hll.out] at el
        rw [el] at e1 Ma5 cN
        go_wp2_with fail
        refine cN.mono ?_
        rintro e w6 ⟨un, rfl, MN, t6⟩
        have TN : Turn no w6 (w6.alloc (.cells #[un] 26)) := (Turn.refl no w6).alloc _
        have t7 := t6.then_no TN
        have BP7 := BP5.turn_no t7
        have RY7 := RY5.turn_no t7
        have Tw7 := Tw5.then_no t7
        have g1 := t7.keep e1 (fun q => q)
        have Ma7 := Ma5.turn_no t7
        have B27 := B25.turn_no t7
        obtain ⟨na, nc, en⟩ := MN.shape
        generalize (newL a.l).length = nl at *
        subst en
        clear cN t6 TN MN BP5 RY5 Tw5 e0 e1 B25 d0 d1 Ma
        by_cases hwl : weighE a.l = 0
        · rw [hwl]
          have HST : Hid (madeL l (ac.take (k + 1)) = renewL y a.l) := by show _ = _; rw [hst2, if_pos hwl]
          clear hst2
          go_wp2_with fail
          generalize w6.alloc (.cells #[.slice na nl nc] 26) = w7 at *
          have bx7 := BP7.c
          have bf7 := BP7.f
          have hp7 := BP7.lt
          have MY7 : Ms w7 (.slice (some ⟨gy, 0, none⟩) yl cy) y := ⟨_, cy, by rw [show y.length = yl from hyl.out], RY7.at⟩
          have cW := fun W (hT : Turn no w7 W) => renew11_yes W _ _ y a.l (MY7.turn_no hT) (Ma7.turn_no hT) hsy hwl
          have hbq7 : ∀ W, Turn (fun b => b = p) w7 W → ∀ (o : Nat) (z : Value), w7.cell? ⟨b, o, none⟩ = some z → W.cell? ⟨b, o, none⟩ = some z := fun W hW o z hz => hW.keep hz (fun q => hbp q)
          refine wp_region_held_drew (S := fun W => Turn (fun b => b = p) w7 W) (by kernel_rfl) (Turn.refl _ w7).drew (fun hHeld => ?_)
          refine' wpAnyH_take (i := 1) (v := .slice (some ⟨b, off, none⟩) n acap) rfl (by kernel_rfl) (by kernel_rfl) (by kernel_rfl) (fun _ _ _ h => h) (Or.inl ⟨by kernel_rfl, fun W hW => ?y9⟩) hHeld ?r9
          · go_simp
          refine' wpAnyH_take (i := 2) (v := .int .i64 k) rfl (by kernel_rfl) (by kernel_rfl) (by kernel_rfl) (fun _ _ _ h => h) (Or.inl ⟨by kernel_rfl, fun W hW => ?y10⟩) hHeld ?r10
          · go_simp
          refine' wpAnyH_take (i := 3) (v := .pointer (some ⟨b, off + k * 2, none⟩)) rfl (by kernel_rfl) (by kernel_rfl) (by kernel_rfl) (fun _ _ _ h => h) (Or.inl ⟨by kernel_rfl, fun W hW => ?y11⟩) hHeld ?r11
          · go_simp
          refine' wpAnyH_take (i := 4) (v := .pointer (some ⟨b, off + k * 2 + 1, none⟩)) rfl (by kernel_rfl) (by kernel_rfl) (by kernel_rfl) (fun _ _ _ h => h) (Or.inl ⟨by kernel_rfl, fun W hW => ?y12⟩) hHeld ?r12
          · go_simp
          refine' wpAnyH_take (i := 5) (v := .slice la ll lc) rfl (by kernel_rfl) (by kernel_rfl) (by kernel_rfl) (fun _ _ _ h => h) (Or.inl ⟨by kernel_rfl, fun W hW => ?y13⟩) hHeld ?r13
          · have c := hbq7 W hW _ _ g1
            go_simp
          refine wpAnyH_ready (rs := [0]) (by kernel_rfl) (by simp) ?_
          refine AllReadyH.cons rfl (fun K hK => ?_) AllReadyH.nil
          go_simp
          refine hK.out _ _ hHeld (fun hHeld => ?_)
          clear hK
          refine wpAnyH_ready (rs := [6]) (by kernel_rfl) (by simp) ?_
          refine AllReadyH.cons rfl (fun K hK => ?_) AllReadyH.nil
          go_simp
          refine (cW _ ((Turn.refl no w7).drew)).mono ?_
          rintro e w8 ⟨uz, rfl, MZ, t⟩
          have t8 : Turn no w7 w8 := (Turn.refl no w7).drew.then_no t
          obtain ⟨gz, cz, ez, RZ, hgz⟩ := MZ
          obtain ⟨zl, hzl⟩ : ∃ zl, Hid ((renewL y a.l).length = zl) := ⟨_, rfl⟩
          rw [show (renewL y a.l).length = zl from hzl.out] at ez
          subst ez
          go_wp2_with fail
          refine hK.out _ _ t8.of_no (fun hHeld => ?_)
          clear hK
          refine' wpAnyH_take (i := 7) (v := .tuple #[.agg #[.slice (some ⟨gz, 0, none⟩) zl cz], .int .i64 0]) rfl (by kernel_rfl) (by kernel_rfl) (by kernel_rfl) (fun _ _ _ h => h) (Or.inl ⟨by kernel_rfl, fun W hW => ?y14⟩) hHeld ?r14
          · go_simp
          refine' wpAnyH_take (i := 8) (v := .agg #[.slice (some ⟨gz, 0, none⟩) zl cz]) rfl (by kernel_rfl) (by kernel_rfl) (by kernel_rfl) (fun _ _ _ h => h) (Or.inl ⟨by kernel_rfl, fun W hW => ?y15⟩) hHeld ?r15
          · go_simp
          refine' wpAnyH_take (i := 9) (v := .int .i64 0) rfl (by kernel_rfl) (by kernel_rfl) (by kernel_rfl) (fun _ _ _ h => h) (Or.inl ⟨by kernel_rfl, fun W hW => ?y16⟩) hHeld ?r16
          · go_simp
          refine wpAnyH_ready (rs := [10]) (by kernel_rfl) (by simp) ?_
          refine AllReadyH.cons rfl (fun K hK => ?_) AllReadyH.nil
          have BP8 := BP7.turn_no t8
          have x8 := BP8.c
          have f8 := BP8.f
          have hgz' : w7.heap.size ≤ gz := hgz
          have hzp : gz ≠ p := by omega
          go_simp
          have TZ : Turn (fun b => b = p) w7 (w8.setCell ⟨p, 0, none⟩ (.slice (some ⟨gz, 0, none⟩) zl cz)) := (t8.of_no (S := fun b => b = p)).setCell (p := ⟨p, 0, none⟩) (fun _ => rfl) _
          refine hK.out _ _ TZ (fun hHeld => ?_)
          clear hK
          refine wpAnyH_ready (rs := [11]) (by kernel_rfl) (by simp) ?_
          refine AllReadyH.cons rfl (fun K hK => ?_) AllReadyH.nil
          go_simp
          refine hK.out _ _ TZ (fun hHeld => ?_)
          clear hK
          refine wpAnyH_done (by kernel_rfl) ?_ _
          have BP9 := BP8.put (.slice (some ⟨gz, 0, none⟩) zl cz)
          have RZ9 := RZ.turn ((Turn.refl (fun b => b = p) w8).setCell (p := ⟨p, 0, none⟩) (fun _ => rfl) (.slice (some ⟨gz, 0, none⟩) zl cz)) (fun q => by omega)
          have Tw9 : Turn no w (w8.setCell ⟨p, 0, none⟩ (.slice (some ⟨gz, 0, none⟩) zl cz)) := (Tw7.of_no.trans TZ (fun _ _ q => q)).mono (fun b hb q => by omega)
          have B29 := B27.turn TZ (fun q => by omega)
          clear hHeld x8 f8 BP8 t t8 RZ MY7 cW bx7 bf7 hbq7 RY7 BP7 Tw7 g1 Ma7 B27
          generalize w8.setCell ⟨p, 0, none⟩ (.slice (some ⟨gz, 0, none⟩) zl cz) = w9 at *
          go_wp2_with fail
          go_roundw
          case rel => exact ⟨k + 1, _, by omega, by go_num, BP9, by rw [HST.out]; exact ⟨gz, cz, by rw [hzl.out], RZ9, by omega⟩, (fun g hg => by cases hg; exact hzp), B29, Tw9⟩
          case measure => simp [intOf]; omega
        · have hwl' : (weighE a.l == 0) = false := by simp; exact hwl
          have HST : Hid (madeL l (ac.take (k + 1)) = y) := by show _ = _; rw [hst2, if_neg hwl]
          clear hst2
          go_wp2_with fail
          go_roundw
          case rel => exact ⟨k + 1, _, by omega, by go_num, BP7, by rw [HST.out]; exact ⟨gy, cy, by rw [hyl.out], RY7, by omega⟩, (fun g hg => by cases hg; exact hyp), B27, Tw7⟩
          case measure => simp [intOf]; omega
      · go_simp
        refine (ctn _).mono ?_
        rintro e w3 ⟨rfl, e3⟩
        have e3 := e3.symm
        subst e3
        go_wp2_with fail
        refine hK.out _ _ hHeld (fun hHeld => ?_)
        clear hK
        refine wpAnyH_ready (rs := [0]) (by kernel_rfl) (by simp) ?_
        refine AllReadyH.cons rfl (fun K hK => ?_) AllReadyH.nil
        go_simp
        refine hK.out _ _ hHeld (fun hHeld => ?_)
        clear hK
        have M2 := M.turn_no ((Turn.refl no wr).drew)
        refine wpAnyH_ready (rs := [7]) (by kernel_rfl) (by simp) ?_
        refine AllReadyH.cons rfl (fun K hK => ?_) AllReadyH.nil
        go_simp
        refine (cT _ M2).mono ?_
        rintro e w4 ⟨uy, rfl, MY, t⟩
        have t1 : Turn no wr w4 := (Turn.refl no wr).drew.then_no t
        obtain ⟨gy, cy, ey, RY, hgy⟩ := MY
        obtain ⟨yl, hyl⟩ : ∃ yl, Hid (y.length = yl) := ⟨_, rfl⟩
        rw [show y.length = yl from hyl.out] at ey
        subst ey
        go_wp2_with fail
        refine hK.out _ _ t1.of_no (fun hHeld => ?_)
        clear hK
        refine' wpAnyH_take (i := 8) (v := .tuple #[.agg #[.slice (some ⟨gy, 0, none⟩) yl cy], .int .i64 0]) rfl (by kernel_rfl) (by kernel_rfl) (by kernel_rfl) (fun _ _ _ h => h) (Or.inl ⟨by kernel_rfl, fun W hW => ?y17⟩) hHeld ?r17
        · go_simp
        refine' wpAnyH_take (i := 9) (v := .agg #[.slice (some ⟨gy, 0, none⟩) yl cy]) rfl (by kernel_rfl) (by kernel_rfl) (by kernel_rfl) (fun _ _ _ h => h) (Or.inl ⟨by kernel_rfl, fun W hW => ?y18⟩) hHeld ?r18
        · go_simp
        refine' wpAnyH_take (i := 10) (v := .int .i64 0) rfl (by kernel_rfl) (by kernel_rfl) (by kernel_rfl) (fun _ _ _ h => h) (Or.inl ⟨by kernel_rfl, fun W hW => ?y19⟩) hHeld ?r19
        · go_simp
        refine wpAnyH_ready (rs := [11]) (by kernel_rfl) (by simp) ?_
        refine AllReadyH.cons rfl (fun K hK => ?_) AllReadyH.nil
        have BP4 := BP.turn_no t1
        have x4 := BP4.c
        have f4 := BP4.f
        have hgy' : wr.heap.size ≤ gy := hgy
        have hyp : gy ≠ p := by omega
        go_simp
        have TS : Turn (fun b => b = p) wr (w4.setCell ⟨p, 0, none⟩ (.slice (some ⟨gy, 0, none⟩) yl cy)) := (t1.of_no (S := fun b => b = p)).setCell (p := ⟨p, 0, none⟩) (fun _ => rfl) _
        refine hK.out _ _ TS (fun hHeld => ?_)
        clear hK
        refine wpAnyH_ready (rs := [12]) (by kernel_rfl) (by simp) ?_
        refine AllReadyH.cons rfl (fun K hK => ?_) AllReadyH.nil
        go_simp
        refine hK.out _ _ TS (fun hHeld => ?_)
        clear hK
        refine wpAnyH_done (by kernel_rfl) ?_ _
        have BP5 := BP4.put (.slice (some ⟨gy, 0, none⟩) yl cy)
        have RY5 := RY.turn ((Turn.refl (fun b => b = p) w4).setCell (p := ⟨p, 0, none⟩) (fun _ => rfl) (.slice (some ⟨gy, 0, none⟩) yl cy)) (fun q => by omega)
        have Tw5 : Turn no w (w4.setCell ⟨p, 0, none⟩ (.slice (some ⟨gy, 0, none⟩) yl cy)) := (T.of_no.trans TS (fun _ _ q => q)).mono (fun b hb q => by omega)
        have e0 := hbq _ TS _ _ d0
        have e1 := hbq _ TS _ _ d1
        have Ma5 := Ma.late TS (fun hne g hg q => by have := hold hne g hg; omega)
        have B25 := B2.turn TS (fun q => by omega)
        clear hHeld x4 f4 BP4 t t1 RY M M2 ctn cT bx bf hbq hMa c0 c1
        generalize w4.setCell ⟨p, 0, none⟩ (.slice (some ⟨gy, 0, none⟩) yl cy) = w5 at *
        have hp5 := BP5.lt
        have cN := rnew16_any w5 _ a.l Ma5 hbl
        obtain ⟨la, lc, el⟩ := Ma5.shape
        obtain ⟨ll, hll⟩ : ∃ ll, Hid (a.l.length = ll) := ⟨_, rfl⟩
        rw [show a.l.length = ll from hll.out] at el
        rw [el] at e1 Ma5 cN
        go_wp2_with fail
        refine cN.mono ?_
        rintro e w6 ⟨un, rfl, MN, t6⟩
        have TN : Turn no w6 (w6.alloc (.cells #[un] 26)) := (Turn.refl no w6).alloc _
        have t7 := t6.then_no TN
        have BP7 := BP5.turn_no t7
        have RY7 := RY5.turn_no t7
        have Tw7 := Tw5.then_no t7
        have g1 := t7.keep e1 (fun q => q)
        have Ma7 := Ma5.turn_no t7
        have B27 := B25.turn_no t7
        obtain ⟨na, nc, en⟩ := MN.shape
        generalize (newL a.l).length = nl at *
        subst en
        clear cN t6 TN MN BP5 RY5 Tw5 e0 e1 B25 d0 d1 Ma
        by_cases hwl : weighE a.l = 0
        · rw [hwl]
          have HST : Hid (madeL l (ac.take (k + 1)) = renewL y a.l) := by show _ = _; rw [hst2, if_pos hwl]
          clear hst2
          go_wp2_with fail
          generalize w6.alloc (.cells #[.slice na nl nc] 26) = w7 at *
          have bx7 := BP7.c
          have bf7 := BP7.f
          have hp7 := BP7.lt
          have MY7 : Ms w7 (.slice (some ⟨gy, 0, none⟩) yl cy) y := ⟨_, cy, by rw [show y.length = yl from hyl.out], RY7.at⟩
          have cW := fun W (hT : Turn no w7 W) => renew11_yes W _ _ y a.l (MY7.turn_no hT) (Ma7.turn_no hT) hsy hwl
          have hbq7 : ∀ W, Turn (fun b => b = p) w7 W → ∀ (o : Nat) (z : Value), w7.cell? ⟨b, o, none⟩ = some z → W.cell? ⟨b, o, none⟩ = some z := fun W hW o z hz => hW.keep hz (fun q => hbp q)
          refine wp_region_held_drew (S := fun W => Turn (fun b => b = p) w7 W) (by kernel_rfl) (Turn.refl _ w7).drew (fun hHeld => ?_)
          refine' wpAnyH_take (i := 1) (v := .slice (some ⟨b, off, none⟩) n acap) rfl (by kernel_rfl) (by kernel_rfl) (by kernel_rfl) (fun _ _ _ h => h) (Or.inl ⟨by kernel_rfl, fun W hW => ?y20⟩) hHeld ?r20
          · go_simp
          refine' wpAnyH_take (i := 2) (v := .int .i64 k) rfl (by kernel_rfl) (by kernel_rfl) (by kernel_rfl) (fun _ _ _ h => h) (Or.inl ⟨by kernel_rfl, fun W hW => ?y21⟩) hHeld ?r21
          · go_simp
          refine' wpAnyH_take (i := 3) (v := .pointer (some ⟨b, off + k * 2, none⟩)) rfl (by kernel_rfl) (by kernel_rfl) (by kernel_rfl) (fun _ _ _ h => h) (Or.inl ⟨by kernel_rfl, fun W hW => ?y22⟩) hHeld ?r22
          · go_simp
          refine' wpAnyH_take (i := 4) (v := .pointer (some ⟨b, off + k * 2 + 1, none⟩)) rfl (by kernel_rfl) (by kernel_rfl) (by kernel_rfl) (fun _ _ _ h => h) (Or.inl ⟨by kernel_rfl, fun W hW => ?y23⟩) hHeld ?r23
          · go_simp
          refine' wpAnyH_take (i := 5) (v := .slice la ll lc) rfl (by kernel_rfl) (by kernel_rfl) (by kernel_rfl) (fun _ _ _ h => h) (Or.inl ⟨by kernel_rfl, fun W hW => ?y24⟩) hHeld ?r24
          · have c := hbq7 W hW _ _ g1
            go_simp
          refine wpAnyH_ready (rs := [0]) (by kernel_rfl) (by simp) ?_
          refine AllReadyH.cons rfl (fun K hK => ?_) AllReadyH.nil
          go_simp
          refine hK.out _ _ hHeld (fun hHeld => ?_)
          clear hK
          refine wpAnyH_ready (rs := [6]) (by kernel_rfl) (by simp) ?_
          refine AllReadyH.cons rfl (fun K hK => ?_) AllReadyH.nil
          go_simp
          refine (cW _ ((Turn.refl no w7).drew)).mono ?_
          rintro e w8 ⟨uz, rfl, MZ, t⟩
          have t8 : Turn no w7 w8 := (Turn.refl no w7).drew.then_no t
          obtain ⟨gz, cz, ez, RZ, hgz⟩ := MZ
          obtain ⟨zl, hzl⟩ : ∃ zl, Hid ((renewL y a.l).length = zl) := ⟨_, rfl⟩
          rw [show (renewL y a.l).length = zl from hzl.out] at ez
          subst ez
          go_wp2_with fail
          refine hK.out _ _ t8.of_no (fun hHeld => ?_)
          clear hK
          refine' wpAnyH_take (i := 7) (v := .tuple #[.agg #[.slice (some ⟨gz, 0, none⟩) zl cz], .int .i64 0]) rfl (by kernel_rfl) (by kernel_rfl) (by kernel_rfl) (fun _ _ _ h => h) (Or.inl ⟨by kernel_rfl, fun W hW => ?y25⟩) hHeld ?r25
          · go_simp
          refine' wpAnyH_take (i := 8) (v := .agg #[.slice (some ⟨gz, 0, none⟩) zl cz]) rfl (by kernel_rfl) (by kernel_rfl) (by kernel_rfl) (fun _ _ _ h => h) (Or.inl ⟨by kernel_rfl, fun W hW => ?y26⟩) hHeld ?r26
          · go_simp
          refine' wpAnyH_take (i := 9) (v := .int .i64 0) rfl (by kernel_rfl) (by kernel_rfl) (by kernel_rfl) (fun _ _ _ h => h) (Or.inl ⟨by kernel_rfl, fun W hW => ?y27⟩) hHeld ?r27
          · go_simp
          refine wpAnyH_ready (rs := [10]) (by kernel_rfl) (by simp) ?_
          refine AllReadyH.cons rfl (fun K hK => ?_) AllReadyH.nil
          have BP8 := BP7.turn_no t8
          have x8 := BP8.c
          have f8 := BP8.f
          have hgz' : w7.heap.size ≤ gz := hgz
          have hzp : gz ≠ p := by omega
          go_simp
          have TZ : Turn (fun b => b = p) w7 (w8.setCell ⟨p, 0, none⟩ (.slice (some ⟨gz, 0, none⟩) zl cz)) := (t8.of_no (S := fun b => b = p)).setCell (p := ⟨p, 0, none⟩) (fun _ => rfl) _
          refine hK.out _ _ TZ (fun hHeld => ?_)
          clear hK
          refine wpAnyH_ready (rs := [11]) (by kernel_rfl) (by simp) ?_
          refine AllReadyH.cons rfl (fun K hK => ?_) AllReadyH.nil
          go_simp
          refine hK.out _ _ TZ (fun hHeld => ?_)
          clear hK
          refine wpAnyH_done (by kernel_rfl) ?_ _
          have BP9 := BP8.put (.slice (some ⟨gz, 0, none⟩) zl cz)
          have RZ9 := RZ.turn ((Turn.refl (fun b => b = p) w8).setCell (p := ⟨p, 0, none⟩) (fun _ => rfl) (.slice (some ⟨gz, 0, none⟩) zl cz)) (fun q => by omega)
          have Tw9 : Turn no w (w8.setCell ⟨p, 0, none⟩ (.slice (some ⟨gz, 0, none⟩) zl cz)) := (Tw7.of_no.trans TZ (fun _ _ q => q)).mono (fun b hb q => by omega)
          have B29 := B27.turn TZ (fun q => by omega)
          clear hHeld x8 f8 BP8 t t8 RZ MY7 cW bx7 bf7 hbq7 RY7 BP7 Tw7 g1 Ma7 B27
          generalize w8.setCell ⟨p, 0, none⟩ (.slice (some ⟨gz, 0, none⟩) zl cz) = w9 at *
          go_wp2_with fail
          go_roundw
          case rel => exact ⟨k + 1, _, by omega, by go_num, BP9, by rw [HST.out]; exact ⟨gz, cz, by rw [hzl.out], RZ9, by omega⟩, (fun g hg => by cases hg; exact hzp), B29, Tw9⟩
          case measure => simp [intOf]; omega
        · have hwl' : (weighE a.l == 0) = false := by simp; exact hwl
          have HST : Hid (madeL l (ac.take (k + 1)) = y) := by show _ = _; rw [hst2, if_neg hwl]
          clear hst2
          go_wp2_with fail
          go_roundw
          case rel => exact ⟨k + 1, _, by omega, by go_num, BP7, by rw [HST.out]; exact ⟨gy, cy, by rw [hyl.out], RY7, by omega⟩, (fun g hg => by cases hg; exact hyp), B27, Tw7⟩
          case measure => simp [intOf]; omega
    · have hkn : k = n := by omega
      subst hkn
      have hlt' : ¬ (k : Int) < (k : Int) := by omega
      rw [hml.out] at MD
      have bx := BP.c
      have c4 := B2.c
      have f4 := B2.f
      have c5 := B2.set u
      have MD2 : Made w.heap.size (wr.setCell ⟨w.heap.size, 0, none⟩ u) u (madeL l ac) := by
        obtain ⟨g, cap, e, R, ho⟩ := MD
        have hne : g ≠ w.heap.size := by omega
        exact ⟨g, cap, e, R.turn ((Turn.refl (fun b => b = w.heap.size) wr).setCell (p := ⟨w.heap.size, 0, none⟩) (fun _ => rfl) u) (fun q => hne q), by omega⟩
      have T5 := T.set0 (g := w.heap.size) (Nat.le_refl _) u
      obtain ⟨ug, uc, eu, _⟩ := MD
      subst eu
      clear hcells hms hsucc hup
      generalize (madeL l ac).length = ml at *
      go_wp2_with fail
      exact bodyPost_ret (v := .tuple #[.agg #[.slice (some ⟨ug, 0, none⟩) ml uc], .bool true]) (by simp [results, Try.results10, go_sem, c5]) rfl ⟨_, rfl, MD2, T5⟩
end Go.Proofs.Ytcmoocoklhjkfab
