/- CouncilBounds: the walk and the row. -/
import Derived.Test.YtcmoocoklhjkfabTwice
import Derived.Test.YtcmoocoklhjkfabQ1
import Derived.Test.YtcmoocoklhjkfabO1
namespace Go.Proofs.Ytcmoocoklhjkfab
open Go.ChangeShapes Go.WideShapes Go.ChangeAt Go.RowKit Go.Joins Go.Deep
set_option linter.unusedVariables false

theorem good_flat (B : Nat) (M : Nat) (l : List Mb) (L : Nat) (hs0 : 0 ≤ sumP l ∧ sumP l < l.length) (hl : ∀ m ∈ l, -(L : Int) ≤ m.pr) (hu : ∀ m ∈ l, m.pr ≤ M * tot l) (hB : M * 1000000 ≤ B) : Good B L l := by
  refine ⟨hs0, hl, fun P => ?_⟩
  have h1 := sumS_max l _ hu 0 P
  generalize cntS l 0 P = c at *
  have h2 : (((c * (M * 1000000) * tot l : Nat)) : Int) ≤ ((c * (hs c + B) * tot l : Nat) : Int) := by
    have : c * (M * 1000000) * tot l ≤ c * (hs c + B) * tot l := Nat.mul_le_mul_right _ (Nat.mul_le_mul_left _ (by omega))
    omega
  have h3 : ((c * (M * 1000000) * tot l : Nat) : Int) = 1000000 * ((c : Int) * (M * (tot l : Int))) := by
    simp only [Int.natCast_mul]
    grind
  omega
theorem sumP_zero (l : List Mb) : sumP (zeroed l) = 0 := by
  induction l with
  | nil => rfl
  | cons m r ih => simp only [zeroed, List.map_cons, sumP]; rw [show (r.map fun m => ({ m with pr := 0 } : Mb)) = zeroed r from rfl, ih]; omega
theorem zero_good (B L : Nat) (l : List Mb) (hw : weighE l = 0) : Good B L (zeroed l) := by
  have hn := (weigh_ok l hw).1
  refine good_flat B 0 _ L (by rw [sumP_zero, zeroed_len]; omega) (fun m hm => ?_) (fun m hm => ?_) (by omega)
  · obtain ⟨x, _, rfl⟩ := List.mem_map.1 hm
    simp only
    omega
  · obtain ⟨x, _, rfl⟩ := List.mem_map.1 hm
    simp
theorem renew_good (c l : List Mb) (hw : weighE l = 0) : Good 2000000 (2 * tot l) (renewL c l) := by
  refine good_flat 2000000 2 _ _ (by rw [renew_len]; exact renew_sum c l hw) (fun m hm => ?_) (fun m hm => ?_) (by omega)
  · have := renew_near c l hw m hm
    omega
  · have := renew_near c l hw m hm
    rw [keys_tot (renew_keys c l)]
    omega
theorem turns_good {B L : Nat} {l : List Mb} (h : Good B L l) (hB : B ≤ 2000000) (hw : weighE l = 0) (hL : tot l ≤ L + 1) (k : Nat) : Good B L (turnsN (tot l) l k) := by
  induction k with
  | zero => exact h
  | succ k ih =>
    have hk := turns_keys (tot l) l k
    have hwk : weighE (turnsN (tot l) l k) = 0 := by rw [keys_weigh hk]; exact hw
    have htk : tot (turnsN (tot l) l k) = tot l := keys_tot hk
    obtain ⟨b, x, ht⟩ := ih.turned hB hwk
    rw [htk] at ht
    exact ih.turn hwk (by rw [htk]; exact hL) ht
theorem step_good (x : List Mb) (a : Actx) (hw : weighE x = 0) (h : Good 2000000 (2 * tot x) x) : Good 2000000 (2 * tot (stepL x a)) (stepL x a) ∧ weighE (stepL x a) = 0 := by
  unfold stepL
  split
  · rename_i hl
    rw [keys_tot (renew_keys _ a.l), keys_weigh (renew_keys _ a.l)]
    exact ⟨renew_good _ _ hl, hl⟩
  · rw [turns_tot, keys_weigh (turns_keys (tot x) x _)]
    exact ⟨turns_good h (Nat.le_refl _) hw (by omega) _, hw⟩
theorem foldl_good (ac : List Actx) : ∀ x, weighE x = 0 → Good 2000000 (2 * tot x) x → Good 2000000 (2 * tot (ac.foldl stepL x)) (ac.foldl stepL x) ∧ weighE (ac.foldl stepL x) = 0 := by
  induction ac with
  | nil => intro x h1 h2; exact ⟨h2, h1⟩
  | cons a ac ih =>
    intro x h1 h2
    obtain ⟨h3, h4⟩ := step_good x a h1 h2
    exact ih _ h4 h3
theorem made_good (l : List Mb) (ac : List Actx) (hw : weighE l = 0) : Good 2000000 (2 * tot (madeL l ac)) (madeL l ac) ∧ weighE (madeL l ac) = 0 :=
  foldl_good ac _ (by rw [zeroed_weigh]; exact hw) (zero_good _ _ l hw)

set_option maxRecDepth 100000 in
set_option maxHeartbeats 2000000 in
theorem bounded14 (w : World) (v : Value) (l : List Mb) (h : Ms w v l) (hw : weighE l = 0) (hG : Good 2000000 (2 * tot l) l) : Calls Try.prog 14 #[.agg #[v]] w fun e w' => e = .returned (.bool true) ∧ Turn no w w' := by
  have T0 : Turn no w (w.alloc (.cells #[v] 26)) := (Turn.refl no w).alloc _
  have M0 := h.turn_no T0
  obtain ⟨hn0, hn64, _, _⟩ := weigh_ok l hw
  have htt := tot_le_top l hw
  have hlt := ltotal18 _ v l M0 htt
  have havg := avg_doc (l.length : Int) (by omega) l
  have hz : sumP l / (l.length : Int) = 0 := Int.ediv_eq_zero_of_lt hG.sum.1 hG.sum.2
  rw [hz] at havg
  have hbd : ∀ m ∈ l, -(2 * (tot l : Int)) ≤ m.pr ∧ 4 * m.pr ≤ 23 * tot l := fun m hm => ⟨by have := hG.low m hm; omega, hG.bound (Nat.le_refl _) hm⟩
  have hA : Abs 8070450532247928832 l := fun m hm => by have := hbd m hm; omega
  clear h hz hG hw
  obtain ⟨a, cap, rfl, M⟩ := M0
  have hcells := M.cells
  clear M
  obtain ⟨n, hn⟩ : ∃ n, Hid (l.length = n) := ⟨_, rfl⟩
  have hn' : l.length = n := hn.out
  obtain ⟨t, ht⟩ : ∃ t, Hid (tot l = t) := ⟨_, rfl⟩
  have ht' : tot l = t := ht.out
  rw [hn'] at hn0 hn64 hlt havg T0 hcells ⊢
  rw [ht'] at hbd htt
  rw [ht'] at hlt
  have HAVG : Hid (fS n l + gS n l / n = 0) := havg
  clear hn' ht' havg
  have hql := fun k => fS_abs 8070450532247928832 n (by omega) (l.take k) (hA.take k)
  have hrl := fun k => gS_le n (by omega) hn64 (l.take k)
  have hrn := fun k => gS_nonneg n (by omega) (l.take k)
  have hnz : ¬ (n : Int) = 0 := by omega
  have hn1 : (n : Int) ≤ 64 := by omega
  have ht1 : (t : Int) ≤ 1152921504606846975 := by omega
  go_enter Try.func14, Try.ntmps14
  go_wp2_with fail
  generalize w.alloc (.cells #[.slice a n cap] 26) = w0 at *
  refine hlt.mono ?_
  rintro e w1 ⟨rfl, e1⟩
  have e1 := e1.symm
  subst e1
  clear hlt
  go_wp2_with fail
  go_loop [6, 7, 8] (fun x y c => ∃ (k : Nat) (q r : Int), k ≤ n ∧ c = .int .i64 k ∧ x = .int .i64 q ∧ y = .int .i64 r ∧ fS n (l.take k) = q ∧ gS n (l.take k) = r) (fun _ _ c => n - (intOf c).toNat)
  case atStart => exact ⟨0, 0, 0, by omega, rfl, rfl, rfl, by simp [fS], by simp [gS]⟩
  case round =>
    obtain ⟨k, q, r, hk, rfl, rfl, rfl, hq, hr⟩ := hrel
    by_cases hlt : k < n
    · obtain ⟨m, hm⟩ : ∃ m, l[k]? = some m := ⟨l[k]'(by rw [hn.out]; exact hlt), List.getElem?_eq_getElem _⟩
      obtain ⟨b, off, rfl, c0, c1, c2⟩ := hcells k m hm
      have hlt' : (k : Int) < (n : Int) := by omega
      have HQ : Hid (fS n (l.take (k + 1)) = q + m.pr / n) := by show _ = _; rw [fS_take_succ n l k m hm, hq]
      have HR : Hid (gS n (l.take (k + 1)) = r + m.pr % n) := by show _ = _; rw [gS_take_succ n l k m hm, hr]
      have ha := hA m (List.mem_of_getElem? hm)
      obtain ⟨hb1, hb2⟩ := hbd m (List.mem_of_getElem? hm)
      have b1 := hql (k + 1)
      have b2 := hrl (k + 1)
      have b4 := hrn (k + 1)
      rw [HQ.out, List.length_take, hn.out, Nat.min_eq_left (by omega)] at b1
      rw [HR.out, List.length_take, hn.out, Nat.min_eq_left (by omega)] at b2
      rw [HR.out] at b4
      have b3 := kQ_le 8070450532247928832 n (k + 1) (by omega)
      have b5 : (k + 1) * (8070450532247928832 / n + 1) = (k + 1) * (8070450532247928832 / n) + (k + 1) := by rw [Nat.mul_add, Nat.mul_one]
      have d1 : (m.pr.tdiv n).natAbs ≤ m.pr.natAbs := by rw [Int.natAbs_tdiv]; exact Nat.div_le_self _ _
      have d2 := tmod_lt m.pr n (by omega)
      have hmt := Int.mul_tdiv_add_tmod m.pr n
      have hfl : (m.pr.tmod n < 0 → m.pr / n = m.pr.tdiv n - 1 ∧ m.pr % n = m.pr.tmod n + n) ∧ (¬ m.pr.tmod n < 0 → m.pr / n = m.pr.tdiv n ∧ m.pr % n = m.pr.tmod n) :=
        ⟨fun q => ediv_of n _ _ m.pr (by omega) (by rw [Int.mul_sub]; omega) (by omega) (by omega), fun q => ediv_of n _ _ m.pr (by omega) (by omega) (by omega) (by omega)⟩
      clear hmt
      generalize eqx : m.pr.tdiv (n : Int) = qx at *
      generalize erx : m.pr.tmod (n : Int) = rx at *
      have f1 : -9223372036854775000 ≤ qx := by omega
      have f2 : qx ≤ 9223372036854775000 := by omega
      have p1 : ¬ m.pr < -2 * (t : Int) := by omega
      have p2 : ¬ 5 * (t : Int) + (t : Int) / 4 * 3 + 3 < m.pr := by omega
      obtain ⟨hf1, hf2⟩ := hfl
      by_cases a1 : rx < 0
      · obtain ⟨g1, g2⟩ := hf1 a1
        rw [g1] at HQ b1
        rw [g2] at HR b2 b4
        have e3 : -9223372036854775808 ≤ q + (qx - 1) := by omega
        have e4 : q + (qx - 1) ≤ 9223372036854775807 := by omega
        have e5 : -4096 ≤ r + (rx + n) := by omega
        have e6 : r + (rx + n) ≤ 4096 := by omega
        have e7 : rx + n ≤ 64 := by omega
        have e8 : -64 ≤ rx + n := by omega
        clear hm hq hr hql hrl hrn b1 b2 b3 b4 b5 ha hA hbd hcells hf1 hf2 g1 g2 d1 d2 hb1 hb2
        go_wp2_with fail
        go_round
        case rel => exact ⟨k + 1, q + (qx - 1), r + (rx + n), by omega, by go_num, rfl, rfl, by rw [HQ.out], by rw [HR.out]⟩
        case measure => simp [intOf]; omega
      · obtain ⟨g1, g2⟩ := hf2 a1
        rw [g1] at HQ b1
        rw [g2] at HR b2 b4
        have e3 : -9223372036854775808 ≤ q + qx := by omega
        have e4 : q + qx ≤ 9223372036854775807 := by omega
        have e5 : -4096 ≤ r + rx := by omega
        have e6 : r + rx ≤ 4096 := by omega
        clear hm hq hr hql hrl hrn b1 b2 b3 b4 b5 ha hA hbd hcells hf1 hf2 g1 g2 d1 d2 hb1 hb2
        go_wp2_with fail
        go_round
        case rel => exact ⟨k + 1, q + qx, r + rx, by omega, by go_num, rfl, rfl, by rw [HQ.out], by rw [HR.out]⟩
        case measure => simp [intOf]; omega
    · have hkn : k = n := by omega
      subst hkn
      have hlt' : ¬ (k : Int) < (k : Int) := by omega
      have b1 := hql k
      have b4 := hrn k
      have b2 := hrl k
      rw [hr, List.length_take, hn.out, Nat.min_self] at b2
      rw [hr] at b4
      rw [List.take_of_length_le (by rw [hn.out]; exact Nat.le_refl _)] at hq hr
      rw [hq, hr] at HAVG
      have d1 : 0 ≤ r / (k : Int) := Int.ediv_nonneg b4 (by omega)
      have d2 : r / (k : Int) ≤ r := Int.ediv_le_self _ b4
      have d3 : r.tdiv (k : Int) = r / (k : Int) := Int.tdiv_eq_ediv_of_nonneg b4
      generalize eqx : r / (k : Int) = rq at *
      have hv : q + rq = 0 := HAVG.out
      have e5 : rq ≤ 9223372036854775000 := by omega
      clear hq hr hql hrl hrn b1 b2 hA d2 HAVG hbd hcells
      go_wp2_with fail
      go_ret
      exact ⟨rfl, T0⟩

theorem Acts.take {w : World} {a : Option Addr} {cap : Nat} {ac : List Actx} (h : Acts w a cap ac) (k : Nat) : Acts w a cap (ac.take k) :=
  ⟨Nat.le_trans (List.length_take_le' _ _) h.le, h.most, fun j x hx => h.cells j x (by
    rw [List.getElem?_take] at hx
    split at hx
    · exact hx
    · cases hx)⟩

theorem bytes58 : Try.prog.bytesOf 58 = 32 := by kernel_rfl
/-- How many acts can be read. -/
theorem acts_len {H : Type} {enc : TypeId × Value → H} {w : World} {base : Nat} {spare : Nat → Bool} {held : Bool} {n : Nat} {a0 : Option Addr} {l0 c0 : Nat} {y : DataW H × List MemPlace} (h : DataW.trod enc Try.prog w base spare held n 23 [.slice a0 l0 c0] = some y) (hw : ∀ k ∈ y.1.weights Try.prog 23, k ≤ reachBytes) : l0 ≤ 4398046511104 := by
  rcases open_slice Try.underlying23 h with ⟨hcs, _⟩ | ⟨a, len, cap, m, n', D, Pl, hcs, _, hl, hm, hmm, hx, hel⟩
  · simp at hcs
    omega
  · simp at hcs
    have h1 := hw ((len + (m - len)) * Try.prog.bytesOf 58) (by
      rw [hx]
      simp only [DataW.weights, Try.underlying23]
      refine List.mem_cons.2 (.inl ?_)
      simp)
    rw [bytes58] at h1
    have h2 : (len + (m - len)) * 32 ≤ 140737488351232 := h1
    omega

set_option maxRecDepth 100000 in
set_option maxHeartbeats 2000000 in
theorem bounds_any (w : World) (v : Value) (l : List Mb) (aa : Option Addr) (acap : Nat) (ac : List Actx) (h : Ms w v l) (A : Acts w aa acap ac) (hb : l.length * 24 ≤ 140737488351232) (hal : ac.length ≤ 4398046511104) :
    Calls Try.prog 4 #[v, .slice aa ac.length acap] w fun e w' => e = .returned (.bool true) ∧ Turn no w w' := by
  have c1 := alive9 w
  have hle : ac.length ≤ acap := A.le
  have hmo : acap ≤ 9223372036854775807 := by have := A.most; simp only [maxLen] at this; omega
  obtain ⟨va, vcap, ev⟩ := h.shape
  obtain ⟨n, hn⟩ : ∃ n, Hid (l.length = n) := ⟨_, rfl⟩
  obtain ⟨an, han⟩ : ∃ an, Hid (ac.length = an) := ⟨_, rfl⟩
  rw [show l.length = n from hn.out] at ev
  have cM := fun W (hT : Turn no w W) (hL : weighE l = 0) k => made10 W v l aa acap (ac.take k) (h.turn_no hT) ((A.take k).turn_no hT) hL
  have hmg := fun (hL : weighE l = 0) k => made_good l (ac.take k) hL
  have hms := fun (hL : weighE l = 0) k => made_sound l (ac.take k) hL
  have htl : ∀ k, k ≤ an → (ac.take k).length = k := fun k hk => by rw [List.length_take, han.out]; omega
  rw [show ac.length = an from han.out] at hle hal ⊢
  have hnil : aa = none → an = 0 := fun q => by
    subst q
    rw [← han.out]
    cases hac : ac with
    | nil => rfl
    | cons x r =>
      obtain ⟨b, off, e, _⟩ := A.cells 0 x (by rw [hac]; rfl)
      cases e
  subst ev
  clear A
  go_enter Try.func4, Try.ntmps4
  go_wp2_with fail
  refine c1.mono ?_
  rintro e w1 ⟨rfl, T⟩
  have c2 := rnew16_any w1 _ l (h.turn_no T) hb
  clear c1
  go_wp2_with fail
  refine c2.mono ?_
  rintro e w2 ⟨u, rfl, M, t⟩
  have TA : Turn no w2 (w2.alloc (.cells #[u] 26)) := (Turn.refl no w2).alloc _
  have T := (T.then_no t).then_no TA
  obtain ⟨ua, uc, eu⟩ := M.shape
  generalize (newL l).length = ul at *
  subst eu
  clear c2 M t TA h
  by_cases hL : weighE l = 0
  · rw [hL]
    have cM := fun W hT k => cM W hT hL k
    have hmg := fun k => hmg hL k
    have hms := fun k => hms hL k
    clear hL
    go_wp2_with fail
    generalize w2.alloc (.cells #[.slice ua ul uc] 26) = w3 at *
    go_loopw [8] (fun x wr => ∃ k : Nat, k ≤ an + 1 ∧ x = .int .i64 k ∧ Turn no w wr) (fun x _ => an + 1 - (intOf x).toNat)
    case atStart => exact ⟨0, by omega, rfl, T⟩
    case round =>
      clear T
      obtain ⟨k, hk, rfl, T⟩ := hrel
      by_cases hlt : k ≤ an
      · have HK : Hid (k ≤ an) := hlt
        have hlt' : (k : Int) ≤ (an : Int) := by omega
        have hkc : (k : Int) ≤ (acap : Int) := by omega
        have c3 := cM wr T k
        rw [htl k hlt] at c3
        obtain ⟨hG, hW⟩ := hmg k
        have hS := hms k
        obtain ⟨y, hy⟩ : ∃ y, Hid (madeL l (ac.take k) = y) := ⟨_, rfl⟩
        rw [show madeL l (ac.take k) = y from hy.out] at c3 hG hW hS
        obtain ⟨yl, hyl⟩ : ∃ yl, Hid (y.length = yl) := ⟨_, rfl⟩
        clear cM hmg hms htl
        go_wp2_with fail
        refine c3.mono ?_
        rintro e w4 ⟨uy, rfl, MY, t⟩
        have TC : Turn no w4 (w4.alloc (.cells #[uy] 26)) := (Turn.refl no w4).alloc _
        have BY := Bx.new w4 uy 26
        have T := (T.then_no t).then_no TC
        have MY := MY.ms.turn_no TC
        have c4 := sound27 _ _ y MY
        rw [hS] at c4
        obtain ⟨ya, yc, ey⟩ := MY.shape
        rw [show y.length = yl from hyl.out] at ey
        subst ey
        clear c3 t TC hS
        go_wp2_with fail
        generalize w4.alloc (.cells #[.slice ya yl yc] 26) = w5 at *
        refine c4.mono ?_
        rintro e w6 ⟨rfl, t⟩
        have T := T.then_no t
        have k1 := (BY.turn_no t).c
        have c5 := bounded14 _ _ y (MY.turn_no t) hW hG
        clear c4 t hG hW
        go_wp2_with fail
        refine c5.mono ?_
        rintro e w7 ⟨rfl, t⟩
        have T := T.then_no t
        clear c5 t k1
        go_wp2_with fail
        go_roundw
        case rel => exact ⟨k + 1, Nat.succ_le_succ HK.out, by go_num, T⟩
        case measure => have := HK.out; simp [intOf]; omega
      · have hkn : k = an + 1 := by omega
        subst hkn
        have hlt' : ¬ ((an + 1 : Nat) : Int) ≤ (an : Int) := by omega
        clear cM hmg hms htl
        go_wp2_with fail
        go_ret
        exact ⟨rfl, T⟩
  · have hL' : (weighE l == 0) = false := by simp; exact hL
    have hL2 : (weighE l != 0) = true := by simp; exact hL
    clear cM hmg hms
    generalize weighE l = lE at *
    go_wp2_with fail
    go_ret
    exact ⟨rfl, T⟩

set_option maxRecDepth 100000 in
theorem bounds_lifted (os : Os) (started : os.Started) (H : Type) (enc : TypeId × Value → H) :
    ReturnsInHanded {} Try.checked os 4 .any (Rows.councilBoundsSpec.pre6 enc Try.prog Try.f4 Rows.councilBoundsRow.domain false) (Rows.councilBoundsSpec.post enc Try.prog Try.f4 false true false false) := by
  refine returnsInHanded_of_change_sized (C := Try.checked) own started (by kernel_rfl) Try.func4
    (ChangeSpec.witness6 (enc := enc) (C := Try.checked) false ⟨#[], #[.slice none 0 0, .slice none 0 0], []⟩ 8 (by kernel_rfl) (by kernel_rfl) (by kernel_rfl) (by kernel_rfl)) ?_
  intro W base args ds gs before hval0 hW hcnd hsz _
  have hval : ∀ (j : Nat) t v, Try.f4.params[j]? = some t → args[j]? = some v → Value.okWide Try.prog W .any base t v := hval0
  have hW' := hW
  obtain ⟨p, q, hA0, hV, rfl, hfz, hnd⟩ := hW
  have hA : DataW.TrodAll enc Try.prog W 0 (fun _ => true) true Try.f4.params.toList args.toList ds p := hA0
  rw [Try.params4] at hA hval hsz
  obtain ⟨v0, v1, d0, d1, p0, p1, rfl, rfl, rfl, h0, h1⟩ := trodAll_two hA
  obtain ⟨rfl, rfl⟩ := trodVars_none hV
  have k0 := h0
  have k1 := h1
  have lt0 : ∀ x ∈ p0, x.block < W.heap.size := by obtain ⟨m, hm⟩ := k0; exact DataW.trod_lt m _ _ _ hm
  have lt1 : ∀ x ∈ p1, x.block < W.heap.size := by obtain ⟨m, hm⟩ := k1; exact DataW.trod_lt m _ _ _ hm
  obtain ⟨a0, l0, c0, rfl⟩ := okWide_slice Try.underlying22 (hval 0 22 v0 rfl rfl)
  obtain ⟨a1, l1, c1, rfl⟩ := okWide_slice Try.underlying23 (hval 1 23 v1 rfl rfl)
  obtain ⟨m0, t0⟩ := h0
  obtain ⟨m1, t1⟩ := h1
  obtain ⟨l, M, hw⟩ := open_ms (v := .slice a0 l0 c0) t0
  obtain ⟨aa, acap, ac, ea, A⟩ := open_acts (v := .slice a1 l1 c1) t1 (sized_of hsz (j := 1) rfl rfl)
  have hle := ms_sized hsz (j := 0) rfl rfl hw
  have hal := acts_len t1 (sized_of hsz (j := 1) rfl rfl)
  have hll : l1 = ac.length := by injection ea
  have hwalk := bounds_any W _ l aa acap ac M A hle (by rw [← hll]; exact hal)
  rw [← ea] at hwalk
  clear hA0 hval0
  refine hwalk.mono fun e W' ⟨he, tt⟩ => ?_
  subst he
  have bel := tt.below
  exact ⟨_, rfl, _, _, _, [], _, [], hW', trodAll_mk1 (shut_bool Try.underlying4 _), (trodAll_mk2 (Below.trod laidOut (by kernel_rfl) (of_decide_eq_true (by kernel_rfl)) k0 bel lt0) (Below.trod laidOut (by kernel_rfl) (of_decide_eq_true (by kernel_rfl)) k1 bel lt1)), rfl, bel.frame _, fun h => by cases h⟩

theorem bounds_holds : Rows.CouncilBoundsSaid :=
  OpenClaim.holds_of_wide 4 Try.f4 rfl rfl rfl rfl rfl rfl rfl ⟨rfl, rfl, rfl, rfl, rfl⟩ rfl rfl rfl rfl rfl (by kernel_rfl) Try.func4 (by kernel_rfl)
    (of_decide_eq_true (by kernel_rfl)) (by unfold Func.isWrapper; first | (rw [if_pos (by decide +kernel)]; kernel_rfl) | (rw [if_neg (by decide +kernel)]; exact ⟨rfl, rfl⟩))
    (fun os started H enc _ => bounds_lifted os started H enc)
#print axioms bounds_holds
end Go.Proofs.Ytcmoocoklhjkfab
