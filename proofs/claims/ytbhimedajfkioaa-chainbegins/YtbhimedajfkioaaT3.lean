/- Begin, its arguments right. -/
import Derived.Test.YtbhimedajfkioaaT2
namespace Go.Proofs.Ytbhimedajfkioaa
open Go.RowKit
set_option linter.unusedVariables false

theorem size63' (a b c d : Value) : (Try.prog.info? 63).map (·.size) = some #[a, b, c, d].size := by kernel_rfl
theorem size24' (a : Value) : (Try.prog.info? 24).map (·.size) = some #[a].size := by kernel_rfl
theorem Made.ge {old : Nat} {w : World} {v : Value} {l : List Mb} (h : Made old w v l) {g : Nat} (hg : v.ownBlock = some g) : old ≤ g := by
  obtain ⟨b, cap, e, _, hb⟩ := h
  subst e
  cases hg
  exact hb
theorem Made.mono {old old' : Nat} {w : World} {v : Value} {l : List Mb} (h : Made old w v l) (hle : old' ≤ old) : Made old' w v l := by
  obtain ⟨b, cap, e, R, hb⟩ := h
  exact ⟨b, cap, e, R, Nat.le_trans hle hb⟩

set_option maxRecDepth 100000 in
set_option maxHeartbeats 40000000 in
theorem begin13_ok (w : World) (s : ByteArray) (t : Nat) (va : Value) (p : Pm) (l : List Ac) (ha : As w va l) (hl : l.length * 40 ≤ 140737488355328) (hA : argB s t p = true) : Calls Try.prog 13 #[.agg (gnL s t va p).toArray] w fun e w' => Began w.heap.size w' e s t p l ∧ Turn no w w' := by
  obtain ⟨w0, hw0⟩ : ∃ w0, (w.alloc (.cells (gnL s t va p).toArray 56)).alloc (.cells #[.string ⟨#[]⟩, .int .u64 0, .int .i64 0, .int .u64 0, .int .u64 0, .int .u64 0, .int .i64 0, .int .u64 0, .int .u64 0, .int .u64 0, .int .u64 0, .int .u64 0, .int .u64 0, .int .u64 0, .int .u64 0, .int .u8 0, .int .u8 0, .int .u8 0, .int .u8 0, .int .u8 0, .int .u8 0, .int .u8 0, .int .u8 0, .int .u8 0, .int .u8 0, .int .u8 0, .int .u8 0, .int .u8 0, .int .u8 0, .int .u8 0, .int .u8 0, .int .u8 0, .int .u8 0, .int .u8 0, .int .u8 0, .int .u8 0, .int .u8 0, .int .u8 0, .int .u8 0, .int .u8 0, .int .u8 0, .int .u8 0, .int .u8 0, .int .u8 0, .int .u8 0, .int .u8 0, .int .u8 0, .slice none 0 0, .slice none 0 0, .slice none 0 0, .slice none 0 0, .slice none 0 0, .slice none 0 0, .int .u64 0, .int .u64 0] 65) = w0 := ⟨_, rfl⟩
  have T0 : Turn no w w0 := by rw [← hw0]; exact ((Turn.refl no w).alloc _).alloc _
  have S0 : w0.heap.size = w.heap.size + 2 := by rw [← hw0]; simp
  have B0 : Row w0 w.heap.size (gnL s t va p).toArray 56 := by rw [← hw0]; exact (Row.new w _ 56).alloc _
  have B1 : Row w0 (w.heap.size + 1) stZ.toArray 65 := by rw [← hw0]; exact Row.newAt _ _ _ _ (by simp)
  have hBE : ∀ L, beginE s t p l L = if newE l ≠ 0 then newE l else if weighE (mbsOf L) ≠ 0 then weighE (mbsOf L) else soundE (onceL (zeroed (mbsOf L))) := fun L => by unfold beginE; rw [if_neg (by rw [hA]; decide)]
  have HBE := shut hBE
  have hb3 : nameB s.size = true ∧ t ≤ 1125899906842624 ∧ fitB p = true := by
    unfold argB at hA
    simp only [Bool.and_eq_true, decide_eq_true_eq] at hA ⊢
    exact ⟨hA.1.1, hA.1.2, hA.2⟩
  obtain ⟨hb1, hb2, hb3⟩ := hb3
  have ht' : decide ((1125899906842624 : Int) < (t : Int)) = false := by simp; omega
  have HA := shut ha
  have HL := shut hl
  have HT0 := shut T0
  have HS0 := shut S0
  have HARG := shut hA
  have c26 : ∀ W, Calls Try.prog 26 #[.string s] W fun e w' => e = .returned (.bool true) ∧ w' = W := fun W => by have := isName26 W s; rwa [hb1] at this
  have c27 : ∀ W, Calls Try.prog 27 #[.agg (pmL p).toArray] W fun e w' => e = .returned (.bool true) ∧ Turn no W w' := fun W => by have := isFit27 W p; rwa [hb3] at this
  have C27 := shut c27
  obtain ⟨va0, vn, vc, hva⟩ : ∃ a n c, va = .slice a n c := by obtain ⟨a, c, e, _⟩ := ha; exact ⟨a, _, c, e⟩
  subst hva
  have HK : Shut (∀ W, Turn no w0 W → W.cell? ⟨w.heap.size, 0, none⟩ = some (.string s) ∧ W.cell? ⟨w.heap.size, 1, none⟩ = some (.int .u64 t) ∧ W.cell? ⟨w.heap.size, 2, none⟩ = some (.slice va0 vn vc) ∧ W.rangeAt w.heap.size 3 (pmL p) ∧ Row W (w.heap.size + 1) stZ.toArray 65) := fun W q =>
    have b0 := B0.turn q (fun q => q)
    ⟨b0.cell 0 _ rfl, b0.cell 1 _ rfl, b0.cell 2 _ rfl, fun j x hx => b0.cell (3 + j) _ (gnL_pm s t _ p j x hx), B1.turn q (fun q => q)⟩
  have hi54 := size54 p
  have hP0 : (pmL p).toArray[0]? = some (.int .u64 p.mb) := rfl
  have hP1 : (pmL p).toArray[1]? = some (.int .i64 p.se) := rfl
  have C28 : Shut (∀ W, Turn no w0 W → Calls Try.prog 28 #[.slice va0 vn vc] W fun e w' =>
      (newE l = 0 ∧ ∃ v', e = .returned (.tuple #[.agg #[v', .slice none 0 0, .int .u64 0, .int .u64 (sumN 0 l [])], .int .i64 0]) ∧ OwnN w' 58 5 v' l.length (acC l) ∧ (∀ g, v'.ownBlock = some g → W.heap.size ≤ g) ∧ Turn no W w') ∨
      (newE l ≠ 0 ∧ e = .returned (.tuple #[.agg #[.slice none 0 0, .slice none 0 0, .int .u64 0, .int .u64 0], .int .i64 (newE l)]) ∧ Turn no W w')) := fun W q => by
    have h := new6 W _ l (ha.turn_no (T0.then_no q)) hl
    rw [new_same] at h
    by_cases hN : newE l = 0
    · rw [(new_sum hN).1]
      exact h
    · refine h.mono (fun e w' hh => ?_)
      rcases hh with ⟨q, _⟩ | hh
      · exact absurd q hN
      · exact .inr hh
  have HB6 : Shut (∀ (v u va' : Value), Try.prog.built 65 [(0, .string s), (1, .agg (pmL p).toArray), (3, .int .u64 t), (5, .agg #[v]), (6, .agg #[u]), (9, .agg #[va', .slice none 0 0, .int .u64 0, .int .u64 (sumN 0 l [])])] = some (stL s p 0 t v u va' nilV 0 (sumN 0 l [])).toArray) := fun v u va' => built65 s p t v u va' _
  clear B0 B1 T0 S0 ha hl hA hb1 hb2 hb3 hBE c27
  obtain ⟨C0, hC0⟩ : ∃ C0, Hid ((gnL s t (.slice va0 vn vc) p).toArray = C0) := ⟨_, rfl⟩
  rw [hC0.out] at hw0
  rw [hC0.out]
  obtain ⟨ip, hip⟩ : ∃ ip, Hid (pmL p = ip) := ⟨_, rfl⟩
  rw [hip.out] at hi54 hP0 hP1
  have HIP := shut (show pmL p = ip from hip.out)
  rw [HIP.out] at HK C27 HB6
  obtain ⟨zs, hzs⟩ : ∃ zs, Hid (stZ.toArray = zs) := ⟨_, rfl⟩
  have HZS := shut (show stZ.toArray = zs from hzs.out)
  have hbz : Try.prog.built 65 [] = some zs := by rw [← hzs.out]; exact built65z
  have hzi : (Try.prog.info? 65).map (·.size) = some zs.size := by rw [← hzs.out]; exact sizez
  have hz1 : zs.all (·.oneCell') = true := by rw [← hzs.out]; exact onez
  have hzn : zs.size = 55 := by rw [← hzs.out]; rfl
  have HZN := shut hzn
  clear hzn
  rw [HZS.out] at HK
  clear hip hzs hC0
  obtain ⟨x0, x1, x2, x3, B1⟩ := HK.out w0 (Turn.refl no w0)
  go_enter Try.func13, Try.ntmps13
  go_upto_region 1 with fail
  try rw [hw0]
  clear hw0
  go_upto_region 3 with (first | (go_at_call 26; refine (c26 _).mono ?_; rintro e w1 ⟨rfl, rfl⟩; clear c26) | (refine wpList_load_midG (by rfl) 54 (.tmp 19) rfl w.heap.size 3 rfl ip _ x3 Try.underlying54 rfl hi54 ?_) | (go_at_call 27; refine (C27.out _).mono ?_; rintro e w1 ⟨rfl, t1⟩; have HT1 := shut t1; clear x0 x1 x2 x3 B1 t1 C27; obtain ⟨x0, x1, x2, x3, B1⟩ := HK.out w1 HT1.out))
  have c28 := C28.out w1 HT1.out
  clear C28
  by_cases hN : newE l = 0
  · have c28 := c28.mono (R' := fun e w' => ∃ a n c, e = .returned (.tuple #[.agg #[.slice a n c, .slice none 0 0, .int .u64 0, .int .u64 (sumN 0 l [])], .int .i64 0]) ∧ As w' (.slice a n c) l ∧ (∀ g, (Value.slice a n c).ownBlock = some g → w1.heap.size ≤ g) ∧ Turn no w1 w') (fun e w' hh => by
      rcases hh with ⟨_, v', rfl, O, f, q⟩ | ⟨q, _⟩
      · obtain ⟨a, n, c, e⟩ : ∃ a n c, v' = .slice a n c := by obtain ⟨a, c, e, _⟩ := O.form; exact ⟨a, _, c, e⟩
        subst e
        exact ⟨a, n, c, rfl, O.as HA.out.oks, f, q⟩
      · exact absurd hN q)
    generalize hsm : sumN 0 l [] = sm at *
    have HSM := shut hsm
    clear hsm
    go_upto_region 4 with (first | (go_at_call 28; refine c28.mono ?_; rintro e w2 ⟨la, ln, lc, rfl, A2, f2, t2⟩; have HA2 := shut A2; have HF2 := shut f2; have HT2 := shut (HT1.out.then_no t2); clear c28 A2 f2 t2))
    obtain ⟨w3, hw3⟩ : ∃ w3, w2.alloc (.cells #[.slice la ln lc, .slice none 0 0, .int .u64 0, .int .u64 sm] 63) = w3 := ⟨_, rfl⟩
    have HR3 : Shut (Row w3 w2.heap.size #[.slice la ln lc, .slice none 0 0, .int .u64 0, .int .u64 sm] 63) := by rw [← hw3]; exact Row.new w2 _ 63
    have HT23 : Shut (Turn no w2 w3) := by rw [← hw3]; exact (Turn.refl no w2).alloc _
    rw [hw3]
    clear hw3
    have HT3 := shut (HT2.out.then_no HT23.out)
    clear x0 x1 x2 x3 B1
    obtain ⟨x0, x1, x2, x3, B1⟩ := HK.out w3 HT3.out
    have HA3 := shut (HA2.out.turn_no HT23.out)
    have hAsc := asc_of_new hN
    have c29 : Calls Try.prog 29 #[.agg #[.slice la ln lc, .slice none 0 0, .int .u64 0, .int .u64 sm], .agg ip.toArray] w3 fun e w' => ∃ a n c L, e = .returned (.slice a n c) ∧ Seated l L p.mb p.se ∧ Ms w' (.slice a n c) (mbsOf L) ∧ Turn no w3 w' := by
      refine (seats8 w3 _ (.slice none 0 0) l HA3.out HL.out hAsc.1.inj 0 sm ip.toArray p.mb p.se hP0 hP1).mono (fun e w' hh => ?_)
      obtain ⟨v', q, rfl, hq, hs, O, t⟩ := hh
      have hS := seated_of (mb := p.mb) (st := p.se) hAsc.1 hq hs
      obtain ⟨a, c, e, _⟩ := O.form
      subst e
      exact ⟨a, _, c, _, rfl, hS, seats_ms O (fun m hm => HA.out.oks m (hS.good m hm).1), t⟩
    have R3 := HR3.out
    have hi63 := size63' (.slice la ln lc) (.slice none 0 0) (.int .u64 0) (.int .u64 sm)
    go_upto_region 7 with (first | (refine wpList_load_row rfl 63 (.tmp 4) rfl w2.heap.size rfl 63 #[.slice la ln lc, .slice none 0 0, .int .u64 0, .int .u64 sm] _ _ R3 Try.underlying63 rfl hi63 ?_) | (refine wpList_load_midG (by rfl) 54 (.tmp 36) rfl w.heap.size 3 rfl ip _ x3 Try.underlying54 rfl hi54 ?_) | (go_at_call 29; refine c29.mono ?_; rintro e w4 ⟨sa, sn, sc, L, rfl, hS, M4, t4⟩; have HS := shut hS; have HM4 := shut M4; have HT34 := shut t4; clear c29 hS M4 t4))
    have HT4 := shut (HT3.out.then_no HT34.out)
    clear x0 x1 x2 x3 B1 R3
    obtain ⟨x0, x1, x2, x3, B1⟩ := HK.out w4 HT4.out
    by_cases hW : weighE (mbsOf L) = 0
    · have c30 : Calls Try.prog 30 #[.slice sa sn sc] w4 fun e w' => ∃ g n c, e = .returned (.tuple #[.agg #[.slice (some ⟨g, 0, none⟩) n c], .int .i64 0]) ∧ Made w4.heap.size w' (.slice (some ⟨g, 0, none⟩) n c) (firstL L) ∧ Turn no w4 w' := by
        refine (new15_yes w4 _ _ HM4.out hW).mono (fun e w' hh => ?_)
        obtain ⟨u, rfl, M, t⟩ := hh
        obtain ⟨g, c, e, _⟩ := id M
        subst e
        exact ⟨g, _, c, rfl, M, t⟩
      go_upto_region 8 with (first | (go_at_call 30; refine c30.mono ?_; rintro e w5 ⟨fg, fn, fc, rfl, M5, t5⟩; have HM5 := shut M5; have HT45 := shut t5; clear c30 M5 t5))
      obtain ⟨w6, hw6⟩ : ∃ w6, w5.alloc (.cells #[.slice (some ⟨fg, 0, none⟩) fn fc] 24) = w6 := ⟨_, rfl⟩
      have HR6 : Shut (Row w6 w5.heap.size #[.slice (some ⟨fg, 0, none⟩) fn fc] 24) := by rw [← hw6]; exact Row.new w5 _ 24
      have HT56 : Shut (Turn no w5 w6) := by rw [← hw6]; exact (Turn.refl no w5).alloc _
      rw [hw6]
      clear hw6
      have HT6 := shut (HT4.out.then_no (HT45.out.then_no HT56.out))
      clear x0 x1 x2 x3 B1
      obtain ⟨x0, x1, x2, x3, B1⟩ := HK.out w6 HT6.out
      have c31 : Calls Try.prog 31 #[.agg #[.slice (some ⟨fg, 0, none⟩) fn fc], .slice sa sn sc] w6 fun e w' => ∃ a n k, e = .returned (.tuple #[.agg #[.slice a n k], .int .i64 (soundE (onceL (zeroed (mbsOf L))))]) ∧ (soundE (onceL (zeroed (mbsOf L))) = 0 → Made w6.heap.size w' (.slice a n k) (nextL L)) ∧ Turn no w6 w' :=
        behind31 w6 _ _ (zeroed (mbsOf L)) (mbsOf L) (HM5.out.ms.turn_no HT56.out) (HM4.out.turn_no (HT45.out.then_no HT56.out)) (by rw [zeroed_sound]; exact hW) hW
      have R6 := HR6.out
      have hi24 := size24' (.slice (some ⟨fg, 0, none⟩) fn fc)
      obtain ⟨sE, hsE⟩ : ∃ sE, soundE (onceL (zeroed (mbsOf L))) = sE := ⟨_, rfl⟩
      have HSE := shut hsE
      rw [hsE] at c31
      clear hsE
      go_upto_region 11 with (first | (refine wpList_load_row rfl 24 (.tmp 7) rfl w5.heap.size rfl 24 #[.slice (some ⟨fg, 0, none⟩) fn fc] _ _ R6 Try.underlying24 rfl hi24 ?_) | (go_at_call 31; refine c31.mono ?_; rintro e w7 ⟨na, nn, nc, rfl, M7, t7⟩; have HM7 := shut M7; have HT67 := shut t7; clear c31 M7 t7))
      obtain ⟨w8, hw8⟩ : ∃ w8, w7.alloc (.cells #[.slice na nn nc] 24) = w8 := ⟨_, rfl⟩
      have HR8 : Shut (Row w8 w7.heap.size #[.slice na nn nc] 24) := by rw [← hw8]; exact Row.new w7 _ 24
      have HT78 : Shut (Turn no w7 w8) := by rw [← hw8]; exact (Turn.refl no w7).alloc _
      rw [hw8]
      clear hw8
      have HT8 := shut (HT6.out.then_no (HT67.out.then_no HT78.out))
      clear x0 x1 x2 x3 B1 R6
      obtain ⟨x0, x1, x2, x3, B1⟩ := HK.out w8 HT8.out
      by_cases hE : sE = 0
      · subst hE
        have HM7' := shut (HM7.out rfl)
        clear HM7
        have R3 : Row w8 w2.heap.size #[.slice la ln lc, .slice none 0 0, .int .u64 0, .int .u64 sm] 63 := (((((HR3.out.turn HT34.out (fun q => q)).turn HT45.out (fun q => q)).turn HT56.out (fun q => q)).turn HT67.out (fun q => q)).turn HT78.out (fun q => q))
        have R6 : Row w8 w5.heap.size #[.slice (some ⟨fg, 0, none⟩) fn fc] 24 := (HR6.out.turn HT67.out (fun q => q)).turn HT78.out (fun q => q)
        have R8 := HR8.out
        have hi24' := size24' (.slice na nn nc)
        have hb6 := HB6.out (.slice (some ⟨fg, 0, none⟩) fn fc) (.slice na nn nc) (.slice la ln lc)
        obtain ⟨bs, hbs⟩ : ∃ bs, (stL s p 0 t (.slice (some ⟨fg, 0, none⟩) fn fc) (.slice na nn nc) (.slice la ln lc) nilV 0 sm).toArray = bs := ⟨_, rfl⟩
        have HBS := shut hbs
        rw [hbs] at hb6
        have hbi : (Try.prog.info? 65).map (·.size) = some bs.size := by rw [← hbs]; exact size65 _ _ _ _ _ _ _ _ _ _
        have hb1 : bs.all (·.oneCell') = true := by rw [← hbs]; exact one65 _ _ _ _ _ _ _ _ _ _ _ _ _
        have hbz2 : zs.size = bs.size := by rw [← hbs, HZN.out]; rfl
        clear hbs
        go_wp2_with (first | (refine wpList_load_midG (by rfl) 54 (.tmp 60) rfl w.heap.size 3 rfl ip _ x3 Try.underlying54 rfl hi54 ?_) | (refine wpList_load_row rfl 24 (.tmp 7) rfl w5.heap.size rfl 24 #[.slice (some ⟨fg, 0, none⟩) fn fc] _ _ R6 Try.underlying24 rfl hi24 ?_) | (refine wpList_load_row rfl 24 (.tmp 8) rfl w7.heap.size rfl 24 #[.slice na nn nc] _ _ R8 Try.underlying24 rfl hi24' ?_) | (refine wpList_load_row rfl 63 (.tmp 4) rfl w2.heap.size rfl 63 #[.slice la ln lc, .slice none 0 0, .int .u64 0, .int .u64 sm] _ _ R3 Try.underlying63 rfl hi63 ?_) | (refine wpList_build_six rfl 65 0 1 3 5 6 9 (.tmp 59) (.tmp 61) (.tmp 63) (.tmp 64) (.tmp 65) (.tmp 66) rfl (.string s) (.agg ip.toArray) (.int .u64 t) (.agg #[.slice (some ⟨fg, 0, none⟩) fn fc]) (.agg #[.slice na nn nc]) (.agg #[.slice la ln lc, .slice none 0 0, .int .u64 0, .int .u64 sm]) rfl rfl rfl rfl rfl rfl bs hb6 ?_; clear hb6) | (refine wpList_store_anyN rfl rfl 65 (.tmp 2) (.tmp 67) rfl (w.heap.size + 1) bs rfl rfl 65 zs B1 hbi hbz2 hb1 ?_; intro w9 R9 T9; have HR9 := shut R9; have HT89 := shut T9; clear R9 T9))
        have HT9 := shut ((HT0.out.then_no HT8.out).trans HT89.out (fun k hk q => by have : k = w.heap.size + 1 := q; omega))
        have hz := HS0.out
        refine ⟨rfl, _, results_cell_row_tmp (g := w.heap.size + 1) (cs := bs) (t := 65) rfl _ _ _ _ rfl HR9.out Try.underlying65 rfl hbi, ⟨L, fun _ _ => HS.out, .inr ⟨?_, .slice (some ⟨fg, 0, none⟩) fn fc, .slice na nn nc, .slice la ln lc, ?_, ?_, ?_, ?_, ?_⟩⟩, HT9.out⟩
        · rw [HBE.out, if_neg (by rw [hN]; simp), if_neg (by rw [hW]; simp)]
          exact HSE.out
        · rw [HSM.out]
          exact (congrArg (fun x => Ending.returned (.tuple #[.agg x, .int .i64 0])) HBS.out.symm)
        · have m : Made w4.heap.size w8 (.slice (some ⟨fg, 0, none⟩) fn fc) (firstL L) := ((HM5.out.turn HT56.out (fun _ _ q => q)).turn HT67.out (fun _ _ q => q)).turn HT78.out (fun _ _ q => q)
          exact (m.turn HT89.out (fun g hg q => by have h1 : g = w.heap.size + 1 := q; have h2 := m.ge hg; have h3 := HT4.out.size; omega)).mono (by have := HT4.out.size; omega)
        · have m : Made w6.heap.size w8 (.slice na nn nc) (nextL L) := HM7'.out.turn HT78.out (fun _ _ q => q)
          exact (m.turn HT89.out (fun g hg q => by have h1 : g = w.heap.size + 1 := q; have h2 := m.ge hg; have h3 := HT6.out.size; omega)).mono (by have := HT6.out.size; omega)
        · obtain ⟨x, y, e, h⟩ := ((((HA3.out.turn_no HT34.out).turn_no HT45.out).turn_no HT56.out).turn_no HT67.out).turn_no HT78.out
          refine ⟨x, y, e, h.turn HT89.out (fun q hq z => ?_)⟩
          have h1 : q.block = w.heap.size + 1 := z
          have h2 := HF2.out q.block (by have : la = x := by simp at e; exact e.1
                                         rw [this, hq]; rfl)
          have h3 := HT1.out.size
          omega
        · intro g hg
          have h2 := HF2.out g hg
          have h3 := HT1.out.size
          omega
      · have hE' : (sE != 0) = true := by simpa using hE
        go_wp2_with (first | (refine wpList_build_none rfl 65 rfl zs hbz ?_) | (refine wpList_store_anyN rfl rfl 65 (.tmp 2) (.tmp 56) rfl (w.heap.size + 1) zs rfl rfl 65 zs (HK.out _ HT8.out).2.2.2.2 hzi rfl hz1 ?_; intro w9 R9 T9; have HR9 := shut R9; have HT9 := shut ((HT0.out.then_no HT8.out).trans T9 (fun k hk q => by have : k = w.heap.size + 1 := q; omega)); clear R9 T9))
        refine ⟨rfl, _, results_cell_row_tmp (g := w.heap.size + 1) (cs := zs) (t := 65) rfl _ _ _ _ rfl HR9.out Try.underlying65 rfl hzi, ⟨L, fun _ _ => HS.out, .inl ⟨?_, ?_⟩⟩, HT9.out⟩
        · rw [HBE.out, if_neg (by rw [hN]; simp), if_neg (by rw [hW]; simp), HSE.out]
          exact hE
        · rw [HBE.out, if_neg (by rw [hN]; simp), if_neg (by rw [hW]; simp), HSE.out, HZS.out]
          rfl
    · have c30 : Calls Try.prog 30 #[.slice sa sn sc] w4 fun e w' => e = .returned (.tuple #[.agg #[.slice none 0 0], .int .i64 (weighE (mbsOf L))]) ∧ Turn no w4 w' := new15_no w4 _ _ HM4.out hW
      obtain ⟨wE, hwE⟩ : ∃ wE, weighE (mbsOf L) = wE := ⟨_, rfl⟩
      have HWE := shut hwE
      rw [hwE] at c30 hW
      clear hwE
      have hE' : (wE != 0) = true := by simpa using hW
      go_wp2_with (first | (go_at_call 30; refine c30.mono ?_; rintro e w5 ⟨rfl, t5⟩; have HT5 := shut (HT4.out.then_no t5); clear c30 t5) | (refine wpList_build_none rfl 65 rfl zs hbz ?_) | (refine wpList_store_anyN rfl rfl 65 (.tmp 2) (.tmp 46) rfl (w.heap.size + 1) zs rfl rfl 65 zs (HK.out _ (HT5.out.alloc _)).2.2.2.2 hzi rfl hz1 ?_; intro w9 R9 T9; have HR9 := shut R9; have HT9 := shut ((HT0.out.then_no (HT5.out.alloc _)).trans T9 (fun k hk q => by have : k = w.heap.size + 1 := q; omega)); clear R9 T9))
      refine ⟨rfl, _, results_cell_row_tmp (g := w.heap.size + 1) (cs := zs) (t := 65) rfl _ _ _ _ rfl HR9.out Try.underlying65 rfl hzi, ⟨L, fun _ _ => HS.out, .inl ⟨?_, ?_⟩⟩, HT9.out⟩
      · rw [HBE.out, if_neg (by rw [hN]; simp), if_pos (by rw [HWE.out]; exact hW), HWE.out]
        exact hW
      · rw [HBE.out, if_neg (by rw [hN]; simp), if_pos (by rw [HWE.out]; exact hW), HWE.out, HZS.out]
        rfl
  · have c28 := c28.mono (R' := fun e w' => e = .returned (.tuple #[.agg #[.slice none 0 0, .slice none 0 0, .int .u64 0, .int .u64 0], .int .i64 (newE l)]) ∧ Turn no w1 w') (fun e w' hh => by
      rcases hh with ⟨q, _⟩ | ⟨_, h⟩
      · exact absurd q hN
      · exact h)
    obtain ⟨nE, hnE⟩ : ∃ nE, newE l = nE := ⟨_, rfl⟩
    have HNE := shut hnE
    rw [hnE] at c28 hN
    clear hnE
    have hE' : (nE != 0) = true := by simpa using hN
    go_wp2_with (first | (go_at_call 28; refine c28.mono ?_; rintro e w2 ⟨rfl, t2⟩; have HT2 := shut (HT1.out.then_no t2); clear c28 t2) | (refine wpList_build_none rfl 65 rfl zs hbz ?_) | (refine wpList_store_anyN rfl rfl 65 (.tmp 2) (.tmp 33) rfl (w.heap.size + 1) zs rfl rfl 65 zs (HK.out _ (HT2.out.alloc _)).2.2.2.2 hzi rfl hz1 ?_; intro w9 R9 T9; have HR9 := shut R9; have HT9 := shut ((HT0.out.then_no (HT2.out.alloc _)).trans T9 (fun k hk q => by have : k = w.heap.size + 1 := q; omega)); clear R9 T9))
    refine ⟨rfl, _, results_cell_row_tmp (g := w.heap.size + 1) (cs := zs) (t := 65) rfl _ _ _ _ rfl HR9.out Try.underlying65 rfl hzi, ⟨[], fun _ q => absurd (HNE.out.symm.trans q) hN, .inl ⟨?_, ?_⟩⟩, HT9.out⟩
    · rw [HBE.out, if_pos (by rw [HNE.out]; exact hN), HNE.out]
      exact hN
    · rw [HBE.out, if_pos (by rw [HNE.out]; exact hN), HNE.out, HZS.out]
      rfl
end Go.Proofs.Ytbhimedajfkioaa
