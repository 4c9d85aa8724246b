/- DiskBack: the walk. -/
import Derived.Test.YtcdogciacchigaaB2
import Derived.Test.YtcdogciacchigaaV2
namespace Go.Proofs.Ytcdogciacchigaa
open Go.RowKit Go.Maps
set_option linter.unusedVariables false

theorem One.inv {B : Nat} {w : World} {p : Nat} {s : St} (h : One B w p s) : Inv s := by
  obtain ⟨K, ⟨_, _, _, hd⟩, _⟩ := h
  exact hd.inv
theorem crashL_small {s : St} (hI : Inv s) (hok : ∀ f ∈ s.fs, f.sy ≤ f.bs.length ∧ f.bs.length ≤ 1073741824) (keep : List Int) (junk : UInt8) : (crashL s.fs keep junk).length ≤ 65536 ∧ (∀ f ∈ crashL s.fs keep junk, f.2.length ≤ 1073741824) ∧ ∀ f ∈ crashL s.fs keep junk, f.1.length ≤ maxLen := by
  have hall : ∀ x ∈ crashL s.fs keep junk, ∃ f ∈ s.fs, x.1 = f.nm ∧ x.2.length ≤ f.bs.length := fun x hx => by
    obtain ⟨i, hi⟩ := List.getElem?_of_mem hx
    have hil := (List.getElem?_eq_some_iff.1 hi).1
    rw [crashL_len] at hil
    have hf : s.fs[i]? = some s.fs[i] := List.getElem?_eq_getElem hil
    rw [crashL_at _ _ _ i _ hf] at hi
    cases hi
    exact ⟨_, List.getElem_mem _, rfl, left_short ..⟩
  refine ⟨by rw [crashL_len]; exact hI.count, fun x hx => ?_, fun x hx => ?_⟩
  · obtain ⟨f, hf, _, h2⟩ := hall x hx
    have := (hok f hf).2
    omega
  · obtain ⟨f, hf, h1, _⟩ := hall x hx
    rw [h1]
    have := isNm_len (hI.names f hf)
    simp only [maxLen]
    omega
/-- What a crash has left, mounted. -/
theorem mount_back {B : Nat} {w : World} {v : Value} {s : St} {keep : List Int} {junk : UInt8} (h : Im B w v (crashL s.fs keep junk)) (hI : Inv s) (hn : ∀ f ∈ crashL s.fs keep junk, f.1.length ≤ maxLen) :
    Calls Try.prog 25 #[.agg #[v], .int .i64 1073741824] w fun e w' => ∃ q K S, e = .returned (.tuple #[ptr q, .int .i64 0]) ∧ Dk w' q K S ∧ (∀ k, K k → w.heap.size ≤ k) ∧ S.fs = (crashL s.fs keep junk).map (fun x => ⟨x.1, x.2, x.2.length⟩) ∧ S.off = false ∧ S.out = false ∧ Turn no w w' := by
  obtain ⟨a, cap, l, rfl, hl, F⟩ := h.fs hn
  obtain ⟨ok, e⟩ := crash_back hI hl
  refine (mount25 w.heap.size w (Nat.le_refl _) a cap l F 1073741824).mono ?_
  rintro e' w' (⟨no', _⟩ | ⟨_, q, K, rfl, q1, q2, q3, q4⟩)
  · rw [ok] at no'; cases no'
  · exact ⟨q, K, _, rfl, q2, fun k z => by
      rcases q3 k z with z | z
      · exact z.elim
      · exact z, e, rfl, rfl, q4⟩

set_option maxRecDepth 100000 in
set_option maxHeartbeats 16000000 in
theorem back_any (w : World) (m : Mx) (ma : Option Addr) (mcap : Nat) (hm : Fs w.heap.size w ma mcap m.l) (v1 : Value) (l1 : List Opx) (h1 : Sc w.heap.size w v1 l1) (hl1 : l1.length ≤ 1000000000000000) (vk : Value) (keep : List Int) (hkeep : Vs w vk (keep.map iv)) (hkold : keep = [] ∨ ∀ g, vk.ownBlock = some g → g < w.heap.size) (junk : UInt8) (vo : Value) (oth : List Int) (hoth : Vs w vo (oth.map iv)) (hoold : oth = [] ∨ ∀ g, vo.ownBlock = some g → g < w.heap.size) (more : UInt8) :
    Calls Try.prog 7 #[.agg (mxC m ma mcap), v1, vk, .int .u8 junk.toNat, vo, .int .u8 more.toNat] w fun e w' => e = .returned (.bool true) ∧ Turn no w w' := by
  obtain ⟨a1, c1, rfl, _⟩ := h1.slice
  obtain ⟨ka, kc, hks⟩ := hkeep.slice
  obtain ⟨oa, oc, hos⟩ := hoth.slice
  simp only [List.length_map] at hks hos
  subst hks hos
  obtain ⟨W2, hW2⟩ : ∃ W2, W2 = w.alloc (.cells (mxC m ma mcap) 52) := ⟨_, rfl⟩
  have T2 : Turn no w W2 := by rw [hW2]; exact (Turn.refl no w).alloc _
  have RM : Row W2 w.heap.size (mxC m ma mcap) 52 := by rw [hW2]; exact Row.new w _ 52
  obtain ⟨B, hB⟩ : ∃ B, B = W2.heap.size := ⟨_, rfl⟩
  have hBw : B = w.heap.size + 1 := by rw [hB, hW2]; simp
  have s1 := (h1.turn_no T2).mono (show w.heap.size ≤ B by omega)
  have hlv := lives17 w.heap.size W2 (by have := T2.size; omega) m ma mcap (hm.turn_no T2)
  obtain ⟨lc, ln, lm⟩ := live_calm m
  have hz := shut num10
  have m0 := RM.cell 0 _ rfl
  have m1 := RM.cell 1 _ rfl
  have m2 := RM.cell 2 _ rfl
  have hkp : ∀ W, Turn (old B) W2 W → Vs W (.slice ka keep.length kc) (keep.map iv) ∧ Vs W (.slice oa oth.length oc) (oth.map iv) := fun W t => ⟨(hkeep.turn_no T2).late t (fun hne g hg q => by
    rcases hkold with e | e
    · exact hne (by rw [e]; rfl)
    · have := e g hg; have : B ≤ g := q; omega), (hoth.turn_no T2).late t (fun hne g hg q => by
    rcases hoold with e | e
    · exact hne (by rw [e]; rfl)
    · have := e g hg; have : B ≤ g := q; omega)⟩
  have HKP := shut hkp
  have S1 := shut s1
  have HB := shut hB
  have HBW := shut hBw
  generalize hs0 : liveS m = s0 at *
  clear hkp s1 hB hBw h1 hm hkeep hkold hoth hoold
  unfold mxC at *
  go_enter Try.func7, Try.ntmps7
  go_wp2_with fail
  try rw [← hW2]
  refine hlv.mono ?_
  rintro e w3 ⟨p, rfl, K, hpq, hD, hK, t3⟩
  have hOne : One B w3 p s0 := ⟨K, hD, fun k x => by have := hK k x; have := HB.out; omega⟩
  have S13 := shut (S1.out.turn_no t3)
  have HKP3 : Shut (∀ W, Turn (old B) w3 W → Vs W (.slice ka keep.length kc) (keep.map iv) ∧ Vs W (.slice oa oth.length oc) (oth.map iv)) := fun W t => HKP.out W (t3.of_no.trans t (fun _ _ q => q))
  have T3 := T2.then_no t3
  have hB3 : B ≤ w3.heap.size := by have := t3.size; have := HB.out; omega
  have HON := shut hOne
  unfold ptr at *
  clear hlv hD hK hpq hOne S1 HKP t3 T2 m0 m1 m2 RM hW2 HB
  go_wp2_with fail
  go_loopw [15] (fun x wr => ∃ (i : Nat) (s : St), i ≤ l1.length ∧ x = .int .i64 i ∧ Shut (One B wr p s) ∧ s.n ≤ i ∧ s.m ≤ i ∧ s.out = false ∧ Turn (old B) w3 wr) (fun x _ => l1.length - (intOf x).toNat)
  case atStart => exact ⟨0, s0, Nat.zero_le _, rfl, HON, by omega, by omega, lc.out, Turn.refl _ _⟩
  case round =>
    clear HON
    obtain ⟨i, s, hi, rfl, hT, hn, hm0, hout, T⟩ := hrel
    have hBr : B ≤ wr.heap.size := by have := T.size; omega
    by_cases hlt : i < l1.length
    · have hlt' : (i : Int) < (l1.length : Int) := by omega
      obtain ⟨x, hx⟩ : ∃ x, l1[i]? = some x := ⟨l1[i], List.getElem?_eq_getElem hlt⟩
      obtain ⟨bb, off, xa, xn, xc, ya, yn, yc, ea, hb, hO, hA⟩ := (S13.out.turn T).at i x hx
      subst ea
      obtain ⟨_, _, d0, d1, d2, d3, d4, d5, d6, d7, d8, d9⟩ := id hA
      have hd1 := hT.out.does hBr (by omega) (by omega) hO hA.vd hA.vk
      obtain ⟨b1, b2, b3⟩ := do_bounds s x
      clear hA hO
      unfold opX ptr at *
      generalize (doS s x).2 = E at *
      generalize (doS s x).1 = s' at *
      go_wp2_with fail
      refine hd1.mono ?_
      rintro e w5 ⟨rfl, hT5, t5⟩
      have HT5 := shut hT5
      have TT := T.trans t5 (fun _ _ q => q)
      clear hd1 hT5
      go_wp2_with fail
      go_roundw
      case rel => exact ⟨i + 1, s', by omega, by go_num, HT5, by omega, by omega, by rw [b3, hout], TT⟩
      case measure => simp [intOf]; omega
    · have hlt' : ¬ (i : Int) < (l1.length : Int) := by omega
      have hcr := hT.out.crash (Turn.refl no wr) hout (.slice ka keep.length kc) keep (HKP3.out wr T).1 junk
      have hinv := shut hT.out.inv
      obtain ⟨f1, f2, f3⟩ := crashL_small hT.out.inv hT.out.ok.1 keep junk
      have HF2 := shut f2
      have HF3 := shut f3
      have hag := shut (fun o j => crash_again (crashL s.fs keep junk) o j)
      have hmb := shut (fun W B' v (h : Im B' W v (crashL s.fs keep junk)) => mount_back h hinv.out f3)
      clear f2 f3 hT
      generalize crashL s.fs keep junk = fl at *
      unfold ptr at *
      go_wp2_with fail
      refine hcr.mono ?_
      rintro e w7 ⟨v7, rfl, hI, _, t7⟩
      obtain ⟨a7, c7, rfl, _⟩ := hI.form
      have T7 : Turn (old B) w3 w7 := T.trans t7 (fun _ _ q => q.1)
      obtain ⟨w8, hw8⟩ : ∃ w8, w8 = w7.alloc (.cells #[.slice a7 fl.length c7] 36) := ⟨_, rfl⟩
      have A8 : Turn no w7 w8 := by rw [hw8]; exact (Turn.refl no w7).alloc _
      have R8 : Row w8 w7.heap.size #[.slice a7 fl.length c7] 36 := by rw [hw8]; exact Row.new _ _ _
      have r8 := R8.cell 0 _ rfl
      have hz8 := hz.out w8 0
      have I8 := hI.turn_no A8
      have hcp := copied24 I8 f1 HF2.out
      clear hcr hI
      go_wp2_with fail
      try rw [← hw8]
      refine hz8.mono ?_
      rintro e w8' ⟨rfl, rfl⟩
      clear hw8
      go_wp2_with fail
      refine hcp.mono ?_
      rintro e w9 ⟨v9, rfl, I9, t9⟩
      obtain ⟨a9, c9, rfl, _⟩ := I9.form
      obtain ⟨w10, hw10⟩ : ∃ w10, w10 = w9.alloc (.cells #[.slice a9 fl.length c9] 36) := ⟨_, rfl⟩
      have A10 : Turn no w9 w10 := by rw [hw10]; exact (Turn.refl no w9).alloc _
      have R10 : Row w10 w9.heap.size #[.slice a9 fl.length c9] 36 := by rw [hw10]; exact Row.new _ _ _
      have t10 := t9.then_no A10
      have r10 := (R8.turn t10 (fun q => q)).cell 0 _ rfl
      have cM := hmb.out w10 _ _ (I8.turn_no t10)
      have I10 := shut (I9.turn_no A10)
      have T10 := (T7.then_no A8).then_no t10
      clear hcp I9 I8 r8 hz8
      have r10' : (w9.alloc (.cells #[.slice a9 fl.length c9] 36)).cell? ⟨w7.heap.size, 0, none⟩ = some (.slice a7 fl.length c7) := by rw [← hw10]; exact r10
      go_wp2_with fail
      try rw [← hw10]
      refine cM.mono ?_
      rintro e w11 ⟨q, K, S, rfl, DQ, hKq, eS, hof, hou, t11⟩
      clear hw10 r10'
      have hz11 := hz.out w11 0
      have cT := tells26 DQ
      have eT : tellL S = fl.map (fun x => ⟨x.1, x.2, x.2.length⟩) := by unfold tellL; rw [hof, eS]; rfl
      rw [eT] at cT
      unfold ptr at *
      go_wp2_with fail
      refine hz11.mono ?_
      rintro e w11' ⟨rfl, rfl⟩
      go_wp2_with fail
      refine cT.mono ?_
      rintro e w12 ⟨v12, rfl, TL, t12⟩
      obtain ⟨a12, c12, e12⟩ := TL.slice
      rw [List.length_map] at e12
      subst e12
      have t13 := t11.then_no t12
      have hR : ∀ W, Turn no w12 W → W.cell? ⟨w9.heap.size, 0, none⟩ = some (.slice a9 fl.length c9) := fun W t => (R10.turn (t13.then_no t) (fun q => q)).cell 0 _ rfl
      have HR := shut hR
      have r12 := hR w12 (Turn.refl no w12)
      have I12 := shut (I10.out.turn_no t13)
      have HTL := shut TL
      have HDQ := shut (DQ.turn_no t12)
      have T12 := T10.then_no t13
      have HR10 := shut R10
      clear cM cT hz11 TL DQ hR R8 R10 r10 hmb
      go_wp2_with fail
      go_loopw [22] (fun x wr => ∃ i : Nat, i ≤ fl.length ∧ x = .int .i64 i ∧ Turn no w12 wr) (fun x _ => fl.length - (intOf x).toNat)
      case atStart => exact ⟨0, Nat.zero_le _, rfl, Turn.refl _ _⟩
      case round =>
        obtain ⟨j, hj, rfl, TJ⟩ := hrel
        have y1 := HR.out wr TJ
        by_cases hjl : j < fl.length
        · have hjl' : (j : Int) < (fl.length : Int) := by omega
          obtain ⟨f, hf⟩ : ∃ f, fl[j]? = some f := ⟨fl[j], List.getElem?_eq_getElem hjl⟩
          obtain ⟨g1, d1, b1, n1, x1, e1, p1, p2, p3, p4⟩ := (HTL.out.turn_no TJ).at j ⟨f.1, f.2, f.2.length⟩ (by rw [List.getElem?_map, hf]; rfl)
          obtain ⟨g2, d2, b2, n2, x2, e2, q1, q2, q4⟩ := (I12.out.turn_no TJ).at27 j f hf
          have e1' : a12 = some ⟨g1, 0, none⟩ := by simp at e1; exact e1.1
          have e2' : a9 = some ⟨g2, 0, none⟩ := by simp at e2; exact e2.1
          have hn1 : n1 = f.2.length := by
            obtain ⟨_, _, q⟩ := p4.bs.slice
            simp at q
            exact q.2.1
          subst e1' e2' hn1
          have cv1 := fun n => bytes_text (p4.turn_no ((Turn.refl no wr).drewN n)).bs
          have cv2 := fun n => bytes_text (q4.turn_no ((Turn.refl no wr).drewN n)).bs
          simp only at p1 p3 cv1
          clear p4 q4 e1 e2
          unfold strV at *
          go_wp2_with fail
          go_quiet (fail)
          go_wp2_with fail
          go_roundw
          case rel => exact ⟨j + 1, by omega, by go_num, TJ.drewN _⟩
          case measure => simp [intOf]; omega
        · have hjl' : ¬ (j : Int) < (fl.length : Int) := by omega
          have TW : Turn (old B) w3 wr := T12.then_no TJ
          have cC := crash15 (HDQ.out.turn_no TJ) hou (.slice oa oth.length oc) oth (HKP3.out wr TW).2 more
          rw [eS, hag.out] at cC
          unfold ptr at cC
          go_wp2_with fail
          refine cC.mono ?_
          rintro e w14 ⟨v14, rfl, I14, _, t14⟩
          obtain ⟨a14, c14, rfl, _⟩ := I14.form
          obtain ⟨w15, hw15⟩ : ∃ w15, w15 = w14.alloc (.cells #[.slice a14 fl.length c14] 36) := ⟨_, rfl⟩
          have A15 : Turn no w14 w15 := by rw [hw15]; exact (Turn.refl no w14).alloc _
          have R15 : Row w15 w14.heap.size #[.slice a14 fl.length c14] 36 := by rw [hw15]; exact Row.new _ _ _
          have r15 := R15.cell 0 _ rfl
          have hz15 := hz.out w15 0
          have s10 := T10.size
          have T14 : Turn no w10 w14 := (t13.then_no TJ).trans t14 (fun k hk z => by have := hKq k z; omega)
          have T15 : Turn no w10 w15 := T14.then_no A15
          have r16 := (HR10.out.turn T15 (fun q => q)).cell 0 _ rfl
          have cS := sameImage27 (I14.turn_no A15) (I10.out.turn_no T15)
          have TF : Turn (old B) w3 w15 := (TW.trans t14 (fun k hk z => by have := hKq k z; show B ≤ k; omega)).then_no A15
          have r15' : (w14.alloc (.cells #[.slice a14 fl.length c14] 36)).cell? ⟨w14.heap.size, 0, none⟩ = some (.slice a14 fl.length c14) := by rw [← hw15]; exact r15
          have r16' : (w14.alloc (.cells #[.slice a14 fl.length c14] 36)).cell? ⟨w9.heap.size, 0, none⟩ = some (.slice a9 fl.length c9) := by rw [← hw15]; exact r16
          clear cC I14 t14 HTL I12 HDQ
          go_wp2_with fail
          try rw [← hw15]
          refine hz15.mono ?_
          rintro e w16 ⟨rfl, rfl⟩
          clear hw15 r15' r16'
          go_wp2_with fail
          refine cS.mono ?_
          rintro e w17 ⟨rfl, t17⟩
          have TG : Turn no w w17 := T3.trans (TF.then_no t17) (fun k hk q => by have : B ≤ k := q; have := HBW.out; omega)
          go_wp2_with fail
          go_ret
          exact ⟨rfl, TG⟩
end Go.Proofs.Ytcdogciacchigaa
