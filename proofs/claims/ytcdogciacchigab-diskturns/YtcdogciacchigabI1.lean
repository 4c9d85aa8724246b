/- Mount. -/
import Derived.Test.YtcdogciacchigabI0
namespace Go.Proofs.Ytcdogciacchigab
open Go.RowKit Go.Maps
set_option linter.unusedVariables false

/-- The files of a mounted image. -/
def mF (l : List Fx) : List Pf := l.foldl (fun acc f => putF ⟨f.nm, f.bs, f.bs.length⟩ acc) []
theorem mF_snoc (l : List Fx) (f : Fx) : mF (l ++ [f]) = putF ⟨f.nm, f.bs, f.bs.length⟩ (mF l) := by simp [mF]
def mSt (lim : Nat) (l : List Fx) : St := ⟨lim, mF l, 0, [], 0, false, false⟩
def fitAt (L : Nat) (l : List Fx) (j : Nat) : Bool := match l[j]? with | some f => fitsB (mSt L (l.take j)) f.nm f.bs.length | none => true
/-- Is the image mounted? -/
def mOk (lim : Int) (l : List Fx) : Bool := ordB (l.map Fx.nm) && (decide (1 ≤ lim) && decide (lim ≤ 1073741824)) && (List.range l.length).all (fitAt lim.toNat l)
/-- What New and Mount answer. -/
def Made (w : World) (e : Ending) (w' : World) (s : St) : Prop := ∃ q K, e = .returned (.tuple #[ptr q, .int .i64 0]) ∧ w.heap.size ≤ q ∧ Dk w' q K s ∧ From w no K ∧ Turn no w w'

set_option maxRecDepth 100000 in
set_option maxHeartbeats 4000000 in
theorem mount25 (B : Nat) (w : World) (hBw : B ≤ w.heap.size) (a : Option Addr) (cap : Nat) (l : List Fx) (h : Fs B w a cap l) (lim : Int) : Calls Try.prog 30 #[.agg #[.slice a l.length cap], .int .i64 lim] w fun e w' =>
    (mOk lim l = false ∧ ∃ er : Int, e = .returned (.tuple #[.pointer none, .int .i64 er]) ∧ Turn no w w') ∨ (mOk lim l = true ∧ Made w e w' (mSt lim.toNat l)) := by
  have hle : l.length ≤ 9223372036854775807 := by have := h.le; have := h.cap; simp only [maxLen] at this; omega
  have T1 : Turn no w (w.alloc (.cells #[.slice a l.length cap] 24)) := (Turn.refl no w).alloc _
  have r1 : Row (w.alloc (.cells #[.slice a l.length cap] 24)) w.heap.size #[.slice a l.length cap] 24 := Row.new w _ 24
  have h1 := h.turn_no T1
  have hio := inOrder48 B _ a cap l h1
  have c0 := r1.cell 0 _ rfl
  generalize hw1 : w.alloc (.cells #[.slice a l.length cap] 24) = w1 at *
  cases hord : ordB (l.map Fx.nm) with
  | false =>
    rw [hord] at hio
    clear h h1 r1
    go_enter Try.func30, Try.ntmps30
    go_wp2_with fail
    refine hio.mono ?_
    rintro e w2 ⟨rfl, t2⟩
    go_wp2_with fail
    go_ret2
    exact Or.inl ⟨by simp [mOk, hord], 60, rfl, T1.then_no t2⟩
  | true =>
    rw [hord] at hio
    by_cases hlim : lim < 1 ∨ 1073741824 < lim
    · have hn := fun W => new9_no W lim hlim
      have HM : Shut (mOk lim l = false) := by
        show mOk lim l = false
        have : (decide (1 ≤ lim) && decide (lim ≤ 1073741824)) = false := by
          rcases hlim with q | q
          · have : decide (1 ≤ lim) = false := by simpa using q
            simp [this]
          · have : decide (lim ≤ 1073741824) = false := by simpa using q
            simp [this]
        simp [mOk, this]
      clear h h1 r1 hlim
      go_enter Try.func30, Try.ntmps30
      go_wp2_with fail
      refine hio.mono ?_
      rintro e w2 ⟨rfl, t2⟩
      go_wp2_with fail
      refine (hn _).mono ?_
      rintro e w3 ⟨rfl, rfl⟩
      go_wp2_with fail
      go_ret2
      exact Or.inl ⟨HM.out, 2, rfl, T1.then_no t2⟩
    · obtain ⟨L, hL⟩ : ∃ L : Nat, lim = (L : Int) := ⟨lim.toNat, by omega⟩
      subst hL
      have hnm : ∀ f ∈ l, isNm f.nm = true := fun f hf => by
        obtain ⟨j, hj⟩ := List.getElem?_of_mem hf
        have hjl := (List.getElem?_eq_some_iff.1 hj).1
        have := List.all_eq_true.1 hord j (by simpa using hjl)
        simp only [okAt, Bool.and_eq_true] at this
        have e : (l.map Fx.nm).getD j [] = f.nm := by simp [List.getD_eq_getElem?_getD, hj]
        rw [e] at this
        exact this.1
      have hn := fun W => new9 W L (by omega) (by omega)
      have HL : Shut (1 ≤ L ∧ L ≤ 1073741824) := ⟨by omega, by omega⟩
      have HLd : Shut ((decide (1 ≤ (L : Int)) && decide ((L : Int) ≤ 1073741824)) = true) := by
        show (decide (1 ≤ (L : Int)) && decide ((L : Int) ≤ 1073741824)) = true
        simp; omega
      have HO : Shut (ordB (l.map Fx.nm) = true) := hord
      clear hord
      have hcc : ∀ W, Turn no w1 W → W.cell? ⟨w.heap.size, 0, none⟩ = some (.slice a l.length cap) := fun W t => (r1.turn t (fun q => q)).cell 0 _ rfl
      clear hlim
      go_enter Try.func30, Try.ntmps30
      go_wp2_with fail
      refine hio.mono ?_
      rintro e w2 ⟨rfl, t2⟩
      go_wp2_with fail
      refine (hn _).mono ?_
      rintro e w3 ⟨q, K0, rfl, hq, hD0, hF0, t3⟩
      have T3 := (T1.then_no t2).then_no t3
      have c3 := hcc _ (t2.then_no t3)
      have hK0 : ∀ x, K0 x → w.heap.size ≤ x := fun x hx => by
        rcases hF0 x hx with y | y
        · exact y.elim
        · have := (T1.then_no t2).size; omega
      have hqw : w.heap.size ≤ q := by have := (T1.then_no t2).size; omega
      have h3 := h.turn_no T3
      clear hn hio hcc c0 r1 t2 t3 hF0 h h1 T1 hq
      unfold ptr at *
      go_wp2_with fail
      go_loopw [25] (fun x wr => ∃ (i : Nat) (KI : Nat → Prop), i ≤ l.length ∧ x = .int .i64 i ∧ Dk wr q KI (mSt L (l.take i)) ∧ (∀ x, KI x → w.heap.size ≤ x) ∧ Turn no w wr ∧ Fs B wr a cap l ∧ Shut (∀ j, j < i → fitAt L l j = true)) (fun x _ => l.length - (intOf x).toNat)
      case atStart => exact ⟨0, K0, Nat.zero_le _, rfl, hD0, hK0, T3, h3, fun j hj => by omega⟩
      case round =>
        clear hD0 hK0 T3 h3 c3
        obtain ⟨i, KI, hi, rfl, hD, hKI, T, hfs, hfa⟩ := hrel
        by_cases hlt : i < l.length
        · have hlt' : (i : Int) < (l.length : Int) := by omega
          obtain ⟨f, hf⟩ : ∃ f, l[i]? = some f := ⟨l[i], List.getElem?_eq_getElem hlt⟩
          have hfm := List.mem_of_getElem? hf
          have htk : l.take (i + 1) = l.take i ++ [f] := by rw [List.take_add_one, hf]; rfl
          obtain ⟨b, off, rfl, hb, d0, d1⟩ := hfs.cells i f hf
          obtain ⟨hfl, hfb, hfo⟩ := hfs.each f hfm
          obtain ⟨va, vc, hvb⟩ := hfb.slice
          rw [hvb] at d1 hfb hfo
          have TA : Turn no wr (wr.alloc (.cells #[strV f.nm, .slice va f.bs.length vc] 66)) := (Turn.refl no wr).alloc _
          have BX : Row (wr.alloc (.cells #[strV f.nm, .slice va f.bs.length vc] 66)) wr.heap.size #[strV f.nm, .slice va f.bs.length vc] 66 := Row.new wr _ 66
          obtain ⟨bf, bt, V, hP0⟩ := hD
          have hP := hP0.turn TA (fun _ _ q => q)
          have hfit := fits33 hP rfl f.nm hfl f.bs.length
          have hbx : ∀ W S, (¬ S wr.heap.size) → Turn S (wr.alloc (.cells #[strV f.nm, .slice va f.bs.length vc] 66)) W → W.cell? ⟨wr.heap.size, 0, none⟩ = some (strV f.nm) ∧ W.cell? ⟨wr.heap.size, 1, none⟩ = some (.slice va f.bs.length vc) := fun W S hS t => ⟨(BX.turn t hS).cell 0 _ rfl, (BX.turn t hS).cell 1 _ rfl⟩
          have HBX := shut hbx
          obtain ⟨e0, e1⟩ := hbx _ no (fun q => q) (Turn.refl no _)
          have TW := T.then_no TA
          have hKl := hP0.klt
          have hwr : w.heap.size ≤ wr.heap.size := T.size
          have hBr : B ≤ wr.heap.size := by omega
          clear hbx
          clear hvb
          unfold ptr at hfit
          cases hfi : fitsB (mSt L (l.take i)) f.nm f.bs.length with
          | false =>
            rw [hfi] at hfit
            have HM : Shut (mOk (L : Int) l = false) := by
              show mOk (L : Int) l = false
              have : (List.range l.length).all (fitAt (L : Int).toNat l) = false := by
                rw [List.all_eq_false]
                exact ⟨i, by simpa using hlt, by simp [fitAt, hf, hfi]⟩
              unfold mOk
              rw [this, Bool.and_false]
            have HTW := shut TW
            clear hP hP0 hfs hKl HBX hfb hfo BX TA T TW
            unfold strV at *
            go_wp2_with fail
            refine hfit.mono ?_
            rintro e w5 ⟨rfl, t5⟩
            go_wp2_with fail
            go_ret2
            exact Or.inl ⟨HM.out, 62, rfl, HTW.out.then_no t5⟩
          | true =>
            rw [hfi] at hfit
            have hfa' : Shut (∀ j, j < i + 1 → fitAt L l j = true) := fun j hj => by
              rcases Nat.lt_or_ge j i with y | y
              · exact hfa.out j y
              · have : j = i := by omega
                rw [this]
                simp [fitAt, hf, hfi]
            have hinv : Inv { mSt L (l.take i) with fs := putF ⟨f.nm, f.bs, f.bs.length⟩ (mF (l.take i)) } := by
              simp only [fitsB, Bool.and_eq_true, Bool.or_eq_true, decide_eq_true_eq] at hfi
              refine hP.inv.put _ (hnm f hfm) (Nat.le_refl _) ?_ hfi.2
              have := hP.inv.used
              simp only
              omega
            have hlen : f.bs.length ≤ 1073741824 := by
              simp only [fitsB, Bool.and_eq_true, decide_eq_true_eq] at hfi
              have := HL.out
              have h9 := hfi.1
              have : (mSt L (l.take i)).lim = L := rfl
              omega
            have hst : mSt L (l.take (i + 1)) = { mSt L (l.take i) with fs := putF ⟨f.nm, f.bs, f.bs.length⟩ (mF (l.take i)) } := by
              unfold mSt
              rw [htk, mF_snoc]
            -- the bytes are copied, the file is laid down
            have hsf : ∀ W, Turn no (wr.alloc (.cells #[strV f.nm, .slice va f.bs.length vc] 66)) W → _ := fun W t => syncedFile49 W _ _ ((hfb.turn_no TA).turn_no t) (by omega)
            have hput : ∀ W W' v', Turn no (wr.alloc (.cells #[strV f.nm, .slice va f.bs.length vc] 66)) W → Turn no W W' → Own W' 5 v' (f.bs.map bv) → v'.ownBlock = some (W.heap.size + 1) → _ := fun W W' v' t t' hv hg => put36 (hP.turn (t.then_no t') (fun _ _ q => q)) rfl ⟨f.nm, f.bs, f.bs.length⟩ v' hv hinv (fun g hg' => by
              rw [hg] at hg'
              cases hg'
              have hs := t.size
              have hs2 := TA.size
              refine ⟨fun e => ?_, fun f' hf' _ e => ?_⟩
              · have := hKl q hP.kp; omega
              · have := hKl _ (hP.owned f' hf' _ e); omega)
            have hdone : ∀ W W' v' w9, Turn no (wr.alloc (.cells #[strV f.nm, .slice va f.bs.length vc] 66)) W → Turn no W W' → v'.ownBlock = some (W.heap.size + 1) → Dp w9 q (fun k => KI k ∨ v'.ownBlock = some k) bf bt (setV V f.nm v') { mSt L (l.take i) with fs := putF ⟨f.nm, f.bs, f.bs.length⟩ (mF (l.take i)) } → Turn (fun k => k = q ∨ bf = some k) W' w9 →
                Dk w9 q (fun k => KI k ∨ v'.ownBlock = some k) (mSt L (l.take (i + 1))) ∧ (∀ x, KI x ∨ v'.ownBlock = some x → w.heap.size ≤ x) ∧ Turn no w w9 ∧ Fs B w9 (some ⟨b, off, none⟩) cap l := fun W W' v' w9 t t' hg hD9 t9 => by
              have hs := t.size
              have hs2 := TA.size
              have hkq : w.heap.size ≤ q := hKI q hP.kp
              have hkf : ∀ k, bf = some k → w.heap.size ≤ k := fun k e => hKI k (hP.kbf k e)
              refine ⟨⟨bf, bt, _, hst ▸ hD9⟩, fun x hx => ?_, ((TW.then_no t).then_no t').trans t9 (fun k hk hq => ?_), (((hfs.turn_no TA).turn_no t).turn_no t').turn t9 (fun k hq => ?_)⟩
              · rcases hx with y | y
                · exact hKI x y
                · rw [hg] at y; cases y; omega
              · rcases hq with y | y
                · omega
                · have := hkf k y; omega
              · rcases hq with y | y
                · omega
                · have := hkf k y; omega
            have HSF := shut hsf
            have HPUT := shut hput
            have HDONE := shut hdone
            have hnq : ∀ k, k = q ∨ bf = some k → ¬ k = wr.heap.size := fun k hq e => by
              rcases hq with y | y
              · have := hKl q hP.kp; omega
              · have := hKl k (hP.kbf k y); omega
            clear hsf hput hdone hP hP0 hfs hKl hfb hfo BX TA T TW hinv hst hfi
            generalize hwa : wr.alloc (.cells #[strV f.nm, .slice va f.bs.length vc] 66) = wa at *
            unfold strV fileV at *
            go_wp2_with fail
            refine hfit.mono ?_
            rintro e w5 ⟨rfl, t5⟩
            go_wp2_with fail
            refine wp_region_noPanic ?_
            refine wp_region_held_drew (S := fun W => Turn (fun k => k = q ∨ bf = some k) w5 W) (by kernel_rfl) (Turn.refl _ w5).drew (fun hHeld => ?_)
            refine' wpAnyH_take (i := 0) (v := .pointer (some ⟨q, 0, none⟩)) rfl (by kernel_rfl) (by kernel_rfl) (by kernel_rfl) (fun _ _ _ h => h) (Or.inl ⟨by kernel_rfl, fun W hW => ?y1⟩) hHeld ?r1
            · go_simp
            refine' wpAnyH_take (i := 1) (v := .pointer (some ⟨wr.heap.size, 0, none⟩)) rfl (by kernel_rfl) (by kernel_rfl) (by kernel_rfl) (fun _ _ _ h => h) (Or.inl ⟨by kernel_rfl, fun W hW => ?y2⟩) hHeld ?r2
            · go_simp
            refine' wpAnyH_take (i := 2) (v := .string ⟨f.nm.toArray⟩) rfl (by kernel_rfl) (by kernel_rfl) (by kernel_rfl) (fun _ _ _ h => h) (Or.inl ⟨by kernel_rfl, fun W hW => ?y3⟩) hHeld ?r3
            · have c := (HBX.out W _ (fun hq => hnq _ hq rfl) ((t5.of_no).trans hW (fun _ _ q => q))).1
              go_simp
            refine' wpAnyH_take (i := 3) (v := .pointer (some ⟨wr.heap.size, 1, none⟩)) rfl (by kernel_rfl) (by kernel_rfl) (by kernel_rfl) (fun _ _ _ h => h) (Or.inl ⟨by kernel_rfl, fun W hW => ?y4⟩) hHeld ?r4
            · go_simp
            refine' wpAnyH_take (i := 4) (v := .slice va f.bs.length vc) rfl (by kernel_rfl) (by kernel_rfl) (by kernel_rfl) (fun _ _ _ h => h) (Or.inl ⟨by kernel_rfl, fun W hW => ?y5⟩) hHeld ?r5
            · have c := (HBX.out W _ (fun hq => hnq _ hq rfl) ((t5.of_no).trans hW (fun _ _ q => q))).2
              go_simp
            have t5d : Turn no wa w5.drew := t5.drew
            refine wpAnyH_ready (rs := [5]) (by kernel_rfl) (by simp) ?_
            refine AllReadyH.cons rfl (fun K hK => ?_) AllReadyH.nil
            go_simp
            refine (HSF.out _ t5d).mono ?_
            rintro e w6 ⟨v', rfl, hO6, hB6, t6⟩
            have hput6 := HPUT.out _ _ v' t5d t6 hO6 hB6
            obtain ⟨xa, xn, xc, rfl⟩ := hO6.slice
            have HO6 := shut hO6
            have HB6 := shut hB6
            have HP6 := shut hput6
            clear hO6 hB6 hput6
            go_wp2_with fail
            refine hK.out _ _ (((Turn.refl no w5).drew.then_no t6).of_no) (fun hHeld => ?_)
            clear hK
            refine wpAnyH_ready (rs := [6]) (by kernel_rfl) (by simp) ?_
            refine AllReadyH.cons rfl (fun K hK => ?_) AllReadyH.nil
            go_simp
            refine HP6.out.mono ?_
            rintro e w7 ⟨rfl, hD7, t7⟩
            obtain ⟨z1, z2, z3, z4⟩ := HDONE.out _ _ _ _ t5d t6 HB6.out hD7 t7
            have HZ1 := shut z1
            have HZ2 := shut z2
            have HZ3 := shut z3
            have HZ4 := shut z4
            have HT7 := shut t7
            clear z1 z2 z3 z4 hD7 t7
            go_wp2_with fail
            refine hK.out _ _ ((((Turn.refl no w5).drew.then_no t6).of_no).trans HT7.out (fun _ _ q => q)) (fun hHeld => ?_)
            clear hK
            refine wpAnyH_done (by kernel_rfl) ?_ _
            refine NoPanic.normal ?_
            go_wp2_with fail
            go_roundw
            case rel => exact ⟨i + 1, _, by omega, by go_num, HZ1.out, HZ2.out, HZ3.out, HZ4.out, hfa'⟩
            case measure => simp [intOf]; omega
        · have hil : i = l.length := by omega
          subst hil
          have hlt' : ¬ (l.length : Int) < (l.length : Int) := by omega
          rw [List.take_length] at hD
          clear hfs
          go_wp2_with fail
          go_ret2
          have hM : mOk (L : Int) l = true := by
            simp only [mOk, HO.out, HLd.out, Bool.true_and]
            rw [List.all_eq_true]
            intro j hj
            exact hfa.out j (by simpa using hj)
          exact Or.inr ⟨hM, q, KI, rfl, hqw, hD, (fun k hk => Or.inr (hKI k hk)), T⟩
end Go.Proofs.Ytcdogciacchigab
