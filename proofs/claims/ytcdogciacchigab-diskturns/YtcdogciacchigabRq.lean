/- R12, R13, R14 in one. -/
import Derived.Test.YtcdogciacchigabR4
import Derived.Test.YtcdogciacchigabI3
import Derived.Test.YtcdogciacchigabBb
import Derived.Test.YtcdogciacchigabS2
import Derived.Deep.CutRange
-- Of the document's disk: Mount.
namespace Go.Proofs.Ytcdogciacchigab
open Go.RowKit Go.Maps
set_option linter.unusedVariables false

theorem ord_lt (l : List Nm) (h : ordB l = true) : ∀ j i, i < j → j < l.length → l.getD i [] < l.getD j [] := by
  intro j
  induction j with
  | zero => intro i hi; omega
  | succ j ih =>
    intro i hi hj
    have hk := List.all_eq_true.1 h (j + 1) (by simpa using hj)
    simp only [okAt, Bool.and_eq_true, Bool.or_eq_true, decide_eq_true_eq, Bool.not_eq_true', decide_eq_false_iff_not, Nat.add_sub_cancel] at hk
    have hlt : l.getD j [] < l.getD (j + 1) [] := by
      rcases hk.2 with q | q
      · omega
      · exact List.not_le.1 q
    by_cases e : i = j
    · subst e; exact hlt
    · exact List.lt_trans (ih i (by omega) (by omega)) hlt
theorem ord_pair (l : List Nm) (h : ordB l = true) : l.Pairwise (· < ·) := List.pairwise_iff_getElem.2 fun i j hi hj hij => by
  have := ord_lt l h j i hij hj
  simpa [List.getD_eq_getElem?_getD, hi, hj] using this
theorem used_fx (l : List Fx) : usedF (l.map fxP) = (l.map (fun f => f.bs.length)).sum := by
  unfold usedF
  rw [List.map_map]
  rfl
theorem fit_eq (l : List Fx) (h : ordB (l.map Fx.nm) = true) (L j : Nat) (f : Fx) (hf : l[j]? = some f) : fitAt L l j = (decide ((f.bs.length : Int) ≤ (L : Int) - (usedF ((l.take j).map fxP) : Int)) && decide (j < 65536)) := by
  have hp := ord_pair _ h
  have hm := mF_sorted l hp j
  have hjl := (List.getElem?_eq_some_iff.1 hf).1
  have hg : getF f.nm ((l.take j).map fxP) = none := by
    rw [getF_none]
    intro q
    rw [List.map_map] at q
    obtain ⟨x, hx, e⟩ := List.mem_map.1 q
    obtain ⟨i, hi⟩ := List.mem_iff_getElem?.1 hx
    have hij : i < j := by
      have := (List.getElem?_eq_some_iff.1 hi).1
      rw [List.length_take] at this
      omega
    rw [List.getElem?_take, if_pos hij] at hi
    have := ord_lt _ h j i hij (by simpa using hjl)
    simp only [List.getD_eq_getElem?_getD, List.getElem?_map, hi, hf, Option.map_some, Option.getD_some] at this
    exact nm_ne this e
  have hl : ((l.take j).map fxP).length = j := by rw [List.length_map, List.length_take]; omega
  simp only [fitAt, hf, fitsB, mSt, hm, hg, hl, Option.isSome_none, Bool.false_or]
/-- One file more, in place. -/
theorem Rp.pushFile {W w6 : World} {q : Nat} {K : Nat → Prop} {fv av : Value} {s : St} (h : Rp W q K fv av s) {v6 : Value} {f : Pf} (hA : Fl (fun k => K k ∨ (W.heap.size ≤ k ∧ k < w6.heap.size)) w6 v6 (s.fs ++ [f])) (hG : Grew W w6 fv v6) (hinv : Inv { s with fs := s.fs ++ [f] }) :
    Rp (w6.setCell ⟨q, 2, none⟩ v6) q (fun k => K k ∨ (W.heap.size ≤ k ∧ k < w6.heap.size)) v6 av { s with fs := s.fs ++ [f] } := by
  have T := hG.turn
  obtain ⟨vs0, _, h20, _⟩ := h.files
  have ne : ∀ {b : Nat} {c : Array Value} {t : TypeId} {fr : Nat × Nat}, W.heap[b]? = some (.cells c t fr) → t ≠ 102 → ¬ fv.ownBlock = some b := fun hb ht e => by
    obtain ⟨c', ec⟩ := h20.obj e
    exact ht (tag_ne hb ec)
  have r6 := h.row.turn T (ne h.row (by decide))
  have T1 := setTurn w6 q 2 v6
  have ne2 : ∀ {b : Nat} {c : Array Value} {t : TypeId} {fr : Nat × Nat}, w6.heap[b]? = some (.cells c t fr) → t ≠ 93 → b ≠ q := fun hb ht e => by
    subst e
    exact ht (tag_ne hb r6)
  have hs := T.size
  have hs1 := T1.size
  have ha := h.arms.1.turn T (fun g hg => by obtain ⟨c, ec⟩ := h.arms.1.obj hg; exact ne ec (by decide))
  refine ⟨hinv, h.am, r6.set 2 _, Or.inl h.kp, fun k hk => ?_, ?_, ha.turn T1 (fun g hg => by obtain ⟨c, ec⟩ := ha.obj hg; exact ne2 ec (by decide)), fun g hg => Or.inl (h.arms.2 g hg)⟩
  · rcases hk with y | y
    · have := h.klt k y; omega
    · omega
  · obtain ⟨vs, h1, h2, h3, h4⟩ := hA
    refine ⟨vs, h1, h2.turn T1 (fun g hg => by obtain ⟨c, ec⟩ := h2.obj hg; exact ne2 ec (by decide)), h3, fun j f u hf hu => ?_⟩
    obtain ⟨a, b⟩ := h4 j f u hf hu
    exact ⟨a.turn T1 (fun g hg => by obtain ⟨c, ec⟩ := a.obj hg; exact ne2 ec (by decide)), b⟩
theorem mSt_inv (l : List Fx) (h : ordB (l.map Fx.nm) = true) (L : Nat) (hL : 1 ≤ L ∧ L ≤ 1073741824) (i : Nat) (hi : i ≤ l.length) (hfit : ∀ j, j < i → fitAt L l j = true) : Inv (mSt L (l.take i)) := by
  have hp := ord_pair _ h
  have hm := mF_sorted l hp i
  have hnm : ∀ (j : Nat) (f : Fx), l[j]? = some f → isNm f.nm = true := fun j f hj => by
    have hjl := (List.getElem?_eq_some_iff.1 hj).1
    have := List.all_eq_true.1 h j (by simpa using hjl)
    simp only [okAt, Bool.and_eq_true] at this
    have e : (l.map Fx.nm).getD j [] = f.nm := by simp [List.getD_eq_getElem?_getD, hj]
    rw [e] at this
    exact this.1
  have hfs : (mSt L (l.take i)).fs = (l.take i).map fxP := hm
  refine ⟨?_, ?_, ?_, ?_, hL, ?_, fun a ha => (by cases ha), fun _ => rfl⟩
  · rw [hfs]
    refine List.pairwise_map.2 ?_
    have := (List.pairwise_map.1 hp)
    exact List.Pairwise.sublist (List.take_sublist i l) this
  · rw [hfs]
    intro f hf
    obtain ⟨x, hx, rfl⟩ := List.mem_map.1 hf
    obtain ⟨j, hj⟩ := List.mem_iff_getElem?.1 (List.mem_of_mem_take hx)
    exact hnm j x hj
  · rw [hfs]
    intro f hf
    obtain ⟨x, hx, rfl⟩ := List.mem_map.1 hf
    exact Nat.le_refl _
  · rw [hfs]
    show usedF _ ≤ L
    cases i with
    | zero => simp [usedF]
    | succ j =>
      obtain ⟨f, hf⟩ : ∃ f, l[j]? = some f := ⟨l[j], List.getElem?_eq_getElem (by omega)⟩
      have := hfit j (by omega)
      rw [fit_eq l h L j f hf] at this
      simp only [Bool.and_eq_true, decide_eq_true_eq] at this
      have e : usedF ((l.take (j + 1)).map fxP) = usedF ((l.take j).map fxP) + f.bs.length := by
        rw [List.take_add_one, hf]
        simp [usedF, fxP]
      omega
  · rw [hfs, List.length_map, List.length_take]
    cases i with
    | zero => simp
    | succ j =>
      obtain ⟨f, hf⟩ : ∃ f, l[j]? = some f := ⟨l[j], List.getElem?_eq_getElem (by omega)⟩
      have := hfit j (by omega)
      rw [fit_eq l h L j f hf] at this
      simp only [Bool.and_eq_true, decide_eq_true_eq] at this
      omega
end Go.Proofs.Ytcdogciacchigab

-- Of the document's disk: Mount, the walk.
namespace Go.Proofs.Ytcdogciacchigab
open Go.RowKit Go.Maps
set_option linter.unusedVariables false

set_option maxRecDepth 100000 in
set_option maxHeartbeats 16000000 in
theorem rmount72 (B : Nat) (w : World) (hBw : B ≤ w.heap.size) (a : Option Addr) (cap : Nat) (l : List Fx) (h : Fs B w a cap l) (hbig : ∀ f ∈ l, f.bs.length ≤ 140737488351232) (lim : Int) : Calls Try.prog 72 #[.agg #[.slice a l.length cap], .int .i64 lim] w fun e w' =>
    (mOk lim l = false ∧ e = .returned (.tuple #[.pointer none, .int .i64 (mErr lim l)]) ∧ Turn no w w') ∨ (mOk lim l = true ∧ Rmade w e w' (mSt lim.toNat l)) := by
  have hle : l.length ≤ 9223372036854775807 := by have := h.le; have := h.cap; simp only [maxLen] at this; omega
  have T1 : Turn no w (w.alloc (.cells #[.slice a l.length cap] 24)) := (Turn.refl no w).alloc _
  have r1 : Row (w.alloc (.cells #[.slice a l.length cap] 24)) w.heap.size #[.slice a l.length cap] 24 := Row.new w _ 24
  have h1 := h.turn_no T1
  have c0 := r1.cell 0 _ rfl
  obtain ⟨w1, hw1⟩ : ∃ w1, w1 = w.alloc (.cells #[.slice a l.length cap] 24) := ⟨_, rfl⟩
  rw [← hw1] at T1 r1 h1 c0
  have HT1 := shut T1
  have HR1 := shut r1
  have HF1 := shut h1
  have HBIG := shut hbig
  have hcc : ∀ W, Turn no w1 W → W.cell? ⟨w.heap.size, 0, none⟩ = some (.slice a l.length cap) := fun W t => (HR1.out.turn t (fun q => q)).cell 0 _ rfl
  have HCC := shut hcc
  have hs1 := T1.size
  clear h T1 r1 h1 hbig hcc
  go_enter Try.func72, Try.ntmps72
  go_wp2_with fail
  rw [← hw1]
  have HW1 := shut hw1
  clear hw1
  go_loopw [6] (fun x wr => ∃ k : Nat, k ≤ l.length ∧ x = .int .i64 k ∧ Shut (∀ j, j < k → okAt (l.map Fx.nm) j = true) ∧ Shut (Turn no w1 wr)) (fun x _ => l.length - (intOf x).toNat)
  case atStart => exact ⟨0, Nat.zero_le _, rfl, (fun j hj => by omega), Turn.refl _ _⟩
  case round =>
    clear c0
    obtain ⟨k, hk, rfl, HALL, HT⟩ := hrel
    have c0 := HCC.out wr HT.out
    by_cases hlt : k < l.length
    · have hlt' : (k : Int) < (l.length : Int) := by omega
      obtain ⟨f, hf⟩ : ∃ f, l[k]? = some f := ⟨l[k], List.getElem?_eq_getElem hlt⟩
      have hfm := List.mem_of_getElem? hf
      obtain ⟨b, off, rfl, hb, d0, d1⟩ := (HF1.out.turn_no HT.out).cells k f hf
      have hnl := (HF1.out.each f hfm).1
      have hnq : ∀ n, Calls Try.prog 79 #[strV f.nm] (wr.drewN n) fun e w' => e = .returned (.bool (isNm f.nm)) ∧ w' = wr.drewN n := fun n => name79 (wr.drewN n) f.nm hnl
      have hgk : (l.map Fx.nm).getD k [] = f.nm := by simp [List.getD_eq_getElem?_getD, hf]
      unfold strV at *
      cases hn : isNm f.nm with
      | false =>
        rw [hn] at hnq
        have HNQ := shut hnq
        have HBAD : Shut (ordB (l.map Fx.nm) = false) := by
          show ordB (l.map Fx.nm) = false
          rw [ordB, List.all_eq_false]
          exact ⟨k, by simpa using hlt, by simp only [okAt, hgk, hn, Bool.false_and]; simp⟩
        clear hnq hgk hn hf
        go_wp2_with fail
        go_quiet ((first | (go_at_call 79; exact Calls.quiet_of_same (HNQ.out _))))
        have TD := shut ((Turn.refl no wr).drewN nq)
        generalize wr.drewN nq = wd at *
        go_wp2_with fail
        go_ret2
        exact Or.inl ⟨by simp [mOk, HBAD.out], by rw [show mErr lim l = 60 by simp [mErr, HBAD.out]]; rfl, HT1.out.then_no (HT.out.then_no TD.out)⟩
      | true =>
        rw [hn] at hnq
        have HNQ := shut hnq
        by_cases hk0 : k = 0
        · subst hk0
          have HNEXT : Shut (∀ j, j < 0 + 1 → okAt (l.map Fx.nm) j = true) := fun j hj => by
            have : j = 0 := by omega
            subst this
            simp only [okAt, hgk, hn]
            simp
          simp only [Nat.zero_mul, Nat.add_zero] at d0 d1
          clear hnq hgk hn hf
          go_wp2_with fail
          go_quiet ((first | (go_at_call 79; exact Calls.quiet_of_same (HNQ.out _))))
          have TD := shut ((Turn.refl no wr).drewN nq)
          generalize wr.drewN nq = wd at *
          go_wp2_with fail
          go_roundw
          case rel => exact ⟨0 + 1, by omega, by go_num, HNEXT, HT.out.then_no TD.out⟩
          case measure => simp [intOf]; omega
        · obtain ⟨k1, hk1⟩ : ∃ k1, k = k1 + 1 := ⟨k - 1, by omega⟩
          obtain ⟨f1, hf1⟩ : ∃ f1, l[k1]? = some f1 := ⟨l[k1], List.getElem?_eq_getElem (by omega)⟩
          obtain ⟨b', off', e', hb', d0', _⟩ := (HF1.out.turn_no HT.out).cells k1 f1 hf1
          simp at e'
          obtain ⟨rfl, rfl⟩ := e'
          have hgk1 : (l.map Fx.nm).getD (k - 1) [] = f1.nm := by rw [hk1]; simp [List.getD_eq_getElem?_getD, hf1]
          have hk0a : decide ((0 : Int) < (k : Int)) = true := by simp; omega
          have hk0b : (0 : Int) < (k : Int) := by omega
          have hk0n : decide (0 < k) = true := by simp; omega
          have hk0m : 0 < k := by omega
          have hkw : IntKind.i64.wrap ((k : Int) - 1) = (k1 : Int) := by rw [wrap_i64 (by omega) (by omega)]; omega
          have hkw2 : (k : Int) - 1 = (k1 : Int) := by omega
          have hk1l : (k1 : Int) < (l.length : Int) := by omega
          have hkw3 : IntKind.i64.wrap (k1 : Int) = (k1 : Int) := wrap_i64 (by omega) (by omega)
          have HK1 := shut hk1
          unfold strV at *
          by_cases hle2 : f.nm ≤ f1.nm
          · have HBAD : Shut (ordB (l.map Fx.nm) = false) := by
              show ordB (l.map Fx.nm) = false
              rw [ordB, List.all_eq_false]
              exact ⟨k, by simpa using hlt, by simp only [okAt, hgk, hgk1]; simp [hle2, hk0]⟩
            rcases nm_tri f.nm f1.nm with r | r | r
            · have hb1 : Op.bytesLess f.nm f1.nm = true := by rw [bytesLess_eq]; simpa using r
              clear hnq hgk hgk1 hn hf hf1 hk1 hle2 r hk0
              go_wp2_with fail
              go_quiet ((first | (go_at_call 79; exact Calls.quiet_of_same (HNQ.out _))))
              have TD := shut ((Turn.refl no wr).drewN nq)
              generalize wr.drewN nq = wd at *
              go_wp2_with fail
              go_ret2
              exact Or.inl ⟨by simp [mOk, HBAD.out], by rw [show mErr lim l = 60 by simp [mErr, HBAD.out]]; rfl, HT1.out.then_no (HT.out.then_no TD.out)⟩
            · have hnq2 := HNQ.out
              rw [r] at hnq2 d0
              have HNQ := shut hnq2
              have hb1 : Op.bytesLess f1.nm f1.nm = false := by rw [bytesLess_eq]; simp only [decide_eq_false_iff_not]; exact List.lt_irrefl _
              have hb2 : (f1.nm == f1.nm) = true := by simp
              clear hnq2
              clear hnq hgk hgk1 hn hf hf1 hk1 hle2 r hk0
              go_wp2_with fail
              go_quiet ((first | (go_at_call 79; exact Calls.quiet_of_same (HNQ.out _))))
              have TD := shut ((Turn.refl no wr).drewN nq)
              generalize wr.drewN nq = wd at *
              go_wp2_with fail
              go_ret2
              exact Or.inl ⟨by simp [mOk, HBAD.out], by rw [show mErr lim l = 60 by simp [mErr, HBAD.out]]; rfl, HT1.out.then_no (HT.out.then_no TD.out)⟩
            · exact (List.not_lt.2 hle2 r).elim
          · have hlt2 : f1.nm < f.nm := List.not_le.1 hle2
            have hb1 : Op.bytesLess f.nm f1.nm = false := by
              rw [bytesLess_eq]
              simp only [decide_eq_false_iff_not]
              exact fun q => List.lt_irrefl _ (List.lt_trans q hlt2)
            have hb2 : (f.nm == f1.nm) = false := by
              simp only [beq_eq_false_iff_ne]
              exact (nm_ne hlt2).symm
            have hb3 : ¬ f.nm = f1.nm := (nm_ne hlt2).symm
            have HNEXT : Shut (∀ j, j < k + 1 → okAt (l.map Fx.nm) j = true) := fun j hj => by
              by_cases hjk : j < k
              · exact HALL.out j hjk
              · have : j = k := by omega
                subst this
                simp only [okAt, hgk, hgk1, hn]
                simp [hle2]
            clear hnq hgk hgk1 hn hf hf1 hk1 hle2 hlt2 hk0
            go_wp2_with fail
            go_quiet ((first | (go_at_call 79; exact Calls.quiet_of_same (HNQ.out _))))
            have TD := shut ((Turn.refl no wr).drewN nq)
            generalize wr.drewN nq = wd at *
            go_wp2_with fail
            go_roundw
            case rel => exact ⟨k + 1, by omega, by go_num, HNEXT, HT.out.then_no TD.out⟩
            case measure => simp [intOf]; omega
    · have hlt' : ¬ (k : Int) < (l.length : Int) := by omega
      have HORD : Shut (ordB (l.map Fx.nm) = true) := by
        show ordB (l.map Fx.nm) = true
        rw [ordB, List.all_eq_true]
        intro j hj
        exact HALL.out j (by simp at hj; omega)
      have hnn := fun (hl : lim < 1 ∨ 1073741824 < lim) => rnew19_no wr lim hl
      have hny := fun (L : Nat) (e1 : 1 ≤ L) (e2 : L ≤ 1073741824) => rnew19 wr L e1 e2
      clear HALL
      by_cases hlim : lim < 1 ∨ 1073741824 < lim
      · have hn2 := hnn hlim
        have HMF : Shut (mOk lim l = false) := by
          show mOk lim l = false
          have : (decide (1 ≤ lim) && decide (lim ≤ 1073741824)) = false := by
            rcases hlim with q | q
            · have : decide (1 ≤ lim) = false := by simpa using q
              simp [this]
            · have : decide (lim ≤ 1073741824) = false := by simpa using q
              simp [this]
          simp [mOk, this]
        have HME : Shut (mErr lim l = 2) := by
          show mErr lim l = 2
          unfold mErr
          rw [if_neg (by rw [HORD.out]; simp), if_pos hlim]
        clear hnn hny hlim
        go_wp2_with fail
        refine hn2.mono ?_
        rintro e w' ⟨rfl, rfl⟩
        go_wp2_with fail
        go_ret2
        exact Or.inl ⟨HMF.out, by rw [HME.out]; rfl, HT1.out.then_no HT.out⟩
      · obtain ⟨L, hL⟩ : ∃ L : Nat, lim = (L : Int) := ⟨lim.toNat, by omega⟩
        subst hL
        have hn2 := hny L (by omega) (by omega)
        have HME : Shut (mErr (L : Int) l = 62) := by
          show mErr (L : Int) l = 62
          unfold mErr
          rw [if_neg (by rw [HORD.out]; simp), if_neg hlim]
        have HL : Shut (1 ≤ L ∧ L ≤ 1073741824) := ⟨by omega, by omega⟩
        have HBADF : Shut (∀ j, j < l.length → fitAt L l j = false → mOk (L : Int) l = false) := fun j hj hf => by
          have : (List.range l.length).all (fitAt (L : Int).toNat l) = false := by
            rw [List.all_eq_false]
            exact ⟨j, by simpa using hj, by simp [hf]⟩
          unfold mOk
          rw [this, Bool.and_false]
        have hL1 : L ≤ 1073741824 := by omega
        clear hnn hny hlim
        go_wp2_with fail
        refine hn2.mono ?_
        rintro e w3 ⟨q, K0, rfl, hq, hR0, hF0, t3⟩
        have HT3 := shut (HT.out.then_no t3)
        have c3 := HCC.out w3 HT3.out
        have hsz3 := HT3.out.size
        have hszr := HT.out.size
        have HK0 : Shut (∀ x, K0 x → w.heap.size ≤ x) := fun x hx => by
          rcases hF0 x hx with y | y
          · exact y.elim
          · omega
        have HR0 := shut hR0
        have HQ : Shut (w.heap.size ≤ q) := by show w.heap.size ≤ q; omega
        have hlt1 := HR1.out.lt
        have hqb : q ≠ w.heap.size := by omega
        clear hn2 hR0 hF0 t3 hq c0
        unfold ptr
        by_cases hc : 65536 < l.length
        · have hc2 : (65536 : Int) < (l.length : Int) := by omega
          have HMF : Shut (mOk (L : Int) l = false) := by
            obtain ⟨f, hf⟩ : ∃ f, l[65536]? = some f := ⟨l[65536], List.getElem?_eq_getElem hc⟩
            refine HBADF.out 65536 hc ?_
            rw [fit_eq l HORD.out L 65536 f hf]
            simp
          clear hc
          go_wp2_with fail
          go_ret2
          exact Or.inl ⟨HMF.out, by rw [HME.out]; rfl, HT1.out.then_no HT3.out⟩
        · have hc2 : ¬ (65536 : Int) < (l.length : Int) := by omega
          have hc3 : l.length ≤ 65536 := by omega
          clear hc
          go_wp2_with fail
          go_loopw [9] (fun x wr => ∃ (i : Nat) (KI : Nat → Prop), i ≤ l.length ∧ x = .int .i64 i ∧ Shut (Rk wr q KI (mSt L (l.take i))) ∧ Shut (∀ x, KI x → w.heap.size ≤ x) ∧ Shut (Turn no w1 wr) ∧ Shut (∀ j, j < i → fitAt L l j = true)) (fun x _ => l.length - (intOf x).toNat)
          case atStart =>
            refine ⟨0, K0, Nat.zero_le _, rfl, ?_, HK0, HT3, fun j hj => by omega⟩
            exact HR0.out
          case round =>
            clear c3
            obtain ⟨i, KI, hi, rfl, HR, HKI, HT2, HFIT⟩ := hrel
            have c3 := HCC.out wr HT2.out
            by_cases hlt : i < l.length
            · have hlt' : (i : Int) < (l.length : Int) := by omega
              obtain ⟨f, hf⟩ : ∃ f, l[i]? = some f := ⟨l[i], List.getElem?_eq_getElem hlt⟩
              have hfm := List.mem_of_getElem? hf
              obtain ⟨b, off, rfl, hb, d0, d1⟩ := (HF1.out.turn_no HT2.out).cells i f hf
              obtain ⟨hfl, hfb, _⟩ := (HF1.out.turn_no HT2.out).each f hfm
              obtain ⟨va, vc, hvb⟩ := hfb.slice
              rw [hvb] at d1 hfb
              have hfg := HBIG.out f hfm
              obtain ⟨v4, w4, hr4, hO4, hG4, _⟩ := run_append_src (P := Try.prog) (t := 28) (tx := 28) (e := 5) Try.underlying28 info5 rfl 28 wr (.slice none 0 0) [] (Own.nil _ 5) (.slice va f.bs.length vc) f.bs.length (f.bs.map bv) (hfb.src Try.underlying28) (by simp; omega) (by simp only [maxLen]; simp; omega)
              rw [List.nil_append] at hO4
              obtain ⟨a4, c4, rfl⟩ := hO4.bs.slice
              have T4 : Turn no wr w4 := hG4.turn.mono (fun k _ e => by cases e)
              have hb4 : ∀ g, (Value.slice a4 f.bs.length c4).ownBlock = some g → wr.heap.size ≤ g := fun g hg => by
                rcases hG4.blk with e | ⟨g', e, e1, _⟩
                · rw [e] at hg; cases hg
                · rw [e] at hg; cases hg; exact e1
              have hr4' : ∀ ty, (Builtin.append_ #[28, 28] ty #[.slice none 0 0, .slice va f.bs.length vc]).run Try.prog wr = .ok (.slice a4 f.bs.length c4) w4 := fun ty => hr4
              obtain ⟨fv, av, hP⟩ := HR.out.turn_no T4
              have hus := used51 hP
              have hfs : (mSt L (l.take i)).fs = (l.take i).map fxP := mF_sorted l (ord_pair _ HORD.out) i
              have hul := hP.inv.used
              rw [hfs] at hus hul
              have hul' : usedF ((l.take i).map fxP) ≤ L := hul
              have hfe := fit_eq l HORD.out L i f hf
              obtain ⟨U, hU⟩ : ∃ U, U = usedF ((l.take i).map fxP) := ⟨_, rfl⟩
              rw [← hU] at hus hul' hfe
              obtain ⟨R, hRR⟩ : ∃ R : Nat, R = L - U := ⟨_, rfl⟩
              have hRi : (L : Int) - (U : Int) = (R : Int) := by omega
              have hRw : IntKind.i64.wrap ((L : Int) - (U : Int)) = (R : Int) := by rw [wrap_i64 (by omega) (by omega)]; exact hRi
              have hRw2 : IntKind.i64.wrap (R : Int) = (R : Int) := wrap_i64 (by omega) (by omega)
              have c4' := HCC.out w4 (HT2.out.then_no T4)
              unfold ptr at hus
              by_cases hfit : f.bs.length ≤ R
              · have hd2 : ¬ (R : Int) < (f.bs.length : Int) := by omega
                have hfitT : fitAt L l i = true := by rw [hfe]; simp; omega
                have HNF : Shut (∀ j, j < i + 1 → fitAt L l j = true) := fun j hj => by
                  by_cases e : j < i
                  · exact HFIT.out j e
                  · have : j = i := by omega
                    subst this
                    exact hfitT
                have hinvN := mSt_inv l HORD.out L HL.out (i + 1) (by omega) HNF.out
                have hst1 : mSt L (l.take (i + 1)) = { mSt L (l.take i) with fs := (mSt L (l.take i)).fs ++ [fxP f] } := by
                  have e1 := mF_sorted l (ord_pair _ HORD.out) (i + 1)
                  have e2 := mF_sorted l (ord_pair _ HORD.out) i
                  show (⟨L, mF (l.take (i + 1)), 0, [], 0, false, false⟩ : St) = ⟨L, mF (l.take i) ++ [fxP f], 0, [], 0, false, false⟩
                  rw [e1, e2, List.take_add_one, hf]
                  simp
                have hlenfs : (mSt L (l.take i)).fs.length ≤ 65536 := hP.inv.count
                rw [hst1] at hinvN
                obtain ⟨fa, fn, fc, hfv⟩ : ∃ a n c, fv = .slice a n c := by obtain ⟨a, c, e, _⟩ := hP.files.slice; exact ⟨_, _, _, e⟩
                subst hfv
                have hd := hP.turn ((Turn.refl no w4).drew) (fun _ _ q => q)
                have TA : Turn no w4.drew (w4.drew.alloc (.cells #[strV f.nm, .slice a4 f.bs.length c4, .int .i64 f.bs.length] 102)) := (Turn.refl no _).alloc _
                have hda := hd.turn TA (fun _ _ q => q)
                have hsa := TA.size
                have hs4 := T4.size
                have hsd : w4.drew.heap.size = w4.heap.size := rfl
                have hsr := HT2.out.size
                have hdm := hda.mono (K' := fun k => KI k ∨ (wr.heap.size ≤ k ∧ k < (w4.drew.alloc (.cells #[strV f.nm, .slice a4 f.bs.length c4, .int .i64 f.bs.length] 102)).heap.size)) (fun _ y => Or.inl y) (fun k hk => by
                  rcases hk with y | y
                  · exact hda.klt k y
                  · exact y.2)
                have hOa := (hO4.turn_no ((Turn.refl no w4).drew)).turn_no TA
                obtain ⟨v6, w6, hap, hA6, hG6⟩ := hdm.files.push (by omega) (fxP f) (.slice a4 f.bs.length c4) hOa (fun g hg => Or.inr ⟨hb4 g hg, hOa.lt hg⟩) _ (src_fl w4.drew f.nm (.slice a4 f.bs.length c4) f.bs.length rfl)
                obtain ⟨ya, yn, yc, hyv⟩ : ∃ a n c, v6 = .slice a n c := by obtain ⟨a, c, e, _⟩ := hA6.slice; exact ⟨_, _, _, e⟩
                subst hyv
                have hR7 := hdm.pushFile hA6 hG6 hinvN
                rw [← hst1] at hR7
                have hw1s : w1.heap.size = w.heap.size + 1 := by rw [HW1.out]; simp
                obtain ⟨vsq, _, hoq, hKq, _⟩ := hP.files
                have rbx : Row w4 w.heap.size #[.slice (some ⟨b, off, none⟩) l.length cap] 24 := HR1.out.turn (HT2.out.then_no T4) (fun q => q)
                have hneA : ¬ (Value.slice fa fn fc).ownBlock = some q := fun e' => by
                  obtain ⟨c', ec⟩ := hoq.obj e'
                  exact absurd (tag_ne hP.row ec) (by decide)
                have hneB : ¬ (Value.slice fa fn fc).ownBlock = some w.heap.size := fun e' => by
                  obtain ⟨c', ec⟩ := hoq.obj e'
                  exact absurd (tag_ne rbx ec) (by decide)
                have hge : ∀ j, j = q ∨ (Value.slice fa fn fc).ownBlock = some j → w1.heap.size ≤ j := fun j hj => by
                  rcases hj with e | e
                  · have := HQ.out; omega
                  · have h1 := HKI.out j (hKq j e)
                    have h2 : j ≠ w.heap.size := fun e' => by rw [e'] at e; exact hneB e
                    omega
                have S2 : Turn (fun j => j = q ∨ (Value.slice fa fn fc).ownBlock = some j) w4 (w4.drew.alloc (.cells #[strV f.nm, .slice a4 f.bs.length c4, .int .i64 f.bs.length] 102)) := ((Turn.refl _ w4).drew).then_no TA
                have S6 : Turn (fun j => j = q ∨ (Value.slice fa fn fc).ownBlock = some j) w4 w6 := S2.trans hG6.turn (fun j _ e' => Or.inr e')
                have r6 : Row w6 q _ 93 := (hda.row.turn hG6.turn hneA)
                have S7 : Turn (fun j => j = q ∨ (Value.slice fa fn fc).ownBlock = some j) w4 (w6.setCell ⟨q, 2, none⟩ (.slice ya yn yc)) := S6.trans (setTurn w6 q 2 _) (fun j _ e' => Or.inl e')
                have hcq : ∀ W, Turn (fun j => j = q ∨ (Value.slice fa fn fc).ownBlock = some j) w4 W → W.cell? ⟨w.heap.size, 0, none⟩ = some (.slice (some ⟨b, off, none⟩) l.length cap) ∧ W.cell? ⟨b, off + i * 2, none⟩ = some (strV f.nm) := fun W t => ⟨t.keep c4' (fun e => by rcases e with e | e; exact hqb e.symm; exact hneB e), t.keep (T4.keep d0 (fun q => q)) (fun e => by have := hge _ e; simp at this; omega)⟩
                have CQ := shut hcq
                have HS2 := shut S2
                have HS6 := shut S6
                have HS7 := shut S7
                have HC66 : Shut (w6.cell? ⟨q, 2, none⟩ = some (.slice fa fn fc)) := r6.cell 2 _ rfl
                have HF66 : Shut (w6.frozen? ⟨q, 2, none⟩ = false) := r6.frozen 2
                have HC6a : Shut (w4.drew.cell? ⟨q, 2, none⟩ = some (.slice fa fn fc)) := hd.c2
                have HC6b : Shut (((w4.alloc (.cells #[strV f.nm, .slice a4 f.bs.length c4, .int .i64 f.bs.length] 102)).drew).cell? ⟨q, 2, none⟩ = some (.slice fa fn fc)) := hda.c2
                have HNR : Shut (Rk (w6.setCell ⟨q, 2, none⟩ (.slice ya yn yc)) q _ (mSt L (l.take (i + 1)))) := ⟨_, _, hR7⟩
                have HNT : Shut (Turn no w1 (w6.setCell ⟨q, 2, none⟩ (.slice ya yn yc))) := (HT2.out.then_no T4).trans S7 (fun j hj e => by have := hge j e; omega)
                have HNK : Shut (∀ x, ((KI x ∨ (wr.heap.size ≤ x ∧ x < (w4.drew.alloc (.cells #[strV f.nm, .slice a4 f.bs.length c4, .int .i64 f.bs.length] 102)).heap.size)) ∨ ((w4.drew.alloc (.cells #[strV f.nm, .slice a4 f.bs.length c4, .int .i64 f.bs.length] 102)).heap.size ≤ x ∧ x < w6.heap.size)) → w.heap.size ≤ x) := fun x hx => by
                  rcases hx with (y | y) | y
                  · exact HKI.out x y
                  · omega
                  · omega
                have HAP := shut hap
                clear hap S2 S6 S7 r6 hcq hR7 hG6 hA6 hd hda hdm TA hP hO4 hG4 hb4 hfs hU hRR hfb hvb hf hr4 T4 hinvN hst1 hul hul' hfe hOa hneA hneB hge rbx hoq hKq hsa hs4 hsd hsr
                unfold strV at *
                go_wp2_with (at_builtin; refine wpList_append_run rfl _ _ (t := 28) (tx := 28) rfl _ _ rfl rfl (hr4' _) ?_)
                refine hus.mono ?_
                rintro e w5 ⟨rfl, rfl⟩
                go_wp2_with fail
                refine wp_region_noPanic ?_
                refine wp_region_held_drew (S := fun W => Turn (fun j => j = q ∨ (Value.slice fa fn fc).ownBlock = some j) w5 W) (by kernel_rfl) (Turn.refl _ w5).drew (fun hHeld => ?_)
                refine' wpAnyH_take (i := 0) (v := .pointer (some ⟨q, 0, none⟩)) rfl (by kernel_rfl) (by kernel_rfl) (by kernel_rfl) (fun _ _ _ h => h) (Or.inl ⟨by kernel_rfl, fun W hW => ?y1⟩) hHeld ?r1
                · go_simp
                refine' wpAnyH_take (i := 1) (v := .pointer (some ⟨q, 0, none⟩)) rfl (by kernel_rfl) (by kernel_rfl) (by kernel_rfl) (fun _ _ _ h => h) (Or.inl ⟨by kernel_rfl, fun W hW => ?y2⟩) hHeld ?r2
                · go_simp
                refine' wpAnyH_take (i := 2) (v := .pointer (some ⟨q, 0, none⟩)) rfl (by kernel_rfl) (by kernel_rfl) (by kernel_rfl) (fun _ _ _ h => h) (Or.inl ⟨by kernel_rfl, fun W hW => ?y3⟩) hHeld ?r3
                · go_simp
                refine' wpAnyH_take (i := 3) (v := .pointer (some ⟨q, 2, none⟩)) rfl (by kernel_rfl) (by kernel_rfl) (by kernel_rfl) (fun _ _ _ h => h) (Or.inl ⟨by kernel_rfl, fun W hW => ?y4⟩) hHeld ?r4
                · go_simp
                refine' wpAnyH_take (i := 5) (v := .pointer (some ⟨w.heap.size, 0, none⟩)) rfl (by kernel_rfl) (by kernel_rfl) (by kernel_rfl) (fun _ _ _ h => h) (Or.inl ⟨by kernel_rfl, fun W hW => ?y5⟩) hHeld ?r5
                · go_simp
                refine' wpAnyH_take (i := 6) (v := .slice (some ⟨b, off, none⟩) l.length cap) rfl (by kernel_rfl) (by kernel_rfl) (by kernel_rfl) (fun _ _ _ h => h) (Or.inl ⟨by kernel_rfl, fun W hW => ?y6⟩) hHeld ?r6
                · have cc := (CQ.out W hW).1
                  go_simp
                refine' wpAnyH_take (i := 7) (v := .int .i64 i) rfl (by kernel_rfl) (by kernel_rfl) (by kernel_rfl) (fun _ _ _ h => h) (Or.inl ⟨by kernel_rfl, fun W hW => ?y7⟩) hHeld ?r7
                · go_simp
                refine' wpAnyH_take (i := 8) (v := .pointer (some ⟨b, off + i * 2, none⟩)) rfl (by kernel_rfl) (by kernel_rfl) (by kernel_rfl) (fun _ _ _ h => h) (Or.inl ⟨by kernel_rfl, fun W hW => ?y8⟩) hHeld ?r8
                · go_simp
                refine' wpAnyH_take (i := 9) (v := .pointer (some ⟨b, off + i * 2, none⟩)) rfl (by kernel_rfl) (by kernel_rfl) (by kernel_rfl) (fun _ _ _ h => h) (Or.inl ⟨by kernel_rfl, fun W hW => ?y9⟩) hHeld ?r9
                · go_simp
                refine' wpAnyH_take (i := 10) (v := .string ⟨f.nm.toArray⟩) rfl (by kernel_rfl) (by kernel_rfl) (by kernel_rfl) (fun _ _ _ h => h) (Or.inl ⟨by kernel_rfl, fun W hW => ?y10⟩) hHeld ?r10
                · have cc := (CQ.out W hW).2
                  go_simp
                refine' wpAnyH_take (i := 11) (v := .slice a4 f.bs.length c4) rfl (by kernel_rfl) (by kernel_rfl) (by kernel_rfl) (fun _ _ _ h => h) (Or.inl ⟨by kernel_rfl, fun W hW => ?y11⟩) hHeld ?r11
                · go_simp
                refine' wpAnyH_take (i := 12) (v := .slice a4 f.bs.length c4) rfl (by kernel_rfl) (by kernel_rfl) (by kernel_rfl) (fun _ _ _ h => h) (Or.inl ⟨by kernel_rfl, fun W hW => ?y12⟩) hHeld ?r12
                · go_simp
                refine' wpAnyH_take (i := 13) (v := .int .i64 f.bs.length) rfl (by kernel_rfl) (by kernel_rfl) (by kernel_rfl) (fun _ _ _ h => h) (Or.inl ⟨by kernel_rfl, fun W hW => ?y13⟩) hHeld ?r13
                · go_simp
                refine' wpAnyH_take (i := 14) (v := .agg #[.string ⟨f.nm.toArray⟩, .slice a4 f.bs.length c4, .int .i64 f.bs.length]) rfl (by kernel_rfl) (by kernel_rfl) (by kernel_rfl) (fun _ _ _ h => h) (Or.inl ⟨by kernel_rfl, fun W hW => ?y14⟩) hHeld ?r14
                · go_simp
                have xa := HC6a.out
                have xb := HC6b.out
                refine wpAnyH_ready (rs := [4, 15]) (by kernel_rfl) (by simp) ?_
                refine AllReadyH.cons rfl (fun K hK => ?_) (AllReadyH.cons rfl (fun K hK => ?_) AllReadyH.nil)
                · go_simp
                  refine hK.out _ _ hHeld (fun hHeld => ?_)
                  clear hK
                  refine wpAnyH_ready (rs := [15]) (by kernel_rfl) (by simp) ?_
                  refine AllReadyH.cons rfl (fun K hK => ?_) AllReadyH.nil
                  go_simp
                  refine hK.out _ _ HS2.out (fun hHeld => ?_)
                  clear hK
                  refine wpAnyH_ready (rs := [16]) (by kernel_rfl) (by simp) ?_
                  refine AllReadyH.cons rfl (fun K hK => ?_) AllReadyH.nil
                  first | rw [if_pos (by rfl)] | skip
                  refine wp_append_run _ _ rfl _ _ rfl rfl (HAP.out _) ?_
                  refine hK.out _ _ HS6.out (fun hHeld => ?_)
                  clear hK
                  refine' wpAnyH_take (i := 17) (v := .pointer (some ⟨q, 0, none⟩)) rfl (by kernel_rfl) (by kernel_rfl) (by kernel_rfl) (fun _ _ _ h => h) (Or.inl ⟨by kernel_rfl, fun W hW => ?y15⟩) hHeld ?r15
                  · go_simp
                  refine' wpAnyH_take (i := 18) (v := .pointer (some ⟨q, 2, none⟩)) rfl (by kernel_rfl) (by kernel_rfl) (by kernel_rfl) (fun _ _ _ h => h) (Or.inl ⟨by kernel_rfl, fun W hW => ?y16⟩) hHeld ?r16
                  · go_simp
                  have xc := HC66.out
                  have xf := HF66.out
                  refine wpAnyH_ready (rs := [19]) (by kernel_rfl) (by simp) ?_
                  refine AllReadyH.cons rfl (fun K hK => ?_) AllReadyH.nil
                  go_simp
                  refine hK.out _ _ HS7.out (fun hHeld => ?_)
                  clear hK
                  refine wpAnyH_done (by kernel_rfl) ?_ _
                  refine NoPanic.normal ?_
                  go_wp2_with fail
                  go_roundw
                  case rel => exact ⟨i + 1, _, by omega, by go_num, HNR, HNK, HNT, HNF⟩
                  case measure => simp [intOf]; omega
                · go_simp
                  refine hK.out _ _ HS2.out (fun hHeld => ?_)
                  clear hK
                  refine wpAnyH_ready (rs := [4]) (by kernel_rfl) (by simp) ?_
                  refine AllReadyH.cons rfl (fun K hK => ?_) AllReadyH.nil
                  go_simp
                  refine hK.out _ _ hHeld (fun hHeld => ?_)
                  clear hK
                  refine wpAnyH_ready (rs := [16]) (by kernel_rfl) (by simp) ?_
                  refine AllReadyH.cons rfl (fun K hK => ?_) AllReadyH.nil
                  first | rw [if_pos (by rfl)] | skip
                  refine wp_append_run _ _ rfl _ _ rfl rfl (HAP.out _) ?_
                  refine hK.out _ _ HS6.out (fun hHeld => ?_)
                  clear hK
                  refine' wpAnyH_take (i := 17) (v := .pointer (some ⟨q, 0, none⟩)) rfl (by kernel_rfl) (by kernel_rfl) (by kernel_rfl) (fun _ _ _ h => h) (Or.inl ⟨by kernel_rfl, fun W hW => ?y17⟩) hHeld ?r17
                  · go_simp
                  refine' wpAnyH_take (i := 18) (v := .pointer (some ⟨q, 2, none⟩)) rfl (by kernel_rfl) (by kernel_rfl) (by kernel_rfl) (fun _ _ _ h => h) (Or.inl ⟨by kernel_rfl, fun W hW => ?y18⟩) hHeld ?r18
                  · go_simp
                  have xc := HC66.out
                  have xf := HF66.out
                  refine wpAnyH_ready (rs := [19]) (by kernel_rfl) (by simp) ?_
                  refine AllReadyH.cons rfl (fun K hK => ?_) AllReadyH.nil
                  go_simp
                  refine hK.out _ _ HS7.out (fun hHeld => ?_)
                  clear hK
                  refine wpAnyH_done (by kernel_rfl) ?_ _
                  refine NoPanic.normal ?_
                  go_wp2_with fail
                  go_roundw
                  case rel => exact ⟨i + 1, _, by omega, by go_num, HNR, HNK, HNT, HNF⟩
                  case measure => simp [intOf]; omega
              · have hd2 : (R : Int) < (f.bs.length : Int) := by omega
                have HMF : Shut (mOk (L : Int) l = false) := HBADF.out i hlt (by rw [hfe]; simp; omega)
                have HTF := shut (HT1.out.then_no (HT2.out.then_no T4))
                clear hP hul hul' hfe hO4 hG4 hb4 hfs hU hRR hfb hvb hf hr4 T4
                go_wp2_with (at_builtin; refine wpList_append_run rfl _ _ (t := 28) (tx := 28) rfl _ _ rfl rfl (hr4' _) ?_)
                refine hus.mono ?_
                rintro e w5 ⟨rfl, rfl⟩
                go_wp2_with fail
                go_ret2
                exact Or.inl ⟨HMF.out, by rw [HME.out]; rfl, HTF.out⟩
            · have hlt' : ¬ (i : Int) < (l.length : Int) := by omega
              have hil : l.take i = l := List.take_of_length_le (by omega)
              rw [hil] at HR
              have HMT : Shut (mOk (L : Int) l = true) := by
                show mOk (L : Int) l = true
                have h1 : (List.range l.length).all (fitAt (L : Int).toNat l) = true := by
                  rw [List.all_eq_true]
                  intro j hj
                  exact HFIT.out j (by simp at hj; omega)
                have h2 := HL.out
                unfold mOk
                rw [HORD.out, h1]
                simp
                omega
              go_wp2_with fail
              go_ret2
              exact Or.inr ⟨HMT.out, q, KI, rfl, HQ.out, HR.out, fun x hx => Or.inr (HKI.out x hx), HT1.out.then_no HT2.out⟩
end Go.Proofs.Ytcdogciacchigab

-- Of the document's disk: Crash.
namespace Go.Proofs.Ytcdogciacchigab
open Go.RowKit Go.Maps
set_option linter.unusedVariables false

section
variable {w : World} {q : Nat} {K : Nat → Prop} {fv av : Value} {s : St}
theorem Rp.flen (h : Rp w q K fv av s) {f : Pf} (hf : f ∈ s.fs) : f.bs.length ≤ 1073741824 := by
  have h1 := lenF_le f.nm s.fs
  have h2 := h.inv.used
  have h3 := h.inv.lim
  have : lenF f.nm s.fs = f.bs.length := by simp [lenF, getF_of_mem h.inv.sorted hf]
  omega
set_option maxRecDepth 100000 in
set_option maxHeartbeats 2000000 in
theorem rcrash28_out (hk : Rk w q K s) (ho : s.out = true) (a : Option Addr) (n cap : Nat) (j : Int) : Calls Try.prog 28 #[ptr q, .slice a n cap, .int .u8 j] w fun e w' => e = .returned (.tuple #[.agg #[.slice none 0 0], .int .i64 63]) ∧ Turn no w w' := by
  obtain ⟨fv, av, h⟩ := hk
  have T1 : Turn no w (w.alloc (.cells #[.slice none 0 0] 24)) := (Turn.refl no w).alloc _
  have h1 := h.turn T1 (fun _ _ q => q)
  have hm := h1.good
  have c5 := h1.c5
  rw [ho] at c5
  clear h h1
  unfold ptr at *
  go_enter Try.func28, Try.ntmps28
  go_wp2_with fail
  refine hm.mono ?_
  rintro e w' ⟨rfl, rfl⟩
  go_wp2_with fail
  refine ⟨rfl, _, results_cell_row_tmp (g := w.heap.size) (cs := #[.slice none 0 0]) (t := 24) rfl _ _ _ _ rfl (Row.new w #[.slice none 0 0] 24) Try.underlying24 rfl (by kernel_rfl), rfl, T1⟩

set_option maxRecDepth 100000 in
set_option maxHeartbeats 16000000 in
theorem rcrash28 (hk : Rk w q K s) (hout : s.out = false) (vk : Value) (keep : List Int) (hkeep : Vs w vk (keep.map iv)) (hkK : keep ≠ [] → ∀ g, vk.ownBlock = some g → ¬ K g) (junk : UInt8) :
    Calls Try.prog 28 #[ptr q, vk, .int .u8 junk.toNat] w fun e w' => ∃ v, e = .returned (.tuple #[.agg #[v], .int .i64 0]) ∧ Im w.heap.size w' v (crashL s.fs keep junk) ∧ Rk w' q K { s with off := true, out := true } ∧ Turn K w w' := by
  obtain ⟨fv, av, h⟩ := hk
  obtain ⟨ka, kc, hks⟩ := hkeep.slice
  have hkl := hkeep.le
  simp only [List.length_map] at hks hkl
  have hkl' : keep.length ≤ 9223372036854775807 := by simp only [maxLen] at hkl; omega
  obtain ⟨B, hB⟩ : ∃ B, w.heap.size = B := ⟨_, rfl⟩
  obtain ⟨fa, fc, hfv, _, _⟩ := h.files.slice
  subst hfv hks
  have hcount : s.fs.length ≤ 65536 := h.inv.count
  have hpB : q < B := by rw [← hB]; exact h.klt q h.kp
  have hKlt : ∀ k, K k → k < B := fun k hk => by have := h.klt k hk; omega
  obtain ⟨w1, hw1⟩ : ∃ w1, w.alloc (.cells #[.slice none 0 0] 24) = w1 := ⟨_, rfl⟩
  have T1 : Turn no w w1 := by rw [← hw1]; exact (Turn.refl no w).alloc _
  have s1 : w1.heap.size = B + 1 := by rw [← hw1, ← hB]; simp
  have r1 : Row w1 B #[.slice none 0 0] 24 := by rw [← hw1]; exact Row.newAt _ _ _ _ hB.symm
  have h1 := h.turn T1 (fun _ _ q => q)
  have hgd := h1.good
  have c5 := h1.c5
  rw [hout] at c5
  have c4 := h1.c4
  have f4 := h1.row.frozen 4
  have h1' := h1.setOff
  have c5' := h1'.c5
  simp only [hout] at c5'
  have f5 := h1'.row.frozen 5
  have h2 := h1'.setOut rfl
  obtain ⟨w2, hw2⟩ : ∃ w2, (w1.setCell ⟨q, 4, none⟩ (.bool true)).setCell ⟨q, 5, none⟩ (.bool true) = w2 := ⟨_, rfl⟩
  rw [hw2] at h2
  have T2 : Turn K w1 w2 := by
    rw [← hw2]
    exact Turn.setCell (Turn.setCell (Turn.refl K w1) (p := ⟨q, 4, none⟩) (fun _ => h.kp) _) (p := ⟨q, 5, none⟩) (fun _ => h.kp) _
  have hs2 : w2.heap.size = B + 1 := by
    rw [← hw2]
    simpa using s1
  obtain ⟨w3, hw3⟩ : ∃ w3, w2.alloc (.cells #[.slice none 0 0] 24) = w3 := ⟨_, rfl⟩
  have T3 : Turn no w2 w3 := by rw [← hw3]; exact (Turn.refl no w2).alloc _
  have s3 : w3.heap.size = B + 2 := by rw [← hw3]; simp [hs2]
  have r3 : Row w3 B #[.slice none 0 0] 24 := (r1.turn T2 (fun e => by have := hKlt _ e; omega)).turn T3 (fun e => e)
  have rI : Row w3 (B + 1) #[.slice none 0 0] 24 := by rw [← hw3]; exact Row.newAt _ _ _ _ hs2.symm
  have h3 := h2.turn T3 (fun _ _ q => q)
  have hk3 : Vs w3 (.slice ka keep.length kc) (keep.map iv) := ((hkeep.turn_no T1).late T2 (fun hne g hg => hkK (fun e => hne (by rw [e]; rfl)) g hg)).turn_no T3
  have hkB : ∀ g, (Value.slice ka keep.length kc).ownBlock = some g → keep ≠ [] → g ≠ B + 1 := fun g hg hne e => by
    obtain ⟨b2, o2, c2, e2, _, hcell⟩ := hkeep.at (by simp; exact List.length_pos_iff.2 hne)
    rw [e2] at hg
    cases hg
    have hx := hcell 0 (iv (keep.getD 0 0)) (by cases keep with | nil => exact absurd rfl hne | cons x r => simp)
    have := World.block_lt_of_cell? w _ hx
    simp only at this
    have e' : b2 = B + 1 := e
    omega
  have TK : Turn K w w3 := ((T1.of_no (S := K)).trans T2 (fun _ _ e => e)).then_no T3
  have HRI := shut rI
  have H3 := shut h3
  have HK3 := shut hk3
  have HTK := shut TK
  have HR3 := shut r3
  have HS3 := shut s3
  have HKLT := shut hKlt
  have HBW := shut hB
  clear hkeep hkK T1 s1 r1 h1 h1' h2 T2 T3 s3 r3 rI h3 hk3 TK hKlt h
  unfold ptr at *
  rw [hB]
  go_enter Try.func28, Try.ntmps28
  go_wp2_with fail
  try rw [hw1]
  refine hgd.mono ?_
  rintro e w' ⟨rfl, rfl⟩
  go_wp2_with fail
  try rw [hw2]
  try rw [hw3]
  go_loopw [9] (fun x wr => ∃ (i : Nat) (ia : Option Addr) (im ic : Nat), i ≤ s.fs.length ∧ x = .int .i64 i ∧ Shut (Row wr (B + 1) #[.slice ia im ic] 24) ∧ Shut (Im B wr (.slice ia im ic) ((crashL s.fs keep junk).take i)) ∧ Shut (∀ g, (Value.slice ia im ic).ownBlock = some g → w3.heap.size ≤ g) ∧ Shut (Turn (fun k => k = B + 1) w3 wr)) (fun x _ => s.fs.length - (intOf x).toNat)
  case atStart => exact ⟨0, none, 0, 0, Nat.zero_le _, rfl, HRI, by rw [List.take_zero]; exact Im.nil B w3, (fun g e => by cases e), Turn.refl _ _⟩
  case round =>
    obtain ⟨i, ia, im, ic, hi, rfl, HRW, HIM, HNW, HT⟩ := hrel
    have hr := H3.out.turn HT.out (fun k hk e => by have := HKLT.out k hk; omega)
    have e2 := hr.c2
    by_cases hlt : i < s.fs.length
    · have hlt' : (i : Int) < (s.fs.length : Int) := by omega
      obtain ⟨f, hf⟩ : ∃ f, s.fs[i]? = some f := ⟨s.fs[i], List.getElem?_eq_getElem hlt⟩
      have hfm : f ∈ s.fs := List.mem_of_getElem? hf
      obtain ⟨fg, c, xa, xc, ee, d0, d1, d2, hO, hRb⟩ := hr.files.at i f hf
      have ee' : fa = some ⟨fg, 0, none⟩ := by simp at ee; exact ee.1
      subst ee'
      have hsy : f.sy ≤ f.bs.length := H3.out.inv.sy f hfm
      have hfl : f.bs.length ≤ 1073741824 := H3.out.flen hfm
      obtain ⟨KV, hKV⟩ : ∃ KV, KV = keep.getD i 0 := ⟨_, rfl⟩
      have hcl : (crashL s.fs keep junk).take (i + 1) = (crashL s.fs keep junk).take i ++ [(f.nm, leftB f.bs f.sy KV junk)] := by
        rw [List.take_add_one, crashL_at _ _ _ _ _ hf, hKV]; rfl
      obtain ⟨n, hn⟩ : ∃ n, n = keepN f.bs.length f.sy KV := ⟨_, rfl⟩
      have hnl : f.sy + n ≤ f.bs.length := by rw [hn]; unfold keepN; omega
      obtain ⟨wf, hwf⟩ : ∃ wf, wr.alloc (.cells #[strV f.nm, .slice xa f.bs.length xc, .int .i64 f.sy] 102) = wf := ⟨_, rfl⟩
      have TF : Turn no wr wf := by rw [← hwf]; exact (Turn.refl no wr).alloc _
      have rF : Row wf wr.heap.size #[strV f.nm, .slice xa f.bs.length xc, .int .i64 f.sy] 102 := by rw [← hwf]; exact Row.new wr _ 102
      obtain ⟨gf, hgf⟩ : ∃ gf, wr.heap.size = gf := ⟨_, rfl⟩
      rw [hgf] at rF
      have hcv : ∀ W, Turn no wf W → W.cell? ⟨gf, 0, none⟩ = some (.string ⟨f.nm.toArray⟩) ∧ W.cell? ⟨gf, 1, none⟩ = some (.slice xa f.bs.length xc) ∧ W.cell? ⟨gf, 2, none⟩ = some (.int .i64 f.sy) := fun W t => by
        have r := rF.turn t (fun e => e)
        exact ⟨r.cell 0 _ rfl, r.cell 1 _ rfl, r.cell 2 _ rfl⟩
      have HCV := shut hcv
      have hkc : ∀ W, Turn no wf W → ∀ kb' ko, ka = some ⟨kb', ko, none⟩ → i < keep.length → W.cell? ⟨kb', ko + i, none⟩ = some (.int .i64 KV) := fun W t kb' ko e hik => by
        have hbb := hkB kb' (by rw [e]; rfl) (fun e0 => by rw [e0] at hik; simp at hik)
        obtain ⟨b2, o2, c2, e2, _, hcell⟩ := HK3.out.at (by simp; omega)
        have e3 : ka = some ⟨b2, o2, none⟩ := by simp at e2; exact e2.1
        rw [e] at e3
        cases e3
        have hcc := hcell i (iv KV) (by simp [hKV, List.getD_eq_getElem?_getD, hik])
        have tt := (HT.out.then_no TF).then_no t
        refine tt.keep hcc (fun e => ?_)
        simp only at e
        omega
      have HKC := shut hkc
      have e1 : IntKind.i64.wrap ((f.bs.length : Int) - (f.sy : Int)) = (f.bs.length : Int) - (f.sy : Int) := wrap_i64 (by omega) (by omega)
      have HO := shut (hO.turn_no TF)
      have HTF := shut TF
      have HCL := shut hcl
      have HKV := shut hKV
      have HN := shut hn
      have HGF := shut hgf
      have hfs : wf.heap.size = gf + 1 := by rw [← hwf, ← hgf]; simp
      have HFS := shut hfs
      clear hfs
      have HNL := shut hnl
      have hz := hcv wf (Turn.refl _ _)
      obtain ⟨z0, z1, z2⟩ := hz
      clear hcv hkc hcl hKV hn hO TF rF hr hRb hnl ee hf hfm
      unfold strV at d0 hwf
      have hdead : ¬ i < keep.length → KV = 0 := fun hik => by rw [HKV.out, List.getD_eq_getElem?_getD, List.getElem?_eq_none (by omega)]; rfl
      have HDEAD := shut hdead
      obtain ⟨bb, hbb⟩ : ∃ bb, bb = decide (0 < KV) := ⟨_, rfl⟩
      have HBBD := shut hbb
      have hnx : (i : Int) < 65536 := by omega
      clear hdead hbb
      go_upto_region 13 with fail
      go_cut [54] from 28 to 102 (fun c wx => c = .bool bb ∧ wf = wx)
      case first =>
        by_cases hik : i < keep.length
        · have hik' : (i : Int) < (keep.length : Int) := by omega
          obtain ⟨kb', ko, kcap, hkv, hkc', hkcell⟩ := HK3.out.at (by simp; omega)
          simp only [List.length_map] at hkv
          have hka : ka = some ⟨kb', ko, none⟩ := by simp at hkv; exact hkv.1
          subst hka
          have hcc := HKC.out wf (Turn.refl _ _) kb' ko rfl hik
          clear hkcell hkc' hkv
          by_cases hp : 0 < KV
          · go_wp2_with fail
            go_meet
            case rel => exact ⟨by rw [HBBD.out]; simp [hp], rfl⟩
          · go_wp2_with fail
            go_meet
            case rel => exact ⟨by rw [HBBD.out]; simp [hp], rfl⟩
        · have hik' : ¬ (i : Int) < (keep.length : Int) := by omega
          go_wp2_with fail
          go_meet
          case rel => exact ⟨by rw [HBBD.out, HDEAD.out hik]; rfl, rfl⟩
      case rest =>
        obtain ⟨rfl, hwx⟩ := hcut
        subst hwx
        go_upto_if 54 with fail
        go_cut [11] from 28 to 102 (fun c wx => c = .int .i64 n ∧ Shut (Turn no wf wx))
        case first =>
          cases bb with
          | false =>
            have hk0 : ¬ 0 < KV := fun e => by have := HBBD.out; simp [e] at this
            have hn0 : n = 0 := by rw [HN.out]; unfold keepN; omega
            go_wp2_with fail
            go_meet
            case rel => exact ⟨by rw [hn0]; rfl, Turn.refl _ _⟩
          | true =>
            have hp : 0 < KV := by have := HBBD.out; simpa using this.symm
            have hik : i < keep.length := by
              by_cases hik : i < keep.length
              · exact hik
              · have := HDEAD.out hik; omega
            have hik' : (i : Int) < (keep.length : Int) := by omega
            obtain ⟨kb', ko, kcap, hkv, hkc', hkcell⟩ := HK3.out.at (by simp; omega)
            simp only [List.length_map] at hkv
            have hka : ka = some ⟨kb', ko, none⟩ := by simp at hkv; exact hkv.1
            subst hka
            have HKC2 := shut (fun W t => HKC.out W t kb' ko rfl hik)
            have hmin : min KV ((f.bs.length : Int) - (f.sy : Int)) = (n : Int) := by
              rw [HN.out]
              unfold keepN
              omega
            clear hkcell hkc' hkv
            go_wp2_with fail
            refine wp_region_noPanic ?_
            refine wp_region_held_drew (S := fun W => Turn no wf W) (by kernel_rfl) (Turn.refl _ wf).drew (fun hHeld => ?_)
            refine' wpAnyH_take (i := 0) (v := .slice (some ⟨kb', ko, none⟩) keep.length kc) rfl (by kernel_rfl) (by kernel_rfl) (by kernel_rfl) (fun _ _ _ h => h) (Or.inl ⟨by kernel_rfl, fun W hW => ?y1⟩) hHeld ?r1
            · go_simp
            refine' wpAnyH_take (i := 1) (v := .int .i64 i) rfl (by kernel_rfl) (by kernel_rfl) (by kernel_rfl) (fun _ _ _ h => h) (Or.inl ⟨by kernel_rfl, fun W hW => ?y2⟩) hHeld ?r2
            · go_simp
            refine' wpAnyH_take (i := 2) (v := .pointer (some ⟨kb', ko + i, none⟩)) rfl (by kernel_rfl) (by kernel_rfl) (by kernel_rfl) (fun _ _ _ h => h) (Or.inl ⟨by kernel_rfl, fun W hW => ?y3⟩) hHeld ?r3
            · go_simp
            refine' wpAnyH_take (i := 3) (v := .int .i64 KV) rfl (by kernel_rfl) (by kernel_rfl) (by kernel_rfl) (fun _ _ _ h => h) (Or.inl ⟨by kernel_rfl, fun W hW => ?y4⟩) hHeld ?r4
            · have z := HKC2.out W hW
              go_simp
            refine' wpAnyH_take (i := 4) (v := .pointer (some ⟨gf, 1, none⟩)) rfl (by kernel_rfl) (by kernel_rfl) (by kernel_rfl) (fun _ _ _ h => h) (Or.inl ⟨by kernel_rfl, fun W hW => ?y5⟩) hHeld ?r5
            · go_simp
            refine' wpAnyH_take (i := 5) (v := .slice xa f.bs.length xc) rfl (by kernel_rfl) (by kernel_rfl) (by kernel_rfl) (fun _ _ _ h => h) (Or.inl ⟨by kernel_rfl, fun W hW => ?y6⟩) hHeld ?r6
            · have z := (HCV.out W hW).2.1
              go_simp
            refine' wpAnyH_take (i := 6) (v := .int .i64 f.bs.length) rfl (by kernel_rfl) (by kernel_rfl) (by kernel_rfl) (fun _ _ _ h => h) (Or.inl ⟨by kernel_rfl, fun W hW => ?y7⟩) hHeld ?r7
            · go_simp
            refine' wpAnyH_take (i := 7) (v := .pointer (some ⟨gf, 2, none⟩)) rfl (by kernel_rfl) (by kernel_rfl) (by kernel_rfl) (fun _ _ _ h => h) (Or.inl ⟨by kernel_rfl, fun W hW => ?y8⟩) hHeld ?r8
            · go_simp
            refine' wpAnyH_take (i := 8) (v := .int .i64 f.sy) rfl (by kernel_rfl) (by kernel_rfl) (by kernel_rfl) (fun _ _ _ h => h) (Or.inl ⟨by kernel_rfl, fun W hW => ?y9⟩) hHeld ?r9
            · have z := (HCV.out W hW).2.2
              go_simp
            refine' wpAnyH_take (i := 9) (v := .int .i64 ((f.bs.length : Int) - (f.sy : Int))) rfl (by kernel_rfl) (by kernel_rfl) (by kernel_rfl) (fun _ _ _ h => h) (Or.inl ⟨by kernel_rfl, fun W hW => ?y10⟩) hHeld ?r10
            · go_simp
            refine wpAnyH_ready (rs := [10]) (by kernel_rfl) (by simp) ?_
            refine AllReadyH.cons rfl (fun K hK => ?_) AllReadyH.nil
            go_simp
            refine hK.out _ _ hHeld (fun hHeld => ?_)
            clear hK
            refine' wpAnyH_take (i := 11) (v := .int .i64 n) rfl (by kernel_rfl) (by kernel_rfl) (by kernel_rfl) (fun _ _ _ h => h) (Or.inl ⟨by kernel_rfl, fun W hW => ?y11⟩) hHeld ?r11
            · go_simp
            refine wpAnyH_done (by kernel_rfl) ?_ _
            refine NoPanic.normal ?_
            go_wp2_with fail
            go_meet
            case rel => exact ⟨rfl, (Turn.refl _ wf).drew⟩
        case rest =>
          obtain ⟨rfl, HTC⟩ := hcut
          obtain ⟨N, hN⟩ : ∃ N, f.sy + n = N := ⟨_, rfl⟩
          have hnl := HNL.out
          rw [hN] at hnl
          have eN : IntKind.i64.wrap ((f.sy : Int) + (n : Int)) = (N : Int) := by rw [wrap_i64 (by omega) (by omega)]; omega
          obtain ⟨a', c', ev, hc, hBt⟩ := take_bs (HO.out.turn_no HTC.out) N hnl
          obtain ⟨ev1, ev3⟩ : xa = a' ∧ xc = c' := by simp at ev; exact ev
          subst ev1 ev3
          have hcp : (N : Int) ≤ (xc : Int) := by omega
          have htl : (f.bs.take N).length = N := by rw [List.length_take]; omega
          obtain ⟨v5, w5, hr5, hO5, hG5, hzz⟩ := run_append_src (P := Try.prog) (t := 28) (tx := 28) (e := 5) Try.underlying28 info5 rfl 28 wc (.slice none 0 0) [] (Own.nil wc 5) (.slice xa N xc) N ((f.bs.take N).map bv) (by have := hBt.src Try.underlying28; rw [htl] at this; exact this) (by simp; omega) (by simp only [maxLen]; simp; omega)
          rw [List.nil_append] at hO5
          have T5 : Turn no wc w5 := hG5.turn.mono (fun k _ e => by cases e)
          have hf5 : ∀ g, v5.ownBlock = some g → wc.heap.size ≤ g := hG5.fresh (fun g hg => by cases hg) (Nat.le_refl _)
          obtain ⟨ya, yc, hv5⟩ := hO5.bs.slice
          rw [htl] at hv5
          subst hv5
          have T05 : Turn no wf w5 := HTC.out.then_no T5
          have hsc := HTC.out.size
          have HF5 : Shut (∀ g, (Value.slice ya N yc).ownBlock = some g → wf.heap.size ≤ g) := fun g hg => by have := hf5 g hg; omega
          have hap5 : ∀ ty, (Builtin.append_ #[28, 28] ty #[.slice none 0 0, .slice xa N xc]).run Try.prog wc = .ok (.slice ya N yc) w5 := fun ty => hr5
          obtain ⟨z10, z11, z12⟩ := HCV.out wc HTC.out
          have HO5 := shut hO5
          have HT05 := shut T05
          have HNN := shut hN
          have HTL0 := shut htl
          have HNL2 := shut hnl
          have HFL := shut hfl
          have HSY := shut hsy
          have HCO := shut hcount
          clear hzz hr5 hG5 hO5 T5 T05 hf5 hBt htl hnl ev hsc hN z0 z1 z2 hfl hsy hcount hc
          obtain ⟨bb2, hbb2⟩ : ∃ bb2, decide (0 < n) = bb2 := ⟨_, rfl⟩
          have hbb3 : decide ((0 : Int) < (n : Int)) = bb2 := by rw [← hbb2]; congr 1; exact propext ⟨fun e => by omega, fun e => by omega⟩
          go_upto_if 76 with (at_builtin; refine wpList_append_run rfl _ _ (t := 28) (tx := 28) rfl _ _ rfl rfl (hap5 _) ?_)
          go_cut [12] from 28 to 102 (fun c wx => c = .slice ya N yc ∧ Shut (Own wx 5 (.slice ya N yc) ((leftB f.bs f.sy KV junk).map bv)) ∧ Shut (Turn no wf wx))
          case first =>
            cases bb2 with
            | false =>
              have h0 : n = 0 := by simp at hbb2; omega
              have HH0 := shut h0
              clear hbb2 hbb3
              have FIN : Shut (Own w5 5 (.slice ya N yc) ((leftB f.bs f.sy KV junk).map bv)) := by
                have e : leftB f.bs f.sy KV junk = f.bs.take N := by
                  unfold leftB
                  rw [← HN.out, if_pos HH0.out, ← HNN.out, HH0.out]
                  rfl
                rw [e]; exact HO5.out
              clear h0 hap5 eN hcp e1 z10 z11 z12
              go_wp2_with fail
              go_meet
              case rel => exact ⟨rfl, FIN, HT05⟩
            | true =>
              have hn0' : (0 : Int) < (n : Int) := by simpa using hbb2
              have h0 : ¬ n = 0 := by omega
              obtain ⟨M, hM⟩ : ∃ M, N - 1 = M := ⟨_, rfl⟩
              have hNN := HNN.out
              have hnl := HNL2.out
              have hfl := HFL.out
              have eM : IntKind.i64.wrap ((N : Int) - 1) = (M : Int) := by rw [wrap_i64 (by omega) (by omega)]; omega
              have hMN : (M : Int) < (N : Int) := by omega
              have hMN' : M < N := by omega
              obtain ⟨g5, hg5⟩ : ∃ g5, ya = some ⟨g5, 0, none⟩ := by
                rcases HO5.out.shape with ⟨e, qe⟩ | ⟨g, _, _, e, _⟩
                · have := congrArg List.length qe
                  rw [List.length_map, HTL0.out] at this
                  simp at this
                  omega
                · simp at e
                  exact ⟨g, e.1⟩
              subst hg5
              obtain ⟨y, hy⟩ : ∃ y, f.bs.getD M 0 = y := ⟨_, rfl⟩
              have hb2 : (f.bs.take N)[M]? = some y := by rw [List.getElem?_take, if_pos hMN', ← hy]; simp [show M < f.bs.length by omega]
              have cb : w5.cell? ⟨g5, M, none⟩ = some (.int .u8 y.toNat) := HO5.out.cell M (bv y) (by rw [List.getElem?_map, hb2]; rfl)
              have fb := HO5.out.frozen M
              have hx := xorB_eq y junk
              have FIN : Shut (Own (w5.setCell ⟨g5, M, none⟩ (.int .u8 (xorB y junk).toNat)).drew 5 (.slice (some ⟨g5, 0, none⟩) N yc) ((leftB f.bs f.sy KV junk).map bv)) := by
                have e : leftB f.bs f.sy KV junk = (f.bs.take N).set M (xorB y junk) := by
                  unfold leftB
                  rw [← HN.out, if_neg h0, HNN.out, hM, hy]
                rw [e, List.map_set]
                exact (HO5.out.setAt M (bv (xorB y junk))).turn_no (Turn.refl no _).drew
              have hwg : wf.heap.size ≤ g5 := HF5.out g5 rfl
              have HTF2 : Shut (Turn no wf (w5.setCell ⟨g5, M, none⟩ (.int .u8 (xorB y junk).toNat)).drew) := (HT05.out.setCell (p := ⟨g5, M, none⟩) (fun e => by simp at e; omega) _).drew
              have hz5 : ∀ W, Turn (fun k => k = g5) w5 W → W.cell? ⟨gf, 2, none⟩ = some (.int .i64 f.sy) := fun W t => t.keep (HCV.out w5 HT05.out).2.2 (fun e => by
                have h1 := HGF.out
                have h2 := HFS.out
                simp only at e
                omega)
              have HZ5 := shut hz5
              have cb' : ∀ W, W = w5.drew → W.cell? ⟨g5, M, none⟩ = some (.int .u8 y.toNat) := fun W e => by rw [e]; exact cb
              clear hz5 hb2 hy hwg hfl hnl hNN hM h0 hn0' hbb2 hbb3
              have HEN := shut eN
              have HEM := shut eM
              have HMN := shut hMN
              have HXX := shut hx
              have HCB := shut cb
              have HFB := shut fb
              clear hap5 eN hcp e1 z10 z11 z12 eM hMN hx cb fb hMN' cb'
              go_wp2_with fail
              refine wp_region_noPanic ?_
              refine wp_region_held_drew (S := fun W => Turn (fun k => k = g5) w5 W) (by kernel_rfl) (Turn.refl _ w5).drew (fun hHeld => ?_)
              refine' wpAnyH_take (i := 0) (v := .slice (some ⟨g5, 0, none⟩) N yc) rfl (by kernel_rfl) (by kernel_rfl) (by kernel_rfl) (fun _ _ _ h => h) (Or.inl ⟨by kernel_rfl, fun W hW => ?y12⟩) hHeld ?r12
              · go_simp
              refine' wpAnyH_take (i := 1) (v := .pointer (some ⟨gf, 2, none⟩)) rfl (by kernel_rfl) (by kernel_rfl) (by kernel_rfl) (fun _ _ _ h => h) (Or.inl ⟨by kernel_rfl, fun W hW => ?y13⟩) hHeld ?r13
              · go_simp
              refine' wpAnyH_take (i := 2) (v := .int .i64 f.sy) rfl (by kernel_rfl) (by kernel_rfl) (by kernel_rfl) (fun _ _ _ h => h) (Or.inl ⟨by kernel_rfl, fun W hW => ?y14⟩) hHeld ?r14
              · have z := HZ5.out W hW
                go_simp
              refine' wpAnyH_take (i := 3) (v := .int .i64 n) rfl (by kernel_rfl) (by kernel_rfl) (by kernel_rfl) (fun _ _ _ h => h) (Or.inl ⟨by kernel_rfl, fun W hW => ?y15⟩) hHeld ?r15
              · go_simp
              refine' wpAnyH_take (i := 4) (v := .int .i64 N) rfl (by kernel_rfl) (by kernel_rfl) (by kernel_rfl) (fun _ _ _ h => h) (Or.inl ⟨by kernel_rfl, fun W hW => ?y16⟩) hHeld ?r16
              · have z := HEN.out
                go_simp
              refine' wpAnyH_take (i := 5) (v := .int .i64 M) rfl (by kernel_rfl) (by kernel_rfl) (by kernel_rfl) (fun _ _ _ h => h) (Or.inl ⟨by kernel_rfl, fun W hW => ?y17⟩) hHeld ?r17
              · have z := HEM.out
                go_simp
              refine' wpAnyH_take (i := 6) (v := .slice (some ⟨g5, 0, none⟩) N yc) rfl (by kernel_rfl) (by kernel_rfl) (by kernel_rfl) (fun _ _ _ h => h) (Or.inl ⟨by kernel_rfl, fun W hW => ?y18⟩) hHeld ?r18
              · go_simp
              refine' wpAnyH_take (i := 7) (v := .pointer (some ⟨gf, 2, none⟩)) rfl (by kernel_rfl) (by kernel_rfl) (by kernel_rfl) (fun _ _ _ h => h) (Or.inl ⟨by kernel_rfl, fun W hW => ?y19⟩) hHeld ?r19
              · go_simp
              refine' wpAnyH_take (i := 8) (v := .int .i64 f.sy) rfl (by kernel_rfl) (by kernel_rfl) (by kernel_rfl) (fun _ _ _ h => h) (Or.inl ⟨by kernel_rfl, fun W hW => ?y20⟩) hHeld ?r20
              · have z := HZ5.out W hW
                go_simp
              refine' wpAnyH_take (i := 9) (v := .int .i64 n) rfl (by kernel_rfl) (by kernel_rfl) (by kernel_rfl) (fun _ _ _ h => h) (Or.inl ⟨by kernel_rfl, fun W hW => ?y21⟩) hHeld ?r21
              · go_simp
              refine' wpAnyH_take (i := 10) (v := .int .i64 N) rfl (by kernel_rfl) (by kernel_rfl) (by kernel_rfl) (fun _ _ _ h => h) (Or.inl ⟨by kernel_rfl, fun W hW => ?y22⟩) hHeld ?r22
              · have z := HEN.out
                go_simp
              refine' wpAnyH_take (i := 11) (v := .int .i64 M) rfl (by kernel_rfl) (by kernel_rfl) (by kernel_rfl) (fun _ _ _ h => h) (Or.inl ⟨by kernel_rfl, fun W hW => ?y23⟩) hHeld ?r23
              · have z := HEM.out
                go_simp
              refine' wpAnyH_take (i := 12) (v := .pointer (some ⟨g5, M, none⟩)) rfl (by kernel_rfl) (by kernel_rfl) (by kernel_rfl) (fun _ _ _ h => h) (Or.inl ⟨by kernel_rfl, fun W hW => ?y24⟩) hHeld ?r24
              · have z := HMN.out
                go_simp
              refine' wpAnyH_take (i := 14) (v := .int .u8 junk.toNat) rfl (by kernel_rfl) (by kernel_rfl) (by kernel_rfl) (fun _ _ _ h => h) (Or.inl ⟨by kernel_rfl, fun W hW => ?y25⟩) hHeld ?r25
              · go_simp
              refine wpAnyH_ready (rs := [13]) (by kernel_rfl) (by simp) ?_
              refine AllReadyH.cons rfl (fun K hK => ?_) AllReadyH.nil
              have cb := HCB.out
              go_simp
              refine hK.out _ _ hHeld (fun hHeld => ?_)
              clear hK
              refine' wpAnyH_take (i := 15) (v := .int .u8 (xorB y junk).toNat) rfl (by kernel_rfl) (by kernel_rfl) (by kernel_rfl) (fun _ _ _ h => h) (Or.inl ⟨by kernel_rfl, fun W hW => ?y26⟩) hHeld ?r26
              · have z := HXX.out
                go_simp
              refine' wpAnyH_take (i := 16) (v := .pointer (some ⟨g5, M, none⟩)) rfl (by kernel_rfl) (by kernel_rfl) (by kernel_rfl) (fun _ _ _ h => h) (Or.inl ⟨by kernel_rfl, fun W hW => ?y27⟩) hHeld ?r27
              · have z := HMN.out
                go_simp
              refine wpAnyH_ready (rs := [17]) (by kernel_rfl) (by simp) ?_
              refine AllReadyH.cons rfl (fun K hK => ?_) AllReadyH.nil
              have fb := HFB.out
              go_simp
              refine hK.out _ _ (Turn.setCell (S := fun k => k = g5) (Turn.refl _ w5) (p := ⟨g5, M, none⟩) (fun _ => rfl) _).drew (fun hHeld => ?_)
              clear hK
              refine wpAnyH_done (by kernel_rfl) ?_ _
              refine NoPanic.normal ?_
              go_wp2_with fail
              go_meet
              case rel => exact ⟨rfl, FIN, HTF2⟩
          case rest =>
            obtain ⟨rfl, HL, HTL⟩ := hcut
            have TT := HTF.out.then_no HTL.out
            have tsz := TT.size
            have rb := HRW.out.turn TT (fun e => e)
            have x0 := rb.cell 0 _ rfl
            have g0 := (HCV.out wc HTL.out).1
            have hwrB : B + 2 ≤ wr.heap.size := by have := HT.out.size; have := HS3.out; omega
            have ta : Turn no wc (wc.alloc (.cells #[strV f.nm, .slice ya N yc] 66)) := (Turn.refl no wc).alloc _
            have hln : ((crashL s.fs keep junk).take i).length < 65536 := by rw [List.length_take, crashL_len]; have := HCO.out; omega
            have hfrB : ∀ g, (Value.slice ya N yc).ownBlock = some g → B ≤ g := fun g hg => by have := HF5.out g hg; have := HTF.out.size; omega
            obtain ⟨iw', w6, hr6, hI6, hG6, za, zn, zc, rfl⟩ := ((HIM.out.turn_no TT).turn_no ta).push hln f.nm (.slice ya N yc) _ (HL.out.turn_no ta) hfrB (by have := ta.size; omega) _ (src_file wc f.nm (.slice ya N yc) rfl)
            rw [← HCL.out] at hI6
            have hS3 := HS3.out
            have RI6 : Row w6 (B + 1) #[.slice ia im ic] 24 := (rb.turn ta (fun e => e)).turn hG6.turn (fun e => by have := HNW.out _ e; omega)
            have FR : Shut (∀ g, (Value.slice za zn zc).ownBlock = some g → w3.heap.size ≤ g) := fun g hg => by
              rcases hG6.blk with e | ⟨g', e, e1, _⟩
              · exact HNW.out g (by rw [← e]; exact hg)
              · rw [e] at hg; cases hg
                have := ta.size; have := HT.out.size; omega
            have T6 : Turn (fun k => k = B + 1) w3 w6 := ((HT.out.then_no TT).then_no ta).trans hG6.turn (fun k hk e => by have := HNW.out k e; omega)
            have bc := RI6.cell 0 _ rfl
            have bz := RI6.frozen 0
            have HR7 := shut (RI6.set 0 (.slice za zn zc))
            have HI7 := shut (hI6.other RI6 0 (.slice za zn zc))
            have HT7 : Shut (Turn (fun k => k = B + 1) w3 (w6.setCell ⟨B + 1, 0, none⟩ (.slice za zn zc))) := Turn.setCell (S := fun k => k = B + 1) T6 (p := ⟨B + 1, 0, none⟩) (fun _ => rfl) _
            have hap6 : ∀ ty, (Builtin.append_ #[22, 22] ty #[.slice ia im ic, .slice (some ⟨wc.heap.size, 0, none⟩) 1 1]).run Try.prog (wc.alloc (.cells #[.string ⟨f.nm.toArray⟩, .slice ya N yc] 66)) = .ok (.slice za zn zc) w6 := fun ty => hr6 ty
            clear hr6 hI6 hG6 RI6 T6 rb TT tsz ta hln hfrB hS3 hwrB hap5 hbb2 hbb3 eN hcp e1
            go_wp2_with (at_builtin; refine wpList_append_run rfl _ _ (t := 22) (tx := 22) rfl _ _ rfl rfl (hap6 _) ?_)
            go_roundw
            case rel => exact ⟨i + 1, _, _, _, by omega, by go_num, HR7, HI7, FR, HT7⟩
            case measure => simp [intOf]; omega
    · have hi2 : i = s.fs.length := by omega
      subst hi2
      have hlt' : ¬ (s.fs.length : Int) < (s.fs.length : Int) := by omega
      have hIm := HIM.out
      rw [List.take_of_length_le (by rw [crashL_len]; exact Nat.le_refl _)] at hIm
      have RR := HR3.out.turn HT.out (fun e => by omega)
      have rb := HRW.out
      have b1 := rb.cell 0 _ rfl
      have b2 := RR.cell 0 _ rfl
      have b3 := RR.frozen 0
      have T6 : Turn (fun k => k = B) wr (wr.setCell ⟨B, 0, none⟩ (.slice ia im ic)) := Turn.setCell (S := fun k => k = B) (Turn.refl _ _) (p := ⟨B, 0, none⟩) (fun _ => rfl) _
      have HRR := shut (RR.set 0 (.slice ia im ic))
      have HIF := shut (hIm.other RR 0 (.slice ia im ic))
      have HRF : Shut (Rk (wr.setCell ⟨B, 0, none⟩ (.slice ia im ic)) q K { s with off := true, out := true }) := ⟨_, _, hr.turn T6 (fun k hk e => by have := HKLT.out k hk; omega)⟩
      have HTF : Shut (Turn K w (wr.setCell ⟨B, 0, none⟩ (.slice ia im ic))) := (HTK.out.trans HT.out (fun k hk e => by omega)).trans T6 (fun k hk e => by omega)
      clear hIm RR rb T6 hr
      go_wp2_with fail
      refine ⟨rfl, _, results_cell_row_tmp (g := B) (cs := #[.slice ia im ic]) (t := 24) rfl _ _ _ _ rfl HRR.out Try.underlying24 rfl (by kernel_rfl), _, rfl, HIF.out, HRF.out, HTF.out⟩
end
end Go.Proofs.Ytcdogciacchigab
