/- tells. -/
import Derived.Test.YtcdogciacchigabS2
import Derived.Test.YtcdogciacchigabI2
namespace Go.Proofs.Ytcdogciacchigab
open Go.RowKit Go.Maps
set_option linter.unusedVariables false

/-- The cells of what a disk tells. -/
def tlC (l : List Pf) (vs : List Value) : List Value := (l.zip vs).flatMap (fun x => [strV x.1.nm, x.2, .int .i64 x.1.sy])
theorem tlC_snoc (l : List Pf) (vs : List Value) (f : Pf) (u : Value) (h : vs.length = l.length) : tlC (l ++ [f]) (vs ++ [u]) = tlC l vs ++ [strV f.nm, u, .int .i64 f.sy] := by
  unfold tlC
  rw [List.zip_append h.symm, List.flatMap_append]
  rfl
theorem tlC_at (l : List Pf) (vs : List Value) (h : vs.length = l.length) (j : Nat) (f : Pf) (u : Value) (hf : l[j]? = some f) (hu : vs[j]? = some u) : (tlC l vs)[j * 3]? = some (strV f.nm) ∧ (tlC l vs)[j * 3 + 1]? = some u ∧ (tlC l vs)[j * 3 + 2]? = some (.int .i64 f.sy) := by
  induction l generalizing vs j with
  | nil => simp at hf
  | cons g r ih =>
    cases vs with
    | nil => simp at h
    | cons x us =>
      cases j with
      | zero =>
        simp at hf hu
        subst hf hu
        simp [tlC]
      | succ j =>
        have := ih us (by simpa using h) j (by simpa using hf) (by simpa using hu)
        have e : tlC (g :: r) (x :: us) = strV g.nm :: x :: .int .i64 g.sy :: tlC r us := by simp [tlC]
        rw [e]
        have e1 : (j + 1) * 3 = ((j * 3 + 1) + 1) + 1 := by omega
        have e2 : (j + 1) * 3 + 1 = (((j * 3 + 1) + 1) + 1) + 1 := by omega
        have e3 : (j + 1) * 3 + 2 = (((j * 3 + 2) + 1) + 1) + 1 := by omega
        rw [e2, e3, e1]
        simp only [List.getElem?_cons_succ]
        exact this
def Tl (B : Nat) (w : World) (v : Value) (l : List Pf) : Prop :=
  ∃ vs, vs.length = l.length ∧ OwnN w 89 3 v l.length (tlC l vs) ∧ (∀ g, v.ownBlock = some g → B ≤ g) ∧ ∀ (j : Nat) (f : Pf) (u : Value), l[j]? = some f → vs[j]? = some u → Own w 5 u (f.bs.map bv) ∧ ∀ g, u.ownBlock = some g → B ≤ g
theorem Tl.nil (B : Nat) (w : World) : Tl B w (.slice none 0 0) [] := ⟨[], rfl, OwnN.nil w 89 3, (fun g hg => by cases hg), fun j f u hf => by simp at hf⟩
theorem Tl.turn {B : Nat} {S : Nat → Prop} {w w' : World} {v : Value} {l : List Pf} (h : Tl B w v l) (t : Turn S w w') (hS : ∀ k, S k → k < B) : Tl B w' v l := by
  obtain ⟨vs, h1, h2, h3, h4⟩ := h
  refine ⟨vs, h1, h2.turn t (fun g hg q => by have := h3 g hg; have := hS g q; omega), h3, fun j f u hf hu => ?_⟩
  obtain ⟨a, b⟩ := h4 j f u hf hu
  exact ⟨a.turn t (fun g hg q => by have := b g hg; have := hS g q; omega), b⟩
theorem Tl.turn_no {B : Nat} {w w' : World} {v : Value} {l : List Pf} (h : Tl B w v l) (t : Turn no w w') : Tl B w' v l := h.turn t (fun _ q => q.elim)
theorem Tl.slice {B : Nat} {w : World} {v : Value} {l : List Pf} (h : Tl B w v l) : ∃ a c, v = .slice a l.length c := by
  obtain ⟨vs, _, h2, _⟩ := h
  rcases h2.2 with ⟨e, q⟩ | ⟨g, cap, cur, e, _⟩
  · exact ⟨none, 0, by rw [e, q]⟩
  · exact ⟨_, _, e⟩
theorem info74 : (Try.prog.info? 89).map (fun i => (i.zero, i.size, i.bytes)) = some (some (.agg #[.string ⟨#[]⟩, .slice none 0 0, .int .i64 0]), 3, 48) := by kernel_rfl
theorem Tl.push {B : Nat} {W : World} {iw : Value} {l : List Pf} (h : Tl B W iw l) (hl : l.length < 65536) (f : Pf) (u : Value) (hu : Own W 5 u (f.bs.map bv)) (hub : ∀ g, u.ownBlock = some g → B ≤ g) (hBW : B ≤ W.heap.size) (x : Value) (hx : Src Try.prog 3 85 x 1 [strV f.nm, u, .int .i64 f.sy] W) :
    ∃ iw' w', (∀ ty, (Builtin.append_ #[85, 85] ty #[iw, x]).run Try.prog W = .ok iw' w') ∧ Tl B w' iw' (l ++ [f]) ∧ Grew W w' iw iw' := by
  obtain ⟨vs, h1, h2, h3, h4⟩ := h
  obtain ⟨iw', w', hr, ho, hg⟩ := run_append_srcN (P := Try.prog) (t := 85) (tx := 85) Try.underlying85 info74 rfl (by omega) 85 W iw l.length (tlC l vs) h2 x 1 [strV f.nm, u, .int .i64 f.sy] hx (by omega) (by simp only [maxLen]; omega)
  have hT := hg.turn
  have hne : ∀ {y xs}, Own W 5 y xs → ∀ g, y.ownBlock = some g → iw.ownBlock ≠ some g := fun hy g hg' q => by
    obtain ⟨c1, e1⟩ := hy.obj hg'
    obtain ⟨c2, e2⟩ := h2.obj q
    exact absurd (tag_ne e1 e2) (by decide)
  refine ⟨iw', w', fun ty => hr, ⟨vs ++ [u], by simp [h1], ?_, fun g q => ?_, fun j f' y hf hy => ?_⟩, hg⟩
  · rw [tlC_snoc l vs f u h1]
    simpa using ho
  · rcases hg.blk with e | ⟨g', e, e1, _⟩
    · exact h3 g (by rw [← e]; exact q)
    · rw [e] at q; cases q; omega
  · by_cases hj : j < l.length
    · rw [List.getElem?_append_left hj] at hf
      rw [List.getElem?_append_left (by omega)] at hy
      obtain ⟨a, b⟩ := h4 j f' y hf hy
      exact ⟨a.turn hT (fun g hg' q => hne a g hg' q), b⟩
    · have hj2 : j = l.length := by
        have := (List.getElem?_eq_some_iff.1 hf).1
        simp at this
        omega
      subst hj2
      rw [List.getElem?_append_right (Nat.le_refl _)] at hf
      rw [List.getElem?_append_right (by omega), h1] at hy
      simp at hf hy
      subst hf hy
      exact ⟨hu.turn hT (fun g hg' q => hne hu g hg' q), hub⟩
theorem src_tl (w : World) (nm : Nm) (u : Value) (sy : Nat) (hu : u.oneCell' = true) : Src Try.prog 3 85 (.slice (some ⟨w.heap.size, 0, none⟩) 1 1) 1 [strV nm, u, .int .i64 sy] (w.alloc (.cells #[strV nm, u, .int .i64 sy] 89)) :=
  Src.ofSlice _ Try.underlying85 _ _ _ _ rfl (fun j x hx => by
    have := (Row.new w #[strV nm, u, .int .i64 sy] 89).cell j x (by simpa using hx)
    simpa [Addr.add_lit] using this) (fun x hx => by
    simp at hx
    rcases hx with rfl | rfl | rfl
    · rfl
    · exact hu
    · rfl)

/-- What a disk tells. -/
def tellL (s : St) : List Pf := if s.off then [] else s.fs
section
variable {w : World} {p : Nat} {K : Nat → Prop} {s : St}
set_option maxRecDepth 100000 in
set_option maxHeartbeats 8000000 in
theorem tells26 (hk : Dk w p K s) : Calls Try.prog 43 #[ptr p] w fun e w' => ∃ v, e = .returned (.tuple #[v, .bool true]) ∧ Tl w.heap.size w' v (tellL s) ∧ Turn no w w' := by
  have hns := names29 hk
  have hz := num10
  have HZ := shut hz
  have hS := hk
  obtain ⟨bf, bt, V, hP⟩ := hS
  have hcount : (tellL s).length ≤ 65536 := by
    unfold tellL
    have := hP.inv.count
    split <;> simp <;> omega
  have hnames : (if s.off then [] else s.fs.map Pf.nm) = (tellL s).map Pf.nm := by unfold tellL; split <;> rfl
  have hok : ∀ f ∈ tellL s, f.nm.length ≤ maxLen ∧ foundE s f.nm = 0 ∧ readS s f.nm = f.bs ∧ sizeS s f.nm = (f.bs.length, f.sy) ∧ f.sy ≤ f.bs.length := fun f hf => by
    unfold tellL at hf
    split at hf
    · cases hf
    · rename_i hoff
      have hoff' : s.off = false := by simpa using hoff
      have hnm := hP.inv.names f hf
      have hg := getF_of_mem hP.inv.sorted hf
      have ha : asked s f.nm = 0 := by simp [asked, hoff', hnm]
      have hfE : foundE s f.nm = 0 := by simp [foundE, ha, hg]
      have hfo : fileOf s.fs f.nm = f := by simp [fileOf, hg]
      refine ⟨by have := isNm_len hnm; simp only [maxLen]; omega, hfE, by simp [readS, hfE, hfo], by simp [sizeS, hfE, hfo], hP.inv.sy f hf⟩
  have hsort : (tellL s).Pairwise (fun f g => f.nm < g.nm) := by
    unfold tellL
    split
    · exact List.Pairwise.nil
    · exact hP.inv.sorted
  rw [hnames] at hns
  have hrd : ∀ f ∈ tellL s, ∀ W, Turn no w W → _ := fun f hf W t => read20 (hk.turn_no t) f.nm (hok f hf).1
  have hsz : ∀ f ∈ tellL s, ∀ W, Turn no w W → _ := fun f hf W t => size40 (hk.turn_no t) f.nm (hok f hf).1
  have HRD := shut hrd
  have HSZ := shut hsz
  have HOK := shut hok
  clear hok hrd hsz hnames hz hP
  generalize hl : tellL s = l at *
  obtain ⟨B, hB⟩ : ∃ B, B = w.heap.size := ⟨_, rfl⟩
  rw [← hB]
  have HB := shut hB
  clear hB
  unfold ptr at *
  go_enter Try.func43, Try.ntmps43
  go_wp2_with fail
  refine hns.mono ?_
  rintro e w1 ⟨vn, rfl, hN, hNB, t1⟩
  obtain ⟨na, nc, hnv⟩ : ∃ na nc, vn = .slice na l.length nc := by
    rcases hN.shape with ⟨e, q⟩ | ⟨g, cap, cur, e, _⟩
    · have : l = [] := by simpa using q
      exact ⟨none, 0, by rw [e, this]; rfl⟩
    · exact ⟨_, _, by simpa using e⟩
  subst hnv
  clear hns
  have HN := shut hN
  clear hN hNB
  have HSO := shut hsort
  clear hsort
  go_wp2_with fail
  go_loopw [5, 6] (fun x y wr => ∃ (i : Nat) (oa : Option Addr) (on oc : Nat), i ≤ l.length ∧ x = .slice oa on oc ∧ y = .int .i64 i ∧ Tl B wr (.slice oa on oc) (l.take i) ∧ (∀ g, (Value.slice oa on oc).ownBlock = some g → w1.heap.size ≤ g) ∧ Turn no w1 wr) (fun _ y _ => l.length - (intOf y).toNat)
  case atStart => exact ⟨0, none, 0, 0, Nat.zero_le _, rfl, rfl, by rw [List.take_zero]; exact Tl.nil B w1, (fun g hg => by cases hg), Turn.refl _ _⟩
  case round =>
    obtain ⟨i, oa, on, oc, hi, rfl, rfl, hTl, hnew, T⟩ := hrel
    have TW := t1.then_no T
    by_cases hlt : i < l.length
    · have hlt' : (i : Int) < (l.length : Int) := by omega
      obtain ⟨f, hf⟩ : ∃ f, l[i]? = some f := ⟨l[i], List.getElem?_eq_getElem hlt⟩
      have hfm := List.mem_of_getElem? hf
      obtain ⟨o1, o2, o3, o4, o5⟩ := HOK.out f hfm
      have hrd := fun W (t : Turn no wr W) => HRD.out f hfm W (TW.then_no t)
      have hsz := fun W t => HSZ.out f hfm W t
      rw [o2, o3] at hrd
      rw [o2, o4] at hsz
      have hnm : ∀ W, Turn no w1 W → ∀ j g, l[j]? = some g → ∃ ng, na = some ⟨ng, 0, none⟩ ∧ W.cell? ⟨ng, j, none⟩ = some (strV g.nm) := fun W t j g hj => by
        have hN' := HN.out.turn_no t
        rcases hN'.shape with ⟨e, q⟩ | ⟨x, cap, cur, e, _⟩
        · have : l = [] := by simpa using q
          rw [this] at hj; simp at hj
        · have e' : na = some ⟨x, 0, none⟩ := by simp at e; exact e.1
          subst e'
          exact ⟨x, rfl, hN'.cell j _ (by simp [hj])⟩
      obtain ⟨ng, hna, cn⟩ := hnm wr T i f hf
      subst hna
      have cnn : ∀ W, Turn no w1 W → ∀ j g, l[j]? = some g → W.cell? ⟨ng, j, none⟩ = some (strV g.nm) := fun W t j g hj => by
        obtain ⟨x, e, c⟩ := hnm W t j g hj
        simp at e
        rw [e]
        exact c
      have CNN := shut cnn
      have HSZ' := shut hsz
      have HRDW := shut hrd
      clear hnm cnn hsz hrd
      have htk : l.take (i + 1) = l.take i ++ [f] := by rw [List.take_add_one, hf]; rfl
      have happ : ∀ W xa xn xc, Turn no wr W → Own W 5 (.slice xa xn xc) (f.bs.map bv) → (∀ g, (Value.slice xa xn xc).ownBlock = some g → wr.heap.size ≤ g) → ∃ ov' w6, (∀ ty, (Builtin.append_ #[85, 85] ty #[.slice oa on oc, .slice (some ⟨W.heap.size, 0, none⟩) 1 1]).run Try.prog (W.alloc (.cells #[strV f.nm, .slice xa xn xc, .int .i64 f.sy] 89)) = .ok ov' w6) ∧ Tl B w6 ov' (l.take (i + 1)) ∧ (∀ g, ov'.ownBlock = some g → w1.heap.size ≤ g) ∧ Turn no w1 w6 := fun W xa xn xc t hO' hB' => by
        have ta := t.alloc (.cells #[strV f.nm, .slice xa xn xc, .int .i64 f.sy] 89)
        have hln : (l.take i).length < 65536 := by rw [List.length_take]; omega
        have h1 := t1.size
        have h2 := T.size
        have h3 := ta.size
        have hBe := HB.out
        obtain ⟨ov', w6, hr, hI, hG⟩ := (hTl.turn_no ta).push hln f (.slice xa xn xc) (hO'.turn_no ((Turn.refl no W).alloc _)) (fun g hg => by have := hB' g hg; omega) (by omega) _ (src_tl W f.nm (.slice xa xn xc) f.sy rfl)
        rw [← htk] at hI
        refine ⟨ov', w6, hr, hI, fun g hg => ?_, (T.then_no ta).trans hG.turn (fun k hk q => by have := hnew k q; omega)⟩
        rcases hG.blk with e | ⟨g', e, e1, _⟩
        · exact hnew g (by rw [← e]; exact hg)
        · rw [e] at hg; cases hg; omega
      have HAPP := shut happ
      have HTK := shut htk
      clear happ htk hTl hnew
      by_cases hi0 : i = 0
      · have hi0' : decide ((0 : Int) < (i : Int)) = false := by simp; omega
        have hi0'' : decide (0 < i) = false := by simp; omega
        have HI0 := shut hi0
        clear hi0
        unfold strV at *
        go_wp2_with fail
        go_quiet (fail)
        have HD := shut (TW.drewN nq)
        have HD1 := shut (T.drewN nq)
        have HD2 := shut ((Turn.refl no wr).drewN nq)
        have hrd := HRDW.out _ HD2.out
        have cni := CNN.out _ HD1.out i f hf
        have HRR := shut hrd
        clear hrd
        generalize wr.drewN nq = wd at *
        have hrd := HRR.out
        go_wp2_with fail
        refine hrd.mono ?_
        rintro e w4 ⟨v', rfl, hO', hB', t4⟩
        obtain ⟨xa, xc, rfl⟩ : ∃ xa xc, v' = .slice xa f.bs.length xc := by
          rcases hO'.shape with ⟨e, q⟩ | ⟨g, cap, cur, e, _⟩
          · exact ⟨none, 0, by have := List.map_eq_nil_iff.1 q; rw [e, this]; rfl⟩
          · exact ⟨_, _, by simpa using e⟩
        have hsz := HSZ'.out w4 (HD.out.then_no t4)
        have cn4 := CNN.out w4 (HD1.out.then_no t4) i f hf
        have HO4 := shut hO'
        have HB4 := shut hB'
        clear hO' hB' hrd HRR
        go_wp2_with fail
        refine hsz.mono ?_
        rintro e w5 ⟨rfl, t5⟩
        have h50 := HZ.out w5 0
        have t45 := t4.then_no t5
        have cn5 := CNN.out w5 (HD1.out.then_no t45) i f hf
        have hs0 : ¬ (f.sy : Int) < 0 := by omega
        have hs1 : ¬ (f.bs.length : Int) < (f.sy : Int) := by omega
        obtain ⟨ov', w6, hap6, hT6, hn6, t6⟩ := HAPP.out w5 xa f.bs.length xc (HD2.out.then_no t45) (HO4.out.turn_no t5) (fun g hg => by have := HB4.out g hg; have := HD2.out.size; omega)
        have hsl6 : ∃ a n c, ov' = .slice a n c := by
          obtain ⟨a, c, e⟩ := hT6.slice
          exact ⟨_, _, _, e⟩
        obtain ⟨ya, yn, yc, rfl⟩ := hsl6
        have HT6 := shut hT6
        have HN6 := shut hn6
        have HW6 := shut t6
        clear hsz hT6 hn6 t6
        go_wp2_with fail
        refine h50.mono ?_
        rintro e w7 ⟨rfl, rfl⟩
        go_wp2_with fail
        refine h50.mono ?_
        rintro e w8 ⟨rfl, rfl⟩
        go_wp2_with (at_builtin; refine wpList_append_run rfl _ _ (t := 85) (tx := 85) rfl _ _ rfl rfl (hap6 _) ?_)
        go_roundw
        case rel => exact ⟨i + 1, _, _, _, by omega, rfl, by go_num, HT6.out, HN6.out, HW6.out⟩
        case measure => simp [intOf]; omega
      · obtain ⟨i1, hi1⟩ : ∃ i1, i = i1 + 1 := ⟨i - 1, by omega⟩
        obtain ⟨f1, hf1⟩ : ∃ f1, l[i1]? = some f1 := ⟨l[i1], List.getElem?_eq_getElem (by omega)⟩
        have cn1 := CNN.out wr T i1 f1 hf1
        have hlt2 : f1.nm < f.nm := by
          have := List.pairwise_iff_getElem.1 HSO.out i1 i (by omega) hlt (by omega)
          rw [List.getElem?_eq_getElem hlt] at hf
          rw [List.getElem?_eq_getElem (show i1 < l.length by omega)] at hf1
          cases hf
          cases hf1
          exact this
        have hb1 : Op.bytesLess f.nm f1.nm = false := by
          rw [bytesLess_eq]
          simp only [decide_eq_false_iff_not]
          exact fun q => List.lt_irrefl _ (List.lt_trans q hlt2)
        have hb2 : (f.nm == f1.nm) = false := by
          simp only [beq_eq_false_iff_ne]
          exact (nm_ne hlt2).symm
        have hb3 : ¬ f.nm = f1.nm := (nm_ne hlt2).symm
        have hi0' : decide ((0 : Int) < (i : Int)) = true := by simp; omega
        have hi0'' : decide (0 < i) = true := by simp; omega
        have hw1 : IntKind.i64.wrap ((i : Int) - 1) = (i1 : Int) := by rw [wrap_i64 (by omega) (by omega)]; omega
        have hw2 : (i : Int) - 1 = (i1 : Int) := by omega
        have hw3 : (i1 : Int) < (l.length : Int) := by omega
        have hw4 : i1 < l.length := by omega
        have HI := shut hi1
        have HLT := shut hlt2
        clear hi1 hi0 hlt2 hf1
        unfold strV at *
        go_wp2_with fail
        go_quiet (fail)
        have HD := shut (TW.drewN nq)
        have HD1 := shut (T.drewN nq)
        have HD2 := shut ((Turn.refl no wr).drewN nq)
        have hrd := HRDW.out _ HD2.out
        have cni := CNN.out _ HD1.out i f hf
        have HRR := shut hrd
        clear hrd
        generalize wr.drewN nq = wd at *
        have hrd := HRR.out
        go_wp2_with fail
        refine hrd.mono ?_
        rintro e w4 ⟨v', rfl, hO', hB', t4⟩
        obtain ⟨xa, xc, rfl⟩ : ∃ xa xc, v' = .slice xa f.bs.length xc := by
          rcases hO'.shape with ⟨e, q⟩ | ⟨g, cap, cur, e, _⟩
          · exact ⟨none, 0, by have := List.map_eq_nil_iff.1 q; rw [e, this]; rfl⟩
          · exact ⟨_, _, by simpa using e⟩
        have hsz := HSZ'.out w4 (HD.out.then_no t4)
        have cn4 := CNN.out w4 (HD1.out.then_no t4) i f hf
        have HO4 := shut hO'
        have HB4 := shut hB'
        clear hO' hB' hrd HRR
        go_wp2_with fail
        refine hsz.mono ?_
        rintro e w5 ⟨rfl, t5⟩
        have h50 := HZ.out w5 0
        have t45 := t4.then_no t5
        have cn5 := CNN.out w5 (HD1.out.then_no t45) i f hf
        have hs0 : ¬ (f.sy : Int) < 0 := by omega
        have hs1 : ¬ (f.bs.length : Int) < (f.sy : Int) := by omega
        obtain ⟨ov', w6, hap6, hT6, hn6, t6⟩ := HAPP.out w5 xa f.bs.length xc (HD2.out.then_no t45) (HO4.out.turn_no t5) (fun g hg => by have := HB4.out g hg; have := HD2.out.size; omega)
        have hsl6 : ∃ a n c, ov' = .slice a n c := by
          obtain ⟨a, c, e⟩ := hT6.slice
          exact ⟨_, _, _, e⟩
        obtain ⟨ya, yn, yc, rfl⟩ := hsl6
        have HT6 := shut hT6
        have HN6 := shut hn6
        have HW6 := shut t6
        clear hsz hT6 hn6 t6
        go_wp2_with fail
        refine h50.mono ?_
        rintro e w7 ⟨rfl, rfl⟩
        go_wp2_with fail
        refine h50.mono ?_
        rintro e w8 ⟨rfl, rfl⟩
        go_wp2_with (at_builtin; refine wpList_append_run rfl _ _ (t := 85) (tx := 85) rfl _ _ rfl rfl (hap6 _) ?_)
        go_roundw
        case rel => exact ⟨i + 1, _, _, _, by omega, rfl, by go_num, HT6.out, HN6.out, HW6.out⟩
        case measure => simp [intOf]; omega
    · have hil : i = l.length := by omega
      subst hil
      have hlt' : ¬ (l.length : Int) < (l.length : Int) := by omega
      rw [List.take_length] at hTl
      have HTl := shut hTl
      clear hTl hnew
      go_wp2_with fail
      go_ret2
      exact ⟨_, rfl, HTl.out, TW⟩
end
end Go.Proofs.Ytcdogciacchigab
