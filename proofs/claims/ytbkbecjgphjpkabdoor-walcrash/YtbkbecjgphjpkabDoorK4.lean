/- Walks: Scan. -/
import Derived.Test.YtbkbecjgphjpkabDoorK3
namespace Go.Proofs.YtbkbecjgphjpkabDoor
open Go.RowKit
set_option linter.unusedVariables false

/-- How many bytes the record of the first frame has, if that is whole. -/
def whole (b : List UInt8) : Option Nat :=
  if b.length < 9 then none else if b.getD 0 0 ≠ 167 then none else if checkedB (b.take 9) = false then none else if 262400 < told b then none
  else if b.length < told b + 13 then none else if checkedB ((b.take (told b + 13)).drop 9) = false then none else some (told b)
def scanF : Nat → List UInt8 → List (List UInt8) × Nat
  | 0, _ => ([], 0)
  | f + 1, b => match whole b with
    | none => ([], 0)
    | some n => ((b.take (n + 9)).drop 9 :: (scanF f (b.drop (n + 13))).1, n + 13 + (scanF f (b.drop (n + 13))).2)
/-- The whole records at the front, and where they end. -/
def scan (b : List UInt8) : List (List UInt8) × Nat := scanF (b.length + 1) b
theorem whole_some {b : List UInt8} {n : Nat} (h : whole b = some n) : 9 ≤ b.length ∧ b.getD 0 0 = 167 ∧ checkedB (b.take 9) = true ∧ told b = n ∧ n ≤ 262400 ∧ n + 13 ≤ b.length ∧ checkedB ((b.take (n + 13)).drop 9) = true := by
  unfold whole at h
  repeat' split at h
  all_goals try cases h
  rename_i h1 h2 h3 h4 h5 h6
  exact ⟨by omega, by simpa using h2, by simpa using h3, rfl, by omega, by omega, by simpa using h6⟩
theorem scanF_more : ∀ (f g : Nat) (b : List UInt8), b.length < f → b.length < g → scanF f b = scanF g b
  | 0, _, _, h, _ => by omega
  | _ + 1, 0, _, _, h => by omega
  | f + 1, g + 1, b, h, k => by
    unfold scanF
    cases hw : whole b with
    | none => rfl
    | some n =>
      have := (whole_some hw).2.2.2.2.2.1
      simp only
      rw [scanF_more f g (b.drop (n + 13)) (by simp; omega) (by simp; omega)]
theorem scan_none {b : List UInt8} (h : whole b = none) : scan b = ([], 0) := by unfold scan scanF; rw [h]
theorem scan_some {b : List UInt8} {n : Nat} (h : whole b = some n) : scan b = ((b.take (n + 9)).drop 9 :: (scan (b.drop (n + 13))).1, n + 13 + (scan (b.drop (n + 13))).2) := by
  have := (whole_some h).2.2.2.2.2.1
  have e : scanF b.length (b.drop (n + 13)) = scan (b.drop (n + 13)) := scanF_more _ _ _ (by simp; omega) (by omega)
  unfold scan
  rw [scanF, h]
  simp only
  rw [e]
  rfl

/-- Each in a block of its own. -/
def Apart (vs : List Value) : Prop := ∀ (i j : Nat) (u u' : Value), i < j → vs[i]? = some u → vs[j]? = some u' → ∀ g, u.ownBlock = some g → ¬ u'.ownBlock = some g
/-- A list of byte lists, all in memory of its own from B on. -/
def Ls (B : Nat) (w : World) (v : Value) (l : List (List UInt8)) : Prop :=
  ∃ vs : List Value, vs.length = l.length ∧ Own w 55 v vs ∧ (∀ g, v.ownBlock = some g → B ≤ g) ∧ ((∀ u ∈ vs, u.ownBlock ≠ v.ownBlock ∨ u.ownBlock = none) ∧ Apart vs) ∧
    ∀ (j : Nat) (r : List UInt8) (u : Value), l[j]? = some r → vs[j]? = some u → Own w 5 u (r.map bv) ∧ ∀ g, u.ownBlock = some g → B ≤ g
theorem Ls.nil (B : Nat) (w : World) : Ls B w (.slice none 0 0) [] := ⟨[], rfl, Own.nil w 55, (fun g hg => by cases hg), ⟨(fun u hu => by cases hu), fun i j u u' _ hi => by simp at hi⟩, fun j r u hr => by simp at hr⟩
theorem Ls.turn {B : Nat} {S : Nat → Prop} {w w' : World} {v : Value} {l : List (List UInt8)} (h : Ls B w v l) (t : Turn S w w') (hS : ∀ k, S k → k < B) : Ls B w' v l := by
  obtain ⟨vs, h1, h2, h3, h4, h5⟩ := h
  refine ⟨vs, h1, h2.turn t (fun g hg q => by have := h3 g hg; have := hS g q; omega), h3, h4, fun j r u hr hu => ?_⟩
  obtain ⟨a, b⟩ := h5 j r u hr hu
  exact ⟨a.turn t (fun g hg q => by have := b g hg; have := hS g q; omega), b⟩
theorem Ls.turn_no {B : Nat} {w w' : World} {v : Value} {l : List (List UInt8)} (h : Ls B w v l) (t : Turn no w w') : Ls B w' v l := h.turn t (fun _ q => q.elim)
theorem Ls.form {B : Nat} {w : World} {v : Value} {l : List (List UInt8)} (h : Ls B w v l) : ∃ a c, v = .slice a l.length c := by
  obtain ⟨vs, h1, h2, _⟩ := h
  rcases h2.shape with ⟨rfl, q⟩ | ⟨g, cap, cur, rfl, _⟩
  · have : l.length = 0 := by rw [← h1, q]; rfl
    exact ⟨none, 0, by rw [this]⟩
  · exact ⟨_, _, by rw [h1]⟩
theorem src_oneT {P : Program} {tx e' e : TypeId} (hk : P.underlying tx = some (.slice e')) (w : World) (u : Value) (hu : u.oneCell' = true) : Src P 1 tx (.slice (some ⟨w.heap.size, 0, none⟩) 1 1) 1 [u] (w.alloc (.cells #[u] e)) := by
  refine Src.ofSlice _ hk _ _ _ _ (by simp) (fun j x hx => ?_) (fun x hx => ?_)
  · rw [Addr.add_lit, cell_of_row _ w.heap.size (0 + j) #[u] e (0, 0) (heap_alloc_new w _)]
    simpa using hx
  · simp at hx
    subst hx
    exact hu
theorem info22 : (Tryd.prog.info? 55).map (fun i => (i.zero, i.size, i.bytes)) = some (some (.slice none 0 0), 1, 24) := by kernel_rfl
/-- One more. -/
theorem Ls.push {B : Nat} {w w1 w2 : World} {v v' u : Value} {l : List (List UInt8)} {r : List UInt8} (h : Ls B w v l) (t : Turn no w w1) (hu : Own w1 5 u (r.map bv)) (fu : ∀ g, u.ownBlock = some g → B ≤ g) (fn : ∀ g, u.ownBlock = some g → w.heap.size ≤ g) (hB : B ≤ w1.heap.size)
    (vs : List Value) (hvs : vs.length = l.length) (ho : Own w 55 v vs) (hf : ∀ g, v.ownBlock = some g → B ≤ g) (hne : (∀ u ∈ vs, u.ownBlock ≠ v.ownBlock ∨ u.ownBlock = none) ∧ Apart vs) (hel : ∀ (j : Nat) (r : List UInt8) (u : Value), l[j]? = some r → vs[j]? = some u → Own w 5 u (r.map bv) ∧ ∀ g, u.ownBlock = some g → B ≤ g)
    (hown : Own w2 55 v' (vs ++ [u])) (hg : Grew w1 w2 v v') : Ls B w2 v' (l ++ [r]) := by
  have hlt : ∀ x ∈ vs, ∀ g, x.ownBlock = some g → g < w1.heap.size := by
    intro x hx g hg
    obtain ⟨j, hj, rfl⟩ := List.mem_iff_getElem.1 hx
    have := (hel j (l[j]'(by omega)) vs[j] (List.getElem?_eq_getElem (by omega)) (List.getElem?_eq_getElem hj)).1.lt hg
    have := t.size
    omega
  have hv1 : ∀ g, v.ownBlock = some g → g < w.heap.size := fun g q => ho.lt q
  have hu1 : ∀ g, u.ownBlock = some g → g < w1.heap.size := fun g q => hu.lt q
  have hgt := hg.turn
  have hlt0 : ∀ x ∈ vs, ∀ g, x.ownBlock = some g → g < w.heap.size := by
    intro x hx g hg
    obtain ⟨j, hj, rfl⟩ := List.mem_iff_getElem.1 hx
    exact (hel j (l[j]'(by omega)) vs[j] (List.getElem?_eq_getElem (by omega)) (List.getElem?_eq_getElem hj)).1.lt hg
  refine ⟨vs ++ [u], by simp [hvs], hown, hg.fresh hf hB, ⟨fun x hx => ?_, fun i j x x' hij hi hj g q q' => ?_⟩, fun j r' u' hr hu' => ?_⟩
  · rcases List.mem_append.1 hx with hx | hx
    · rcases hne.1 x hx with q | q
      · rcases hg.blk with b | ⟨g, b, b1, _⟩
        · rw [b]; exact Or.inl q
        · refine Or.inl (fun e => ?_)
          rw [b] at e
          have := hlt x hx g e
          omega
      · exact Or.inr q
    · simp at hx
      subst hx
      cases hq : x.ownBlock with
      | none => exact Or.inr rfl
      | some g =>
        refine Or.inl (fun e => ?_)
        rcases hg.blk with b | ⟨g', b, b1, _⟩
        · rw [b] at e
          have := hv1 g e.symm
          have := fn g hq
          omega
        · rw [b] at e
          cases e
          have := hu1 _ hq
          omega
  · by_cases hjl : j < vs.length
    · rw [List.getElem?_append_left (by omega)] at hi
      rw [List.getElem?_append_left hjl] at hj
      exact hne.2 i j x x' hij hi hj g q q'
    · have hj2 := (List.getElem?_eq_some_iff.1 hj).1
      simp at hj2
      have hil : i < vs.length := by omega
      rw [List.getElem?_append_left hil] at hi
      rw [List.getElem?_append_right (by omega), show j - vs.length = 0 by omega] at hj
      simp at hj
      subst hj
      have := hlt0 x (List.mem_of_getElem? hi) g q
      have := fn g q'
      omega
  · by_cases hj : j < l.length
    · rw [List.getElem?_append_left hj] at hr
      rw [List.getElem?_append_left (by omega)] at hu'
      obtain ⟨a, b⟩ := hel j r' u' hr hu'
      refine ⟨(a.turn_no t).turn hgt (fun g q e => ?_), b⟩
      rcases hne.1 u' (List.mem_of_getElem? hu') with z | z
      · exact z (by rw [q]; exact e.symm)
      · rw [z] at q; cases q
    · rw [List.getElem?_append_right (by omega)] at hr
      rw [List.getElem?_append_right (by omega)] at hu'
      have e0 : j - l.length = 0 := by
        have := (List.getElem?_eq_some_iff.1 hr).1
        simp at this
        omega
      rw [e0] at hr
      rw [hvs, e0] at hu'
      simp at hr hu'
      subst hr hu'
      exact ⟨hu.turn hgt (fun g q e => by have := hv1 g e; have := fn g q; omega), fu⟩

theorem Hid.mk' {p : Prop} (h : p) : Hid p := h
theorem sub_checked {w : World} {b off cap : Nat} {r : List UInt8} (hL : LaidT w) (hc : r.length ≤ cap) (hme : cap ≤ maxLen) (hat : ∀ j, j < r.length → w.cell? ⟨b, off + j, none⟩ = some (.int .u8 (r.getD j 0).toNat)) (m : Nat) (h13 : 13 ≤ m) (hn : m ≤ r.length) (W : World) (t : Turn no w W) :
    Calls Tryd.prog 36 #[.slice (some ⟨b, off + 9, none⟩) (m - 9) (cap - 9)] W fun e w' => e = .returned (.bool (checkedB ((r.take m).drop 9))) ∧ Turn no W w' := by
  have h1 : 4 ≤ ((r.take m).drop 9).length := by rw [List.length_drop, List.length_take]; omega
  have H := bs_sub hc hme hat 9 m (by omega) hn
  have H2 := H.turn_no t
  have H3 := checked_any W _ _ H2 h1 (hL.turn_no t)
  exact H3
theorem sub_copied {w : World} {b off cap : Nat} {r : List UInt8} (hc : r.length ≤ cap) (hme : cap ≤ maxLen) (hat : ∀ j, j < r.length → w.cell? ⟨b, off + j, none⟩ = some (.int .u8 (r.getD j 0).toNat)) (k : Nat) (h9 : 9 ≤ k) (hn : k ≤ r.length) (hs : k ≤ 1000000) (W : World) (t : Turn no w W) :
    Calls Tryd.prog 39 #[.slice (some ⟨b, off + 9, none⟩) (k - 9) (cap - 9)] W fun e w' => ∃ v', e = .returned v' ∧ Own w' 5 v' (((r.take k).drop 9).map bv) ∧ v'.ownBlock = some W.heap.size ∧ Turn no W w' := by
  have h1 : ((r.take k).drop 9).length ≤ 140737488355328 := by rw [List.length_drop, List.length_take]; omega
  have H := bs_sub hc hme hat 9 k (by omega) (by omega)
  have H2 := H.turn_no t
  have H3 := copied40 W _ _ H2 h1
  exact H3

set_option maxRecDepth 100000 in
set_option maxHeartbeats 2000000 in
theorem scan_any (w : World) (v : Value) (bs : List UInt8) (hb : Bs w v bs) (hL : LaidT w) (hle : bs.length ≤ 1099511627776) :
    Calls Tryd.prog 15 #[v] w fun e w' => ∃ v', e = .returned (.tuple #[v', .int .i64 ((scan bs).2 : Nat)]) ∧ Ls w.heap.size w' v' (scan bs).1 ∧ Turn no w w' := by
  by_cases h0 : bs.length = 0
  · have e1 : bs = [] := List.eq_nil_of_length_eq_zero h0
    subst e1
    have hs : Hid (scan [] = ([], 0)) := rfl
    obtain ⟨a, c, rfl⟩ := hb.slice
    clear hb
    go_enter Tryd.func15, Tryd.ntmps15
    go_wp2_with fail
    go_step3
    go_wp2_with fail
    go_step3
    go_wp2_with fail
    go_loopw [4, 5] (fun r e wr => r = .slice none 0 0 ∧ e = .int .i64 0 ∧ wr = w) (fun _ _ _ => 0)
    case atStart => exact ⟨rfl, rfl, rfl⟩
    case round =>
      obtain ⟨rfl, rfl, rfl⟩ := hrel
      go_wp2_with fail
      all_goals (try rw [Exit.noGoto_ret]); all_goals (go_ret2; rw [hs.out]; exact ⟨_, rfl, Ls.nil _ _, Turn.refl _ _⟩)
  · obtain ⟨b, off, cap, rfl, hc, hm, hca⟩ := hb.atm (by omega)
    go_enter Tryd.func15, Tryd.ntmps15
    go_wp2_with fail
    go_step3
    go_wp2_with fail
    go_step3
    go_wp2_with fail
    go_loopw [4, 5] (fun r t5 wr => ∃ (e : Nat) (R : List (List UInt8)), e ≤ bs.length ∧ R.length ≤ e ∧ t5 = .int .i64 e ∧ Ls w.heap.size wr r R ∧ Turn no w wr ∧ scan bs = (R ++ (scan (bs.drop e)).1, e + (scan (bs.drop e)).2)) (fun _ t5 _ => bs.length - (intOf t5).toNat)
    case atStart => exact ⟨0, [], Nat.zero_le _, Nat.zero_le _, rfl, Ls.nil _ _, Turn.refl _ _, by simp⟩
    case round =>
      obtain ⟨e, R, he, hRe, rfl, hR, T, hS⟩ := hrel
      have HS : Hid (scan bs = (R ++ (scan (bs.drop e)).1, e + (scan (bs.drop e)).2)) := hS
      clear hS
      have hrl : (bs.drop e).length = bs.length - e := by simp
      have he' : (e : Int) ≤ (bs.length : Int) := by omega
      have FIN : whole (bs.drop e) = none → scan bs = (R, e) := fun hw => by rw [HS.out, scan_none hw]; simp
      obtain ⟨ra, rc, rfl⟩ := hR.form
      by_cases hA : bs.length - e < 9
      · have hA' : (bs.length : Int) - (e : Int) < 9 := by omega
        have hw : Hid (scan bs = (R, e)) := FIN (by unfold whole; rw [if_pos (by omega)])
        clear FIN HS
        go_wp2_with fail
        all_goals (try rw [Exit.noGoto_ret])
        all_goals (go_ret2; rw [hw.out]; exact ⟨_, rfl, hR, T⟩)
      · have hA' : ¬ (((bs.length - e : Nat) : Int) < 9) := by omega
        have hce : ¬ cap = e := by omega
        have hBr := bs_sub hc hm hca e bs.length (by omega) (Nat.le_refl _)
        rw [List.take_length] at hBr
        have hx0 : w.cell? ⟨b, off + e, none⟩ = some (.int .u8 ((bs.drop e).getD 0 0).toNat) := by
          have := hca e (by omega)
          rw [this, List.getD_eq_getElem?_getD, List.getD_eq_getElem?_getD, List.getElem?_drop]
          simp
        have hNe : e + (bs.length - e) = bs.length := by omega
        have hcape : bs.length - e ≤ cap - e := by omega
        have hme : cap - e ≤ maxLen := by omega
        have HSome : Hid (∀ n, whole (bs.drop e) = some n → scan bs = ((R ++ [((bs.drop e).take (n + 9)).drop 9]) ++ (scan (bs.drop (e + (n + 13)))).1, e + (n + 13) + (scan (bs.drop (e + (n + 13)))).2)) := fun n hn => by
          rw [HS.out, scan_some hn, List.drop_drop]
          simp [Nat.add_assoc]
        have hRest : ∃ r, bs.drop e = r := ⟨_, rfl⟩
        obtain ⟨r, hr⟩ := hRest
        rw [hr] at hBr hx0 HSome FIN hrl
        obtain ⟨N, hN⟩ : ∃ N, bs.length - e = N := ⟨_, rfl⟩
        obtain ⟨C, hC⟩ : ∃ C, cap - e = C := ⟨_, rfl⟩
        rw [hN] at hBr hrl hA hA' hNe hcape
        rw [hC] at hBr hcape hme
        clear hr HS
        have hat : ∀ j, j < r.length → w.cell? ⟨b, off + e + j, none⟩ = some (.int .u8 (r.getD j 0).toNat) := by
          obtain ⟨b', o', c', q, _, h⟩ := hBr.at (by omega)
          cases q
          exact h
        have hB9 := bs_sub (by omega) hme hat 0 9 (by omega) (by omega)
        rw [List.drop_zero] at hB9
        have C3 : Hid (∀ W, Turn no w W → Calls Tryd.prog 36 #[.slice (some ⟨b, off + e, none⟩) 9 C] W fun e w' => e = .returned (.bool (checkedB (r.take 9))) ∧ Turn no W w') := fun W t => checked_any W _ _ (hB9.turn_no t) (by simp; omega) (hL.turn_no t)
        have C4 : Hid (∀ W, Turn no w W → Calls Tryd.prog 37 #[.slice (some ⟨b, off + e, none⟩) N C] W fun e w' => e = .returned (.int .u32 (told r)) ∧ Turn no W w') := fun W t => sizeTold_any W _ _ (hBr.turn_no t) (by omega)
        have C5 : Hid (∀ W, Turn no w W → Calls Tryd.prog 38 #[.slice (some ⟨b, off + e, none⟩) N C] W fun e w' => e = .returned (.int .i64 ((told r + 13 : Nat) : Int)) ∧ Turn no W w') := fun W t => frameSize_any W _ _ (hBr.turn_no t) (by omega)
        have c6 := sub_checked hL (show r.length ≤ C by omega) hme hat
        have c7 := sub_copied (show r.length ≤ C by omega) hme hat
        rw [hrl] at c6 c7
        have C6 := Hid.mk' c6
        have C7 := Hid.mk' c7
        have FIN := Hid.mk' FIN
        have HW : Hid (whole r = if r.length < 9 then none else if r.getD 0 0 ≠ 167 then none else if checkedB (r.take 9) = false then none else if 262400 < told r then none else if r.length < told r + 13 then none else if checkedB ((r.take (told r + 13)).drop 9) = false then none else some (told r)) := rfl
        have htl := told_lt r
        have hx := T.keep hx0 (fun q => q)
        have hN9 : 9 ≤ N := by omega
        have hC9 : 9 ≤ C := by omega
        have hNI : ¬ ((N : Int) < 9) := by omega
        clear c6 c7 hat hB9 hBr hx0 hca hb hA hA'
        generalize r.getD 0 0 = x0 at *
        by_cases hB : x0 = 167
        case neg =>
          have hB' : (((x0.toNat : Nat) : Int) != 167) = true := by
            simp only [bne_iff_ne, ne_eq]
            intro q
            exact hB (UInt8.toNat_inj.1 (by show x0.toNat = 167; omega))
          have hw : Hid (scan bs = (R, e)) := FIN.out (by rw [HW.out, if_neg (by omega), if_pos hB])
          clear FIN HSome HW
          go_wp2_with fail
          all_goals (try rw [Exit.noGoto_ret])
          all_goals (go_ret2; rw [hw.out]; exact ⟨_, rfl, hR, T⟩)
        have hB' : (((x0.toNat : Nat) : Int) != 167) = false := by subst hB; rfl
        generalize checkedB (r.take 9) = k9 at *
        go_wp2_with fail
        clear hN hC hce hm hc he'
        refine (C3.out _ T).mono ?_
        rintro e' w1 ⟨rfl, t1⟩
        have T1 := T.then_no t1
        have R1 := hR.turn_no t1
        clear hR T t1 hx
        cases k9
        · have hw : Hid (scan bs = (R, e)) := FIN.out (by rw [HW.out, if_neg (by omega), if_neg (by simp [hB]), if_pos rfl])
          clear FIN HSome HW
          go_wp2_with fail
          all_goals (try rw [Exit.noGoto_ret])
          all_goals (go_ret2; rw [hw.out]; exact ⟨_, rfl, R1, T1⟩)
        go_wp2_with fail
        refine (C4.out _ T1).mono ?_
        rintro e' w2 ⟨rfl, t2⟩
        have T2 := T1.then_no t2
        have R2 := R1.turn_no t2
        clear R1 T1 t2
        by_cases hD : 262400 < told r
        · have hD' : (262400 : Int) < (told r : Int) := by omega
          have hw : Hid (scan bs = (R, e)) := FIN.out (by rw [HW.out, if_neg (by omega), if_neg (by simp [hB]), if_neg (by simp), if_pos hD])
          clear FIN HSome HW
          go_wp2_with fail
          all_goals (try rw [Exit.noGoto_ret])
          all_goals (go_ret2; rw [hw.out]; exact ⟨_, rfl, R2, T2⟩)
        have hD' : ¬ (262400 : Int) < (told r : Int) := by omega
        go_wp2_with fail
        refine (C5.out _ T2).mono ?_
        rintro e' w3 ⟨rfl, t3⟩
        have T3 := T2.then_no t3
        have R3 := R2.turn_no t3
        clear R2 T2 t3
        by_cases hE : N < told r + 13
        · have hE' : (N : Int) < ((told r + 13 : Nat) : Int) := by omega
          have hw : Hid (scan bs = (R, e)) := FIN.out (by rw [HW.out, if_neg (by omega), if_neg (by simp [hB]), if_neg (by simp), if_neg hD, if_pos (by omega)])
          clear FIN HSome HW
          go_wp2_with fail
          all_goals (try rw [Exit.noGoto_ret])
          all_goals (go_ret2; rw [hw.out]; exact ⟨_, rfl, R3, T3⟩)
        have hE' : ¬ (N : Int) < ((told r + 13 : Nat) : Int) := by omega
        obtain ⟨n, hn⟩ : ∃ n, told r = n := ⟨_, rfl⟩
        rw [hn] at C5 HW htl hD hE
        obtain ⟨m, hm⟩ : ∃ m, n + 13 = m := ⟨_, rfl⟩
        obtain ⟨k, hk⟩ : ∃ k, n + 9 = k := ⟨_, rfl⟩
        have c6 := Hid.mk' (C6.out m (by omega) (by omega))
        have c7 := Hid.mk' (C7.out k (by omega) (by omega) (by omega))
        have HSome := Hid.mk' (HSome.out n)
        rw [hm] at C5 HSome HW
        rw [hk] at HSome
        generalize checkedB ((r.take m).drop 9) = k13 at *
        have hl1 : (9 : Int) ≤ (m : Int) := by omega
        have hl2 : (m : Int) ≤ (C : Int) := by omega
        have hce9 : ¬ C = 9 := by omega
        have e3 : (m : Int) - 4 = (k : Int) := by omega
        have hl3 : (k : Int) ≤ (C : Int) := by omega
        have hl4 : (9 : Int) ≤ (k : Int) := by omega
        have hmN : ¬ N < m := by omega
        have hE' : ¬ (N : Int) < (m : Int) := by omega
        have hm13 : 13 ≤ m := by omega
        have heb : e + m ≤ bs.length := by omega
        have hD : ¬ 262400 < n := hD
        have hE := Hid.mk' hE
        have hD := Hid.mk' hD
        have hDk := Hid.mk' (show k ≤ 262409 by omega)
        clear hn hm hk hD'
        clear C3 C4 C6 C7
        go_wp2_with fail
        refine (C5.out _ T3).mono ?_
        rintro e' w4 ⟨rfl, t4⟩
        have T4 := T3.then_no t4
        have R4 := R3.turn_no t4
        clear R3 T3 t4
        go_wp2_with fail
        refine (c6.out _ T4).mono ?_
        rintro e' w5 ⟨rfl, t5⟩
        have T5 := T4.then_no t5
        have R5 := R4.turn_no t5
        clear R4 T4 t5 c6
        cases k13
        · have hw : Hid (scan bs = (R, e)) := FIN.out (by rw [HW.out, if_neg (by omega), if_neg (by simp [hB]), if_neg (by simp), if_neg hD.out, if_neg (by rw [hrl]; exact hmN), if_pos rfl])
          clear FIN HSome HW
          go_wp2_with fail
          all_goals (try rw [Exit.noGoto_ret])
          all_goals (go_ret2; rw [hw.out]; exact ⟨_, rfl, R5, T5⟩)
        have hS := HSome.out (by rw [HW.out, if_neg (by omega), if_neg (by simp [hB]), if_neg (by simp), if_neg hD.out, if_neg (by rw [hrl]; exact hmN), if_neg (by simp)])
        have hS := Hid.mk' hS
        clear FIN HSome HW
        go_wp2_with fail
        refine (C5.out _ T5).mono ?_
        rintro e' w6 ⟨rfl, t6⟩
        have T6 := T5.then_no t6
        have R6 := R5.turn_no t6
        clear R5 T5 t6
        go_wp2_with fail
        refine (c7.out _ T6).mono ?_
        rintro e' w7 ⟨u, rfl, hu, fu, t7⟩
        generalize (r.take k).drop 9 = rec at *
        have T7 := T6.then_no t7
        have R7 := R6.turn_no t7
        have fu7 : ∀ g, u.ownBlock = some g → w6.heap.size ≤ g := fun g q => by rw [fu] at q; cases q; exact Nat.le_refl _
        obtain ⟨ua, un, uc, rfl⟩ := hu.form
        obtain ⟨vs, q1, q2, q3, q4, q5⟩ := id R6
        have TA : Turn no w7 (w7.alloc (.cells #[.slice ua un uc] 55)) := (Turn.refl no w7).alloc _
        go_wp2_with (at_builtin; refine wpList_append_src rfl (.tmp 36) (.tmp 43) rfl Tryd.underlying28 info22 rfl _ vs rfl ((q2.turn_no t7).turn_no TA) _ 1 [.slice ua un uc] rfl ?src ?b ?m ?_)
        case src => exact src_oneT Tryd.underlying28 w7 _ rfl
        case b => rw [q1]; omega
        case m => rw [q1]; unfold maxLen; omega
        intro v8 w8 hown8 hg8 _
        have hg8 : Grew (w7.alloc (.cells #[.slice ua un uc] 55)) w8 (.slice ra R.length rc) v8 := hg8
        have R8 : Ls w.heap.size w8 v8 (R ++ [rec]) := by
          refine Ls.push R6 (t7.then_no TA) (hu.turn_no TA) (fun g q => Nat.le_trans T6.size (fu7 g q)) fu7 (Nat.le_trans T7.size TA.size) vs q1 q2 q3 q4 q5 hown8 hg8
        have T8 : Turn no w w8 := (T7.then_no TA).fresh hg8 q3
        obtain ⟨va, vn, vc, rfl⟩ := hown8.form
        clear hown8 hg8 R7 T7 t7 hu fu fu7 q2 q3 q4 q5 R6 T6 TA c7
        go_wp2_with fail
        refine (C5.out _ T8).mono ?_
        rintro e' w9 ⟨rfl, t9⟩
        have T9 := T8.then_no t9
        have R9 := R8.turn_no t9
        obtain ⟨em, hem⟩ : ∃ em, e + m = em := ⟨_, rfl⟩
        rw [hem] at hS heb
        have e5 : (e : Int) + (m : Int) = (em : Int) := by omega
        have e6 : (em : Int) ≤ 1099511627776 := by omega
        have hRm : Hid (R.length + 1 ≤ em) := by show R.length + 1 ≤ em; omega
        have hms : Hid (e < em) := by show e < em; omega
        clear R8 T8 t9 C5
        go_wp2_with fail
        go_roundw
        case rel => exact ⟨em, R ++ [rec], heb, by simpa using hRm.out, by go_num, R9, T9, hS.out⟩
        case measure => have := hms.out; simp [intOf]; omega
end Go.Proofs.YtbkbecjgphjpkabDoor
