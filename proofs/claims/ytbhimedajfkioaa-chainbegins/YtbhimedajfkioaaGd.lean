/- Texts in one. -/
import Derived.Test.YtbhimedajfkioaaGc
/- Turns: plain; who is foremost. -/
namespace Go.Proofs.Ytbhimedajfkioaa
open Go.RowKit
set_option linter.unusedVariables false

def up (t : Nat) (l : List Mb) : List Mb := l.map fun m => { m with pr := min (m.pr + m.pw) (7 * t) }
def bestN (l : List Mb) : Nat → Nat
  | 0 => 0
  | k + 1 => if (l.getD (bestN l k) mb0).pr < (l.getD k mb0).pr then k else bestN l k
def best (l : List Mb) : Nat := bestN l l.length
theorem bestN_le (l : List Mb) (k : Nat) : bestN l k ≤ k := by
  induction k with
  | zero => exact Nat.le_refl _
  | succ k ih =>
    rw [bestN]
    split <;> omega
theorem bestN_lt (l : List Mb) (k : Nat) (h : 0 < k) : bestN l k < k := by
  induction k with
  | zero => omega
  | succ k ih =>
    rw [bestN]
    split
    · omega
    · have := bestN_le l k
      omega
theorem bestN_succ (l : List Mb) (k : Nat) (m b : Mb) (hm : l[k]? = some m) (hb : l[bestN l k]? = some b) : bestN l (k + 1) = if b.pr < m.pr then k else bestN l k := by
  rw [bestN]
  simp [List.getD, hm, hb]
theorem scan_above (l : List Mb) : ∀ h, scan h l = 0 → ∀ m ∈ l, h < m.ad := by
  induction l with
  | nil => intro h _ m hm; cases hm
  | cons x r ih =>
    intro h hs m hm
    rw [scan] at hs
    split at hs
    · omega
    split at hs
    · omega
    split at hs
    · omega
    rcases List.mem_cons.1 hm with rfl | hm
    · omega
    · have := ih _ hs m hm
      omega
theorem scan_rising (l : List Mb) : ∀ h, scan h l = 0 → ∀ (i j : Nat) (a b : Mb), i < j → l[i]? = some a → l[j]? = some b → a.ad < b.ad := by
  induction l with
  | nil => intro h _ i j a b _ hi; simp at hi
  | cons x r ih =>
    intro h hs i j a b hij hi hj
    rw [scan] at hs
    split at hs
    · omega
    split at hs
    · omega
    split at hs
    · omega
    cases j with
    | zero => omega
    | succ j =>
      cases i with
      | zero =>
        simp at hi
        subst hi
        exact scan_above r _ hs b (List.mem_of_getElem? (by simpa using hj))
      | succ i => exact ih _ hs i j a b (by omega) (by simpa using hi) (by simpa using hj)

/-- Does the one come first? -/
def aheadB (a b : Mb) : Bool := decide (b.pr < a.pr) || (decide (a.pr = b.pr) && decide (a.ad < b.ad))

set_option maxRecDepth 100000 in
set_option maxHeartbeats 1000000 in
theorem ahead44 (w : World) (a : Option Addr) (n cap i k : Nat) (p : Addr) (l : List Mb) (hb : w.cell? p = some (.slice a n cap)) (M : MsAt w a cap l) (hn : l.length = n) (x y : Mb) (hx : l[i]? = some x) (hy : l[k]? = some y) :
    Calls Try.prog 122 #[.int .i64 i, .int .i64 k, .pointer (some p)] w fun e w' => e = .returned (.bool (aheadB x y)) ∧ Turn no w w' := by
  have hi : i < n := by rw [← hn]; exact (List.getElem?_eq_some_iff.1 hx).1
  have hk : k < n := by rw [← hn]; exact (List.getElem?_eq_some_iff.1 hy).1
  obtain ⟨b, off, rfl, c0, c1, c2⟩ := M.cells i x hx
  obtain ⟨b', off', e', d0, d1, d2⟩ := M.cells k y hy
  cases e'
  have hcap : n ≤ 9223372036854775807 := by have := M.le; have := M.cap; simp only [maxLen] at this; omega
  clear M hx hy hn
  have hi' : (i : Int) < (n : Int) := by omega
  have hk' : (k : Int) < (n : Int) := by omega
  go_enter Try.func122, Try.ntmps122
  go_wp2_with fail
  refine wp_region_held_drew (S := fun W => Turn no w W) (by kernel_rfl) (Turn.refl _ w).drew (fun hHeld => ?_)
  refine' wpAnyH_take (i := 0) (v := .slice (some ⟨b, off, none⟩) n cap) rfl (by kernel_rfl) (by kernel_rfl) (by kernel_rfl) (fun _ _ _ h => h) (Or.inl ⟨by kernel_rfl, fun W hW => ?y1⟩) hHeld ?r1
  · have c := hW.keep hb (fun q => q)
    go_simp
  refine' wpAnyH_take (i := 1) (v := .int .i64 i) rfl (by kernel_rfl) (by kernel_rfl) (by kernel_rfl) (fun _ _ _ h => h) (Or.inl ⟨by kernel_rfl, fun W hW => ?y2⟩) hHeld ?r2
  · go_simp
  refine' wpAnyH_take (i := 2) (v := .pointer (some ⟨b, off + i * 3, none⟩)) rfl (by kernel_rfl) (by kernel_rfl) (by kernel_rfl) (fun _ _ _ h => h) (Or.inl ⟨by kernel_rfl, fun W hW => ?y3⟩) hHeld ?r3
  · go_simp
  refine' wpAnyH_take (i := 3) (v := .agg #[.int .u64 x.ad, .int .u64 x.pw, .int .i64 x.pr]) rfl (by kernel_rfl) (by kernel_rfl) (by kernel_rfl) (fun _ _ _ h => h) (Or.inl ⟨by kernel_rfl, fun W hW => ?y4⟩) hHeld ?r4
  · have c0 := hW.keep c0 (fun q => q)
    have c1 := hW.keep c1 (fun q => q)
    have c2 := hW.keep c2 (fun q => q)
    go_simp
  refine' wpAnyH_take (i := 4) (v := .slice (some ⟨b, off, none⟩) n cap) rfl (by kernel_rfl) (by kernel_rfl) (by kernel_rfl) (fun _ _ _ h => h) (Or.inl ⟨by kernel_rfl, fun W hW => ?y5⟩) hHeld ?r5
  · have c := hW.keep hb (fun q => q)
    go_simp
  refine' wpAnyH_take (i := 5) (v := .int .i64 k) rfl (by kernel_rfl) (by kernel_rfl) (by kernel_rfl) (fun _ _ _ h => h) (Or.inl ⟨by kernel_rfl, fun W hW => ?y6⟩) hHeld ?r6
  · go_simp
  refine' wpAnyH_take (i := 6) (v := .pointer (some ⟨b, off + k * 3, none⟩)) rfl (by kernel_rfl) (by kernel_rfl) (by kernel_rfl) (fun _ _ _ h => h) (Or.inl ⟨by kernel_rfl, fun W hW => ?y7⟩) hHeld ?r7
  · go_simp
  refine' wpAnyH_take (i := 7) (v := .agg #[.int .u64 y.ad, .int .u64 y.pw, .int .i64 y.pr]) rfl (by kernel_rfl) (by kernel_rfl) (by kernel_rfl) (fun _ _ _ h => h) (Or.inl ⟨by kernel_rfl, fun W hW => ?y8⟩) hHeld ?r8
  · have c0 := hW.keep d0 (fun q => q)
    have c1 := hW.keep d1 (fun q => q)
    have c2 := hW.keep d2 (fun q => q)
    go_simp
  refine wpAnyH_ready (rs := [8, 9]) (by kernel_rfl) (by simp) ?_
  refine AllReadyH.cons rfl (fun K hK => ?_) (AllReadyH.cons rfl (fun K hK => ?_) AllReadyH.nil)
  · go_simp
    refine hK.out _ _ ((Turn.refl no w).alloc _).drew (fun hHeld => ?_)
    clear hK
    refine wpAnyH_ready (rs := [9]) (by kernel_rfl) (by simp) ?_
    refine AllReadyH.cons rfl (fun K hK => ?_) AllReadyH.nil
    go_simp
    refine hK.out _ _ (((Turn.refl no w).alloc _).alloc _).drew (fun hHeld => ?_)
    clear hK
    refine wpAnyH_ready (rs := [10]) (by kernel_rfl) (by simp) ?_
    refine AllReadyH.cons rfl (fun K hK => ?_) AllReadyH.nil
    go_simp
    refine hK.out _ _ (((Turn.refl no w).alloc _).alloc _).drew (fun hHeld => ?_)
    clear hK
    refine wpAnyH_ready (rs := [11]) (by kernel_rfl) (by simp) ?_
    refine AllReadyH.cons rfl (fun K hK => ?_) AllReadyH.nil
    go_simp
    refine hK.out _ _ (((Turn.refl no w).alloc _).alloc _).drew (fun hHeld => ?_)
    clear hK
    refine wpAnyH_done (by kernel_rfl) ?_ _
    clear hHeld c0 c1 c2 d0 d1 d2 hb
    by_cases a1 : y.pr < x.pr
    · have HE : Hid (aheadB x y = true) := by show aheadB x y = _; simp [aheadB, a1]
      go_wp2_with fail
      go_ret
      exact ⟨congrArg Ending.returned (congrArg Value.bool HE.out.symm), (((Turn.refl no w).alloc _).alloc _).drew⟩
    by_cases a2 : x.pr = y.pr
    · have a2' : (x.pr == y.pr) = true := by simp [a2]
      have a1' : decide (y.pr < x.pr) = false := by simp [a1]
      by_cases a3 : x.ad < y.ad
      · have HE : Hid (aheadB x y = true) := by show aheadB x y = _; simp [aheadB, a2, a3]
        have a3' : (x.ad : Int) < (y.ad : Int) := by omega
        clear a2 a3
        go_wp2_with fail
        go_ret
        exact ⟨congrArg Ending.returned (congrArg Value.bool HE.out.symm), (((Turn.refl no w).alloc _).alloc _).drew⟩
      · have HE : Hid (aheadB x y = false) := by show aheadB x y = _; simp [aheadB, a2, a3]
        have a3' : ¬ (x.ad : Int) < (y.ad : Int) := by omega
        clear a2 a3
        go_wp2_with fail
        go_ret
        exact ⟨congrArg Ending.returned (congrArg Value.bool HE.out.symm), (((Turn.refl no w).alloc _).alloc _).drew⟩
    · have a2' : (x.pr == y.pr) = false := by simp [a2]
      have HE : Hid (aheadB x y = false) := by show aheadB x y = _; simp [aheadB, a1, a2]
      clear a2
      go_wp2_with fail
      go_ret
      exact ⟨congrArg Ending.returned (congrArg Value.bool HE.out.symm), (((Turn.refl no w).alloc _).alloc _).drew⟩
  · go_simp
    refine hK.out _ _ ((Turn.refl no w).alloc _).drew (fun hHeld => ?_)
    clear hK
    refine wpAnyH_ready (rs := [8]) (by kernel_rfl) (by simp) ?_
    refine AllReadyH.cons rfl (fun K hK => ?_) AllReadyH.nil
    go_simp
    refine hK.out _ _ (((Turn.refl no w).alloc _).alloc _).drew (fun hHeld => ?_)
    clear hK
    refine wpAnyH_ready (rs := [10]) (by kernel_rfl) (by simp) ?_
    refine AllReadyH.cons rfl (fun K hK => ?_) AllReadyH.nil
    go_simp
    refine hK.out _ _ (((Turn.refl no w).alloc _).alloc _).drew (fun hHeld => ?_)
    clear hK
    refine wpAnyH_ready (rs := [11]) (by kernel_rfl) (by simp) ?_
    refine AllReadyH.cons rfl (fun K hK => ?_) AllReadyH.nil
    go_simp
    refine hK.out _ _ (((Turn.refl no w).alloc _).alloc _).drew (fun hHeld => ?_)
    clear hK
    refine wpAnyH_done (by kernel_rfl) ?_ _
    clear hHeld c0 c1 c2 d0 d1 d2 hb
    by_cases a1 : y.pr < x.pr
    · have HE : Hid (aheadB x y = true) := by show aheadB x y = _; simp [aheadB, a1]
      go_wp2_with fail
      go_ret
      exact ⟨congrArg Ending.returned (congrArg Value.bool HE.out.symm), (((Turn.refl no w).alloc _).alloc _).drew⟩
    by_cases a2 : x.pr = y.pr
    · have a2' : (x.pr == y.pr) = true := by simp [a2]
      have a1' : decide (y.pr < x.pr) = false := by simp [a1]
      by_cases a3 : x.ad < y.ad
      · have HE : Hid (aheadB x y = true) := by show aheadB x y = _; simp [aheadB, a2, a3]
        have a3' : (x.ad : Int) < (y.ad : Int) := by omega
        clear a2 a3
        go_wp2_with fail
        go_ret
        exact ⟨congrArg Ending.returned (congrArg Value.bool HE.out.symm), (((Turn.refl no w).alloc _).alloc _).drew⟩
      · have HE : Hid (aheadB x y = false) := by show aheadB x y = _; simp [aheadB, a2, a3]
        have a3' : ¬ (x.ad : Int) < (y.ad : Int) := by omega
        clear a2 a3
        go_wp2_with fail
        go_ret
        exact ⟨congrArg Ending.returned (congrArg Value.bool HE.out.symm), (((Turn.refl no w).alloc _).alloc _).drew⟩
    · have a2' : (x.pr == y.pr) = false := by simp [a2]
      have HE : Hid (aheadB x y = false) := by show aheadB x y = _; simp [aheadB, a1, a2]
      clear a2
      go_wp2_with fail
      go_ret
      exact ⟨congrArg Ending.returned (congrArg Value.bool HE.out.symm), (((Turn.refl no w).alloc _).alloc _).drew⟩

/-- Addresses rise. -/
def Rising (l : List Mb) : Prop := ∀ (i j : Nat) (a b : Mb), i < j → l[i]? = some a → l[j]? = some b → a.ad < b.ad

set_option maxRecDepth 100000 in
set_option maxHeartbeats 1000000 in
theorem foremost43 (w : World) (v : Value) (l : List Mb) (h : Ms w v l) (h0 : 0 < l.length) (hr : Rising l) : Calls Try.prog 113 #[v] w fun e w' => e = .returned (.int .i64 (best l)) ∧ Turn no w w' := by
  have T0 : Turn no w (w.alloc (.cells #[v] 22)) := (Turn.refl no w).alloc _
  have B0 := Bx.new w v 22
  obtain ⟨ad, cap, rfl, h⟩ := h
  have M0 := h.turn_no T0
  have hle : l.length ≤ 9223372036854775807 := by have := h.le; have := h.cap; simp only [maxLen] at this; omega
  clear h
  have hbe : best l = bestN l l.length := rfl
  obtain ⟨n, hn⟩ : ∃ n, Hid (l.length = n) := ⟨_, rfl⟩
  have hn' : l.length = n := hn.out
  rw [hn'] at hle T0 B0 M0 h0 hbe ⊢
  clear hn'
  have HB : Hid (best l = bestN l n) := hbe
  clear hbe
  have hmf : ∀ (fn : Fn) (first cap : Array Value) (w : World), (Instr.makeFunc fn first cap).run Try.prog w = .ok (.func fn first cap) w := fun _ _ _ _ => rfl
  go_enter Try.func113, Try.ntmps113
  go_wp2_with fail
  generalize w.alloc (.cells #[.slice ad n cap] 22) = w0 at *
  go_loopw [4, 9] (fun x c wr => ∃ k : Nat, k ≤ n ∧ c = .int .i64 k ∧ x = .int .i64 (bestN l k) ∧ Turn no w0 wr) (fun _ c _ => n - (intOf c).toNat)
  case atStart => exact ⟨0, by omega, rfl, rfl, Turn.refl _ _⟩
  case round =>
    obtain ⟨k, hk, rfl, rfl, T⟩ := hrel
    by_cases hlt : k < n
    · obtain ⟨m, hm⟩ : ∃ m, l[k]? = some m := ⟨l[k]'(by rw [hn.out]; exact hlt), List.getElem?_eq_getElem _⟩
      have hbk := bestN_le l k
      obtain ⟨y, hy⟩ : ∃ y, l[bestN l k]? = some y := ⟨l[bestN l k]'(by rw [hn.out]; omega), List.getElem?_eq_getElem _⟩
      have hlt' : (k : Int) < (n : Int) := by omega
      have hcl := ahead44 wr ad n cap k (bestN l k) ⟨w.heap.size, 0, none⟩ l (T.keep B0.c (fun q => q)) (M0.turn_no T) hn.out m y hm hy
      have HS : Hid (bestN l (k + 1) = if y.pr < m.pr then k else bestN l k) := bestN_succ l k m y hm hy
      have hah : aheadB m y = decide (y.pr < m.pr) := by
        rcases Nat.lt_or_ge (bestN l k) k with q | q
        · have := hr _ _ _ _ q hy hm
          simp [aheadB]
          omega
        · have e : bestN l k = k := by omega
          rw [e, hm] at hy
          cases hy
          simp [aheadB]
      rw [hah] at hcl
      clear hah hm hy hr M0
      obtain ⟨bk, hbk'⟩ : ∃ bk, Hid (bestN l k = bk) := ⟨_, rfl⟩
      rw [show bestN l k = bk from hbk'.out] at hcl HS ⊢
      by_cases a1 : y.pr < m.pr
      · rw [show decide (y.pr < m.pr) = true by simp [a1]] at hcl
        have HS2 : Hid (bestN l (k + 1) = k) := by have := HS.out; rw [if_pos a1] at this; exact this
        clear HS a1
        go_wp2_with fail
        refine hcl.mono ?_
        rintro e w1 ⟨rfl, T1⟩
        have T2 := T.then_no T1
        clear hcl
        go_wp2_with fail
        go_roundw
        case rel => exact ⟨k + 1, by omega, by go_num, by rw [HS2.out], T2⟩
        case measure => simp [intOf]; omega
      · rw [show decide (y.pr < m.pr) = false by simp [a1]] at hcl
        have HS2 : Hid (bestN l (k + 1) = bk) := by have := HS.out; rw [if_neg a1] at this; exact this
        clear HS a1
        go_wp2_with fail
        refine hcl.mono ?_
        rintro e w1 ⟨rfl, T1⟩
        have T2 := T.then_no T1
        clear hcl
        go_wp2_with fail
        go_roundw
        case rel => exact ⟨k + 1, by omega, by go_num, by rw [HS2.out], T2⟩
        case measure => simp [intOf]; omega
    · have hkn : k = n := by omega
      subst hkn
      have hlt' : ¬ (k : Int) < (k : Int) := by omega
      go_wp2_with fail
      go_ret
      exact ⟨ret_i (by rw [HB.out]), T0.then_no T⟩
end Go.Proofs.Ytbhimedajfkioaa

/- One turn of the program. -/
namespace Go.Proofs.Ytbhimedajfkioaa
open Go.RowKit
set_option linter.unusedVariables false

/-- The first k are f's. -/
def mapTo (f : Mb → Mb) (l : List Mb) (k : Nat) : List Mb := (l.take k).map f ++ l.drop k
theorem mapTo_zero (f : Mb → Mb) (l : List Mb) : mapTo f l 0 = l := by simp [mapTo]
theorem mapTo_len (f : Mb → Mb) (l : List Mb) (k : Nat) : (mapTo f l k).length = l.length := by simp [mapTo]; omega
theorem mapTo_at (f : Mb → Mb) (l : List Mb) (k : Nat) (m : Mb) (h : l[k]? = some m) : (mapTo f l k)[k]? = some m := by
  have hk := (List.getElem?_eq_some_iff.1 h).1
  unfold mapTo
  rw [List.getElem?_append_right (by simp; omega)]
  simp [show min k l.length = k by omega, h]
theorem mapTo_succ (f : Mb → Mb) (l : List Mb) (k : Nat) (m : Mb) (h : l[k]? = some m) : (mapTo f l k).set k (f m) = mapTo f l (k + 1) := by
  have hk := (List.getElem?_eq_some_iff.1 h).1
  unfold mapTo
  rw [List.set_append_right _ _ (by simp; omega), drop_at l k m h, List.take_add_one, h]
  simp [show k - min k l.length = 0 by omega]
theorem mapTo_all (f : Mb → Mb) (l : List Mb) (n : Nat) (h : l.length = n) : mapTo f l n = l.map f := by subst h; simp [mapTo]

def upM (t : Nat) (m : Mb) : Mb := { m with pr := min (m.pr + m.pw) (7 * t) }
theorem up_map (t : Nat) (l : List Mb) : up t l = l.map (upM t) := rfl
def downM (t : Nat) (m : Mb) : Mb := { m with pr := max (m.pr - t) (-(7 * (t : Int))) }
/-- One turn. -/
def turnL (t : Nat) (l : List Mb) : List Mb := (up t l).set (best (up t l)) (downM t ((up t l).getD (best (up t l)) mb0))
/-- Within the bounds. -/
def InR (t : Nat) (l : List Mb) : Prop := ∀ m ∈ l, -(7 * (t : Int)) ≤ m.pr ∧ m.pr ≤ 7 * t ∧ m.pw ≤ t
theorem up_len (t : Nat) (l : List Mb) : (up t l).length = l.length := by simp [up]
theorem turn_len (t : Nat) (l : List Mb) : (turnL t l).length = l.length := by simp [turnL, up_len]
theorem InR.up {t : Nat} {l : List Mb} (h : InR t l) : InR t (up t l) := fun m hm => by
  obtain ⟨x, hx, rfl⟩ := List.mem_map.1 hm
  have := h x hx
  simp only
  omega
theorem best_lt (l : List Mb) (h : 0 < l.length) : best l < l.length := bestN_lt l _ h
theorem InR.turn {t : Nat} {l : List Mb} (h : InR t l) : InR t (turnL t l) := fun m hm => by
  rcases List.mem_or_eq_of_mem_set hm with hm | rfl
  · exact h.up m hm
  · by_cases h0 : 0 < l.length
    · have hb := best_lt (Ytbhimedajfkioaa.up t l) (by rw [up_len]; exact h0)
      have hx := h.up _ (List.getElem_mem hb)
      have e : (Ytbhimedajfkioaa.up t l).getD (best (Ytbhimedajfkioaa.up t l)) mb0 = (Ytbhimedajfkioaa.up t l)[best (Ytbhimedajfkioaa.up t l)] := by simp [List.getD, hb]
      rw [e]
      generalize (Ytbhimedajfkioaa.up t l)[best (Ytbhimedajfkioaa.up t l)] = x at hx
      simp only [downM]
      omega
    · have : l = [] := List.eq_nil_of_length_eq_zero (by omega)
      subst this
      simp [turnL, Ytbhimedajfkioaa.up] at hm
/-- Addresses and powers, one by one. -/
def keys (l : List Mb) : List (Nat × Nat) := l.map fun m => (m.ad, m.pw)
theorem keys_up (t : Nat) (l : List Mb) : keys (up t l) = keys l := by simp [keys, up, Function.comp_def]
theorem keys_set (l : List Mb) (k : Nat) (m x : Mb) (h : l[k]? = some m) (h1 : x.ad = m.ad) (h2 : x.pw = m.pw) : keys (l.set k x) = keys l := by
  unfold keys
  rw [List.map_set]
  apply List.ext_getElem?
  intro j
  rw [List.getElem?_set]
  split
  · rename_i e
    subst e
    have hk := (List.getElem?_eq_some_iff.1 h).1
    rw [if_pos (by simpa using hk), List.getElem?_map, h]
    simp [h1, h2]
  · rfl
theorem keys_turn (t : Nat) (l : List Mb) : keys (turnL t l) = keys l := by
  by_cases h0 : 0 < l.length
  · have hb := best_lt (up t l) (by rw [up_len]; exact h0)
    have e : (up t l)[best (up t l)]? = some ((up t l).getD (best (up t l)) mb0) := by simp [List.getD, hb]
    unfold turnL
    rw [keys_set _ _ _ (downM t _) e rfl rfl, keys_up]
  · have : l = [] := List.eq_nil_of_length_eq_zero (by omega)
    subst this
    rfl
theorem keys_len {l l' : List Mb} (h : keys l = keys l') : l.length = l'.length := by
  have := congrArg List.length h
  simpa [keys] using this
theorem keys_get {l l' : List Mb} (h : keys l = keys l') (i : Nat) (a : Mb) (ha : l[i]? = some a) : ∃ b, l'[i]? = some b ∧ b.ad = a.ad ∧ b.pw = a.pw := by
  have e := congrArg (·[i]?) h
  simp only [keys, List.getElem?_map, ha, Option.map_some] at e
  cases hb : l'[i]? with
  | none => rw [hb] at e; simp at e
  | some b =>
    rw [hb] at e
    simp at e
    exact ⟨b, rfl, e.1.symm, e.2.symm⟩
theorem Rising.keys {l l' : List Mb} (h : Rising l) (e : keys l' = keys l) : Rising l' := fun i j a b hij ha hb => by
  obtain ⟨a', ha', e1, _⟩ := keys_get e i a ha
  obtain ⟨b', hb', e2, _⟩ := keys_get e j b hb
  have := h i j a' b' hij ha' hb'
  omega
theorem keys_scan {l : List Mb} : ∀ {l' : List Mb} (h : Nat), keys l = keys l' → scan h l = scan h l' := by
  induction l with
  | nil => intro l' h e; cases l' with
    | nil => rfl
    | cons x r => simp [keys] at e
  | cons x r ih =>
    intro l' h e
    cases l' with
    | nil => simp [keys] at e
    | cons y s =>
      simp [keys] at e
      obtain ⟨⟨e1, e2⟩, e3⟩ := e
      have := ih (l' := s) x.ad (by simpa [keys] using e3)
      simp only [scan]
      rw [e1, e2]
      rw [e1] at this
      rw [this]
theorem keys_tot {l : List Mb} : ∀ {l' : List Mb}, keys l = keys l' → tot l = tot l' := by
  induction l with
  | nil => intro l' e; cases l' with
    | nil => rfl
    | cons x r => simp [keys] at e
  | cons x r ih =>
    intro l' e
    cases l' with
    | nil => simp [keys] at e
    | cons y s =>
      simp [keys] at e
      obtain ⟨⟨e1, e2⟩, e3⟩ := e
      have := ih (l' := s) (by simpa [keys] using e3)
      simp only [tot]
      omega
theorem keys_weigh {l l' : List Mb} (h : keys l = keys l') : weighE l = weighE l' := by
  unfold weighE
  rw [keys_len h, keys_scan 0 h, keys_tot h]

set_option maxRecDepth 100000 in
set_option maxHeartbeats 1000000 in
theorem turn34 (w : World) (g cap t : Nat) (l : List Mb) (R : Rw w g cap l) (hin : InR t l) (ht : t ≤ 1152921504606846975) (h0 : 0 < l.length) (hr : Rising l) :
    Calls Try.prog 91 #[.slice (some ⟨g, 0, none⟩) l.length cap, .int .u64 t] w fun e w' => e = .returned (.int .i64 (best (up t l))) ∧ Rw w' g cap (turnL t l) ∧ Turn (fun b => b = g) w w' := by
  have hle : l.length ≤ 9223372036854775807 := by have := R.le; have := R.most; simp only [maxLen] at this; omega
  have hru : Rising (up t l) := hr.keys (keys_up t l)
  have hul := up_len t l
  have hgw := R.lt
  obtain ⟨n, hn⟩ : ∃ n, Hid (l.length = n) := ⟨_, rfl⟩
  have hn' : l.length = n := hn.out
  rw [hn'] at hle h0 hul ⊢
  clear hn'
  go_enter Try.func91, Try.ntmps91
  go_wp2_with fail
  go_loopw [16] (fun c wr => ∃ k : Nat, k ≤ n ∧ c = .int .i64 k ∧ Rw wr g cap (mapTo (upM t) l k) ∧ Turn (fun b => b = g) w wr) (fun c _ => n - (intOf c).toNat)
  case atStart => exact ⟨0, by omega, rfl, by rw [mapTo_zero]; exact R, Turn.refl _ _⟩
  case round =>
    clear R
    obtain ⟨k, hk, rfl, R, T⟩ := hrel
    by_cases hlt : k < n
    · obtain ⟨m, hm⟩ : ∃ m, l[k]? = some m := ⟨l[k]'(by rw [hn.out]; exact hlt), List.getElem?_eq_getElem _⟩
      have hlt' : (k : Int) < (n : Int) := by omega
      obtain ⟨i1, i2, i3⟩ := hin m (List.mem_of_getElem? hm)
      have TA : Turn no wr (wr.alloc (.cells #[.int .u64 m.ad, .int .u64 m.pw, .int .i64 m.pr] 71)) := (Turn.refl no wr).alloc _
      have R1 := R.turn_no TA
      have hgr := R.lt
      have R2 := R.set k m (mapTo_at _ l k m hm) (min (m.pr + m.pw) (7 * t)) (by omega)
      have hms := mapTo_succ (upM t) l k m hm
      rw [show upM t m = { m with pr := min (m.pr + m.pw) (7 * t) } from rfl] at hms
      rw [hms] at R2
      have R2 := R2.turn_no ((Turn.refl no _).alloc (.cells #[.int .u64 m.ad, .int .u64 m.pw, .int .i64 m.pr] 71))
      obtain ⟨c0, c1, c2⟩ := R.cells k m (mapTo_at _ l k m hm)
      obtain ⟨d0, d1, d2⟩ := R1.cells k m (mapTo_at _ l k m hm)
      have f2 := R1.frozen (k * 3 + 2)
      have T2 := (T.setCell (p := ⟨g, k * 3 + 2, none⟩) (fun _ => rfl) (.int .i64 (min (m.pr + m.pw) (7 * t)))).alloc (.cells #[.int .u64 m.ad, .int .u64 m.pw, .int .i64 m.pr] 71)
      clear hm R R1 hms hin hr hru TA
      by_cases a1 : 7 * (t : Int) < m.pr + (m.pw : Int)
      · have e : min (m.pr + m.pw) (7 * (t : Int)) = 7 * t := by omega
        rw [e] at R2 T2
        clear e
        go_wp2_with fail
        go_roundw
        case rel => exact ⟨k + 1, by omega, by go_num, R2, T2⟩
        case measure => simp [intOf]; omega
      · have e : min (m.pr + m.pw) (7 * (t : Int)) = m.pr + m.pw := by omega
        rw [e] at R2 T2
        clear e
        go_wp2_with fail
        go_roundw
        case rel => exact ⟨k + 1, by omega, by go_num, R2, T2⟩
        case measure => simp [intOf]; omega
    · have hkn : k = n := by omega
      subst hkn
      have hlt' : ¬ (k : Int) < (k : Int) := by omega
      rw [mapTo_all _ l k hn.out, ← up_map] at R
      have hfo := foremost43 wr (.slice (some ⟨g, 0, none⟩) k cap) (up t l) ⟨_, cap, by rw [hul], R.at⟩ (by omega) hru
      have hbl := best_lt (up t l) (by omega)
      have hiu := hin.up
      obtain ⟨x, hx⟩ : ∃ x, (up t l)[best (up t l)]? = some x := ⟨_, List.getElem?_eq_getElem hbl⟩
      obtain ⟨i1, i2, i3⟩ := hiu x (List.mem_of_getElem? hx)
      have HTL : Hid (turnL t l = (up t l).set (best (up t l)) { x with pr := max (x.pr - t) (-(7 * (t : Int))) }) := by
        show turnL t l = _
        unfold turnL
        simp [List.getD, hx, downM]
      rw [hul] at hbl
      obtain ⟨bb, hbb⟩ : ∃ bb, Hid (best (up t l) = bb) := ⟨_, rfl⟩
      rw [show best (up t l) = bb from hbb.out] at hfo hbl hx HTL
      clear hin hr hru hiu
      go_wp2_with fail
      refine hfo.mono ?_
      rintro e w1 ⟨rfl, T1⟩
      have R1 := R.turn_no T1
      have TT := T.then_no T1
      have hgr := R1.lt
      have R2 := R1.set bb x hx (max (x.pr - t) (-(7 * (t : Int)))) (by omega)
      rw [← HTL.out] at R2
      obtain ⟨c0, c1, c2⟩ := R1.cells bb x hx
      have f2 := R1.frozen (bb * 3 + 2)
      have T2 := TT.setCell (p := ⟨g, bb * 3 + 2, none⟩) (fun _ => rfl) (.int .i64 (max (x.pr - t) (-(7 * (t : Int)))))
      have hbl' : (bb : Int) < (k : Int) := by omega
      clear hfo R R1 hx HTL TT hul
      by_cases a1 : x.pr - (t : Int) < -(7 * (t : Int))
      · have e : max (x.pr - t) (-(7 * (t : Int))) = -(7 * (t : Int)) := by omega
        rw [e] at R2 T2
        clear e
        go_wp2_with fail
        go_ret
        exact ⟨ret_i (by rw [hbb.out]), R2, T2⟩
      · have e : max (x.pr - t) (-(7 * (t : Int))) = x.pr - t := by omega
        rw [e] at R2 T2
        clear e
        go_wp2_with fail
        go_ret
        exact ⟨ret_i (by rw [hbb.out]), R2, T2⟩
end Go.Proofs.Ytbhimedajfkioaa

/- Turn and Proposer of the program. -/
namespace Go.Proofs.Ytbhimedajfkioaa
open Go.RowKit
set_option linter.unusedVariables false

/-- So many turns. -/
def turnsN (t : Nat) (l : List Mb) : Nat → List Mb
  | 0 => l
  | k + 1 => turnL t (turnsN t l k)
/-- Who is chosen in turn k + 1. -/
def propN (t : Nat) (l : List Mb) (k : Nat) : Nat := ((turnsN t l (k + 1)).getD (best (up t (turnsN t l k))) mb0).ad
theorem turns_len (t : Nat) (l : List Mb) (k : Nat) : (turnsN t l k).length = l.length := by
  induction k with
  | zero => rfl
  | succ k ih => rw [turnsN, turn_len, ih]
theorem turns_keys (t : Nat) (l : List Mb) (k : Nat) : keys (turnsN t l k) = keys l := by
  induction k with
  | zero => rfl
  | succ k ih => rw [turnsN, keys_turn, ih]
theorem turns_in {t : Nat} {l : List Mb} (h : InR t l) (k : Nat) : InR t (turnsN t l k) := by
  induction k with
  | zero => exact h
  | succ k ih => exact ih.turn
theorem pw_le_tot (l : List Mb) : ∀ m ∈ l, m.pw ≤ tot l := by
  induction l with
  | nil => intro m hm; cases hm
  | cons x r ih =>
    intro m hm
    rcases List.mem_cons.1 hm with rfl | hm
    · simp [tot]
    · have := ih m hm
      simp [tot]
      omega
theorem sound_in (l : List Mb) (h : soundE l = 0) : InR (tot l) l := fun m hm => by
  have := (sound_ok l h).2 m hm
  exact ⟨this.1, this.2, pw_le_tot l m hm⟩
theorem weigh_rising (l : List Mb) (h : weighE l = 0) : Rising l := scan_rising l 0 (weigh_ok l h).2.2.1
theorem tot_le_top (l : List Mb) (h : weighE l = 0) : tot l ≤ 1152921504606846975 := (weigh_ok l h).2.2.2

set_option maxRecDepth 100000 in
set_option maxHeartbeats 1000000 in
theorem turn10_bad (w : World) (v : Value) (l : List Mb) (h : Ms w v l) (k : Int) (hE : soundE l ≠ 0) : Calls Try.prog 65 #[.agg #[v], .int .i64 k] w fun e w' => e = .returned (.tuple #[.agg #[.slice none 0 0], .int .i64 (soundE l)]) ∧ Turn no w w' := by
  have T0 : Turn no w ((w.alloc (.cells #[v] 24)).alloc (.cells #[.slice none 0 0] 24)) := ((Turn.refl no w).alloc _).alloc _
  have B1 := Bx.new (w.alloc (.cells #[v] 24)) (.slice none 0 0) 24
  have hw := total41 _ v l (h.turn_no T0)
  have hne : (soundE l == 0) = false := by simp; exact hE
  rw [show (w.alloc (.cells #[v] 24)).heap.size = w.heap.size + 1 by simp] at B1
  clear h
  go_enter Try.func65, Try.ntmps65
  go_wp2_with fail
  refine hw.mono ?_
  rintro e w1 ⟨rfl, T1⟩
  have B2 := B1.turn_no T1
  have T := T0.then_no T1
  have c4 := B2.c
  have f4 := B2.f
  have c5 := B2.set (.slice none 0 0)
  clear hw B1 B2
  go_wp2_with fail
  exact bodyPost_ret (v := .tuple #[.agg #[.slice none 0 0], .int .i64 (soundE l)]) (by simp [results, Try.results65, go_sem, c5]) rfl ⟨rfl, T.set0 (by omega) _⟩

set_option maxRecDepth 100000 in
set_option maxHeartbeats 1000000 in
theorem turn10_arg (w : World) (v : Value) (l : List Mb) (h : Ms w v l) (k : Int) (hE : soundE l = 0) (hk : k < 0 ∨ 65536 < k) : Calls Try.prog 65 #[.agg #[v], .int .i64 k] w fun e w' => e = .returned (.tuple #[.agg #[.slice none 0 0], .int .i64 2]) ∧ Turn no w w' := by
  have T0 : Turn no w ((w.alloc (.cells #[v] 24)).alloc (.cells #[.slice none 0 0] 24)) := ((Turn.refl no w).alloc _).alloc _
  have B1 := Bx.new (w.alloc (.cells #[v] 24)) (.slice none 0 0) 24
  have hw := total41 _ v l (h.turn_no T0)
  rw [hE] at hw
  rw [show (w.alloc (.cells #[v] 24)).heap.size = w.heap.size + 1 by simp] at B1
  clear h
  rcases hk with hk | hk
  · go_enter Try.func65, Try.ntmps65
    go_wp2_with fail
    refine hw.mono ?_
    rintro e w1 ⟨rfl, T1⟩
    have B2 := B1.turn_no T1
    have T := T0.then_no T1
    have c4 := B2.c
    have f4 := B2.f
    have c5 := B2.set (.slice none 0 0)
    clear hw B1 B2
    go_wp2_with fail
    exact bodyPost_ret (v := .tuple #[.agg #[.slice none 0 0], .int .i64 2]) (by simp [results, Try.results65, go_sem, c5]) rfl ⟨rfl, T.set0 (by omega) _⟩
  · have hk0 : ¬ k < 0 := by omega
    go_enter Try.func65, Try.ntmps65
    go_wp2_with fail
    refine hw.mono ?_
    rintro e w1 ⟨rfl, T1⟩
    have B2 := B1.turn_no T1
    have T := T0.then_no T1
    have c4 := B2.c
    have f4 := B2.f
    have c5 := B2.set (.slice none 0 0)
    clear hw B1 B2
    go_wp2_with fail
    exact bodyPost_ret (v := .tuple #[.agg #[.slice none 0 0], .int .i64 2]) (by simp [results, Try.results65, go_sem, c5]) rfl ⟨rfl, T.set0 (by omega) _⟩

set_option maxRecDepth 100000 in
set_option maxHeartbeats 1000000 in
theorem turn10_yes (w : World) (v : Value) (l : List Mb) (h : Ms w v l) (k : Nat) (hE : soundE l = 0) (hk : k ≤ 65536) : Calls Try.prog 65 #[.agg #[v], .int .i64 k] w fun e w' => ∃ u, e = .returned (.tuple #[.agg #[u], .int .i64 0]) ∧ Made w.heap.size w' u (turnsN (tot l) l k) ∧ Turn no w w' := by
  have T0 : Turn no w ((w.alloc (.cells #[v] 24)).alloc (.cells #[.slice none 0 0] 24)) := ((Turn.refl no w).alloc _).alloc _
  have B0 := (Bx.new w v 24).turn_no ((Turn.refl no _).alloc (.cells #[.slice none 0 0] 24))
  have B1 := Bx.new (w.alloc (.cells #[v] 24)) (.slice none 0 0) 24
  have hw := total41 _ v l (h.turn_no T0)
  rw [hE, soundT_ok l hE] at hw
  obtain ⟨hn0, hn64, _, _⟩ := weigh_ok l (sound_ok l hE).1
  have hcl := fun W (T : Turn no w W) => clone33 W v l (h.turn_no T) (by omega) hn64
  rw [show (w.alloc (.cells #[v] 24)).heap.size = w.heap.size + 1 by simp] at B1
  have hin := fun i => turns_in (sound_in l hE) i
  have hrs := fun i => (weigh_rising l (sound_ok l hE).1).keys (turns_keys (tot l) l i)
  have hln := fun i => turns_len (tot l) l i
  have htt := tot_le_top l (sound_ok l hE).1
  have hz0 : w.heap.size + 1 < ((w.alloc (.cells #[v] 24)).alloc (.cells #[.slice none 0 0] 24)).heap.size := by simp
  clear h hE
  have hkb : (k : Int) ≤ 65536 := by omega
  have hk0 : ¬ (k : Int) < 0 := by omega
  have hk1 : ¬ (65536 : Int) < (k : Int) := by omega
  obtain ⟨n, hn⟩ : ∃ n, Hid (l.length = n) := ⟨_, rfl⟩
  have hn' : l.length = n := hn.out
  rw [hn'] at hcl hn0 hn64
  obtain ⟨t, ht⟩ : ∃ t, Hid (tot l = t) := ⟨_, rfl⟩
  have ht' : tot l = t := ht.out
  rw [ht'] at hw hin hrs hln htt ⊢
  have hln : ∀ i, (turnsN t l i).length = n := fun i => (hln i).trans hn'
  clear ht' hn'
  go_enter Try.func65, Try.ntmps65
  go_wp2_with fail
  refine hw.mono ?_
  rintro e w1 ⟨rfl, T1⟩
  have B2 := B1.turn_no T1
  have B02 := B0.turn_no T1
  have T := T0.then_no T1
  have hcl := hcl w1 T
  have c3 := B02.c
  have hz1 := T1.size
  clear hw B1 B0
  go_wp2_with fail
  refine hcl.mono ?_
  rintro e w2 ⟨g, cap, rfl, R, hg, T2⟩
  have B3 := B2.turn_no T2
  have T3 := T.then_no T2
  have hgw : w.heap.size + 1 < g := by omega
  clear hcl B2 B02 T1 T0 hg c3 hz1 hz0 T
  go_wp2_with fail
  go_loopw [29] (fun c wr => ∃ i : Nat, i ≤ k ∧ c = .int .i64 i ∧ Rw wr g cap (turnsN t l i) ∧ Turn (fun b => b = g) w2 wr) (fun c _ => k - (intOf c).toNat)
  case atStart => exact ⟨0, by omega, rfl, R, Turn.refl _ _⟩
  case round =>
    clear R
    obtain ⟨i, hi, rfl, R, TR⟩ := hrel
    by_cases hlt : i < k
    · have hlt' : (i : Int) < (k : Int) := by omega
      have hct := turn34 wr g cap t _ R (hin i) htt (by rw [hln]; omega) (hrs i)
      rw [hln] at hct
      clear hin hrs
      go_wp2_with fail
      refine hct.mono ?_
      rintro e w4 ⟨rfl, R4, T4⟩
      have TR4 := TR.trans T4 (fun _ _ q => q)
      clear hct R
      go_wp2_with fail
      go_roundw
      case rel => exact ⟨i + 1, by omega, by go_num, R4, TR4⟩
      case measure => simp [intOf]; omega
    · have hkn : i = k := by omega
      subst hkn
      have hlt' : ¬ (i : Int) < (i : Int) := by omega
      have B4 := B3.turn TR (fun q => by omega)
      have c4 := B4.c
      have f4 := B4.f
      have c5 := B4.set (.slice (some ⟨g, 0, none⟩) n cap)
      have Tw : Turn no w wr := (T3.of_no.trans TR (fun _ _ q => q)).mono (fun b hb q => by omega)
      have R3 := R.turn ((Turn.refl (fun b => b = w.heap.size + 1) wr).setCell (p := ⟨w.heap.size + 1, 0, none⟩) (fun _ => rfl) (.slice (some ⟨g, 0, none⟩) n cap)) (fun q => by omega)
      have MD : Made w.heap.size (wr.setCell ⟨w.heap.size + 1, 0, none⟩ (.slice (some ⟨g, 0, none⟩) n cap)) (.slice (some ⟨g, 0, none⟩) n cap) (turnsN t l i) := ⟨g, cap, by rw [hln], R3, by omega⟩
      have T5 := Tw.set0 (g := w.heap.size + 1) (by omega) (.slice (some ⟨g, 0, none⟩) n cap)
      clear R R3 B3 B4 hin hrs hln Tw TR
      go_wp2_with fail
      exact bodyPost_ret (v := .tuple #[.agg #[.slice (some ⟨g, 0, none⟩) n cap], .int .i64 0]) (by simp [results, Try.results65, go_sem, c5]) rfl ⟨_, rfl, MD, T5⟩
end Go.Proofs.Ytbhimedajfkioaa
