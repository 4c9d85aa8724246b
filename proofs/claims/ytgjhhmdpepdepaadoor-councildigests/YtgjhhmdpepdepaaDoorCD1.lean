/- Turns: plain; who is foremost. -/
import Derived.Test.YtgjhhmdpepdepaaDoorC9
namespace Go.Proofs.YtgjhhmdpepdepaaDoor
open Go.RowKit
set_option linter.unusedVariables false

def up (t : Nat) (l : List Mb) : List Mb := l.map fun m => { m with pr := min (m.pr + m.pw) (7 * t) }
def bestN (l : List Mb) : Nat → Nat
  | 0 => 0
  | k + 1 => if (l.getD (bestN l k) mb0).pr < (l.getD k mb0).pr then k else bestN l k
def best (l : List Mb) : Nat := bestN l l.length
theorem bestN_le (l : List Mb) (k : Nat) : bestN l k ≤ k := by
  induction k with
  | zero => exact Nat.le_refl _
  | succ k ih =>
    rw [bestN]
    split <;> omega
theorem bestN_lt (l : List Mb) (k : Nat) (h : 0 < k) : bestN l k < k := by
  induction k with
  | zero => omega
  | succ k ih =>
    rw [bestN]
    split
    · omega
    · have := bestN_le l k
      omega
theorem bestN_succ (l : List Mb) (k : Nat) (m b : Mb) (hm : l[k]? = some m) (hb : l[bestN l k]? = some b) : bestN l (k + 1) = if b.pr < m.pr then k else bestN l k := by
  rw [bestN]
  simp [List.getD, hm, hb]
theorem scan_above (l : List Mb) : ∀ h, scan h l = 0 → ∀ m ∈ l, h < m.ad := by
  induction l with
  | nil => intro h _ m hm; cases hm
  | cons x r ih =>
    intro h hs m hm
    rw [scan] at hs
    split at hs
    · omega
    split at hs
    · omega
    split at hs
    · omega
    rcases List.mem_cons.1 hm with rfl | hm
    · omega
    · have := ih _ hs m hm
      omega
theorem scan_rising (l : List Mb) : ∀ h, scan h l = 0 → ∀ (i j : Nat) (a b : Mb), i < j → l[i]? = some a → l[j]? = some b → a.ad < b.ad := by
  induction l with
  | nil => intro h _ i j a b _ hi; simp at hi
  | cons x r ih =>
    intro h hs i j a b hij hi hj
    rw [scan] at hs
    split at hs
    · omega
    split at hs
    · omega
    split at hs
    · omega
    cases j with
    | zero => omega
    | succ j =>
      cases i with
      | zero =>
        simp at hi
        subst hi
        exact scan_above r _ hs b (List.mem_of_getElem? (by simpa using hj))
      | succ i => exact ih _ hs i j a b (by omega) (by simpa using hi) (by simpa using hj)

/-- Does the one come first? -/
def aheadB (a b : Mb) : Bool := decide (b.pr < a.pr) || (decide (a.pr = b.pr) && decide (a.ad < b.ad))

set_option maxRecDepth 100000 in
set_option maxHeartbeats 1000000 in
theorem ahead44 (w : World) (a : Option Addr) (n cap i k : Nat) (p : Addr) (l : List Mb) (hb : w.cell? p = some (.slice a n cap)) (M : MsAt w a cap l) (hn : l.length = n) (x y : Mb) (hx : l[i]? = some x) (hy : l[k]? = some y) :
    Calls Tryd.prog 45 #[.int .i64 i, .int .i64 k, .pointer (some p)] w fun e w' => e = .returned (.bool (aheadB x y)) ∧ Turn no w w' := by
  have hi : i < n := by rw [← hn]; exact (List.getElem?_eq_some_iff.1 hx).1
  have hk : k < n := by rw [← hn]; exact (List.getElem?_eq_some_iff.1 hy).1
  obtain ⟨b, off, rfl, c0, c1, c2⟩ := M.cells i x hx
  obtain ⟨b', off', e', d0, d1, d2⟩ := M.cells k y hy
  cases e'
  have hcap : n ≤ 9223372036854775807 := by have := M.le; have := M.cap; simp only [maxLen] at this; omega
  clear M hx hy hn
  have hi' : (i : Int) < (n : Int) := by omega
  have hk' : (k : Int) < (n : Int) := by omega
  go_enter Tryd.func45, Tryd.ntmps45
  go_wp2_with fail
  refine wp_region_held_drew (S := fun W => Turn no w W) (by kernel_rfl) (Turn.refl _ w).drew (fun hHeld => ?_)
  refine' wpAnyH_take (i := 0) (v := .slice (some ⟨b, off, none⟩) n cap) rfl (by kernel_rfl) (by kernel_rfl) (by kernel_rfl) (fun _ _ _ h => h) (Or.inl ⟨by kernel_rfl, fun W hW => ?y1⟩) hHeld ?r1
  · have c := hW.keep hb (fun q => q)
    go_simp
  refine' wpAnyH_take (i := 1) (v := .int .i64 i) rfl (by kernel_rfl) (by kernel_rfl) (by kernel_rfl) (fun _ _ _ h => h) (Or.inl ⟨by kernel_rfl, fun W hW => ?y2⟩) hHeld ?r2
  · go_simp
  refine' wpAnyH_take (i := 2) (v := .pointer (some ⟨b, off + i * 3, none⟩)) rfl (by kernel_rfl) (by kernel_rfl) (by kernel_rfl) (fun _ _ _ h => h) (Or.inl ⟨by kernel_rfl, fun W hW => ?y3⟩) hHeld ?r3
  · go_simp
  refine' wpAnyH_take (i := 3) (v := .agg #[.int .u64 x.ad, .int .u64 x.pw, .int .i64 x.pr]) rfl (by kernel_rfl) (by kernel_rfl) (by kernel_rfl) (fun _ _ _ h => h) (Or.inl ⟨by kernel_rfl, fun W hW => ?y4⟩) hHeld ?r4
  · have c0 := hW.keep c0 (fun q => q)
    have c1 := hW.keep c1 (fun q => q)
    have c2 := hW.keep c2 (fun q => q)
    go_simp
  refine' wpAnyH_take (i := 4) (v := .slice (some ⟨b, off, none⟩) n cap) rfl (by kernel_rfl) (by kernel_rfl) (by kernel_rfl) (fun _ _ _ h => h) (Or.inl ⟨by kernel_rfl, fun W hW => ?y5⟩) hHeld ?r5
  · have c := hW.keep hb (fun q => q)
    go_simp
  refine' wpAnyH_take (i := 5) (v := .int .i64 k) rfl (by kernel_rfl) (by kernel_rfl) (by kernel_rfl) (fun _ _ _ h => h) (Or.inl ⟨by kernel_rfl, fun W hW => ?y6⟩) hHeld ?r6
  · go_simp
  refine' wpAnyH_take (i := 6) (v := .pointer (some ⟨b, off + k * 3, none⟩)) rfl (by kernel_rfl) (by kernel_rfl) (by kernel_rfl) (fun _ _ _ h => h) (Or.inl ⟨by kernel_rfl, fun W hW => ?y7⟩) hHeld ?r7
  · go_simp
  refine' wpAnyH_take (i := 7) (v := .agg #[.int .u64 y.ad, .int .u64 y.pw, .int .i64 y.pr]) rfl (by kernel_rfl) (by kernel_rfl) (by kernel_rfl) (fun _ _ _ h => h) (Or.inl ⟨by kernel_rfl, fun W hW => ?y8⟩) hHeld ?r8
  · have c0 := hW.keep d0 (fun q => q)
    have c1 := hW.keep d1 (fun q => q)
    have c2 := hW.keep d2 (fun q => q)
    go_simp
  refine wpAnyH_ready (rs := [8, 9]) (by kernel_rfl) (by simp) ?_
  refine AllReadyH.cons rfl (fun K hK => ?_) (AllReadyH.cons rfl (fun K hK => ?_) AllReadyH.nil)
  · go_simp
    refine hK.out _ _ ((Turn.refl no w).alloc _).drew (fun hHeld => ?_)
    clear hK
    refine wpAnyH_ready (rs := [9]) (by kernel_rfl) (by simp) ?_
    refine AllReadyH.cons rfl (fun K hK => ?_) AllReadyH.nil
    go_simp
    refine hK.out _ _ (((Turn.refl no w).alloc _).alloc _).drew (fun hHeld => ?_)
    clear hK
    refine wpAnyH_ready (rs := [10]) (by kernel_rfl) (by simp) ?_
    refine AllReadyH.cons rfl (fun K hK => ?_) AllReadyH.nil
    go_simp
    refine hK.out _ _ (((Turn.refl no w).alloc _).alloc _).drew (fun hHeld => ?_)
    clear hK
    refine wpAnyH_ready (rs := [11]) (by kernel_rfl) (by simp) ?_
    refine AllReadyH.cons rfl (fun K hK => ?_) AllReadyH.nil
    go_simp
    refine hK.out _ _ (((Turn.refl no w).alloc _).alloc _).drew (fun hHeld => ?_)
    clear hK
    refine wpAnyH_done (by kernel_rfl) ?_ _
    clear hHeld c0 c1 c2 d0 d1 d2 hb
    by_cases a1 : y.pr < x.pr
    · have HE : Hid (aheadB x y = true) := by show aheadB x y = _; simp [aheadB, a1]
      go_wp2_with fail
      go_ret
      exact ⟨congrArg Ending.returned (congrArg Value.bool HE.out.symm), (((Turn.refl no w).alloc _).alloc _).drew⟩
    by_cases a2 : x.pr = y.pr
    · have a2' : (x.pr == y.pr) = true := by simp [a2]
      have a1' : decide (y.pr < x.pr) = false := by simp [a1]
      by_cases a3 : x.ad < y.ad
      · have HE : Hid (aheadB x y = true) := by show aheadB x y = _; simp [aheadB, a2, a3]
        have a3' : (x.ad : Int) < (y.ad : Int) := by omega
        clear a2 a3
        go_wp2_with fail
        go_ret
        exact ⟨congrArg Ending.returned (congrArg Value.bool HE.out.symm), (((Turn.refl no w).alloc _).alloc _).drew⟩
      · have HE : Hid (aheadB x y = false) := by show aheadB x y = _; simp [aheadB, a2, a3]
        have a3' : ¬ (x.ad : Int) < (y.ad : Int) := by omega
        clear a2 a3
        go_wp2_with fail
        go_ret
        exact ⟨congrArg Ending.returned (congrArg Value.bool HE.out.symm), (((Turn.refl no w).alloc _).alloc _).drew⟩
    · have a2' : (x.pr == y.pr) = false := by simp [a2]
      have HE : Hid (aheadB x y = false) := by show aheadB x y = _; simp [aheadB, a1, a2]
      clear a2
      go_wp2_with fail
      go_ret
      exact ⟨congrArg Ending.returned (congrArg Value.bool HE.out.symm), (((Turn.refl no w).alloc _).alloc _).drew⟩
  · go_simp
    refine hK.out _ _ ((Turn.refl no w).alloc _).drew (fun hHeld => ?_)
    clear hK
    refine wpAnyH_ready (rs := [8]) (by kernel_rfl) (by simp) ?_
    refine AllReadyH.cons rfl (fun K hK => ?_) AllReadyH.nil
    go_simp
    refine hK.out _ _ (((Turn.refl no w).alloc _).alloc _).drew (fun hHeld => ?_)
    clear hK
    refine wpAnyH_ready (rs := [10]) (by kernel_rfl) (by simp) ?_
    refine AllReadyH.cons rfl (fun K hK => ?_) AllReadyH.nil
    go_simp
    refine hK.out _ _ (((Turn.refl no w).alloc _).alloc _).drew (fun hHeld => ?_)
    clear hK
    refine wpAnyH_ready (rs := [11]) (by kernel_rfl) (by simp) ?_
    refine AllReadyH.cons rfl (fun K hK => ?_) AllReadyH.nil
    go_simp
    refine hK.out _ _ (((Turn.refl no w).alloc _).alloc _).drew (fun hHeld => ?_)
    clear hK
    refine wpAnyH_done (by kernel_rfl) ?_ _
    clear hHeld c0 c1 c2 d0 d1 d2 hb
    by_cases a1 : y.pr < x.pr
    · have HE : Hid (aheadB x y = true) := by show aheadB x y = _; simp [aheadB, a1]
      go_wp2_with fail
      go_ret
      exact ⟨congrArg Ending.returned (congrArg Value.bool HE.out.symm), (((Turn.refl no w).alloc _).alloc _).drew⟩
    by_cases a2 : x.pr = y.pr
    · have a2' : (x.pr == y.pr) = true := by simp [a2]
      have a1' : decide (y.pr < x.pr) = false := by simp [a1]
      by_cases a3 : x.ad < y.ad
      · have HE : Hid (aheadB x y = true) := by show aheadB x y = _; simp [aheadB, a2, a3]
        have a3' : (x.ad : Int) < (y.ad : Int) := by omega
        clear a2 a3
        go_wp2_with fail
        go_ret
        exact ⟨congrArg Ending.returned (congrArg Value.bool HE.out.symm), (((Turn.refl no w).alloc _).alloc _).drew⟩
      · have HE : Hid (aheadB x y = false) := by show aheadB x y = _; simp [aheadB, a2, a3]
        have a3' : ¬ (x.ad : Int) < (y.ad : Int) := by omega
        clear a2 a3
        go_wp2_with fail
        go_ret
        exact ⟨congrArg Ending.returned (congrArg Value.bool HE.out.symm), (((Turn.refl no w).alloc _).alloc _).drew⟩
    · have a2' : (x.pr == y.pr) = false := by simp [a2]
      have HE : Hid (aheadB x y = false) := by show aheadB x y = _; simp [aheadB, a1, a2]
      clear a2
      go_wp2_with fail
      go_ret
      exact ⟨congrArg Ending.returned (congrArg Value.bool HE.out.symm), (((Turn.refl no w).alloc _).alloc _).drew⟩

/-- Addresses rise. -/
def Rising (l : List Mb) : Prop := ∀ (i j : Nat) (a b : Mb), i < j → l[i]? = some a → l[j]? = some b → a.ad < b.ad

set_option maxRecDepth 100000 in
set_option maxHeartbeats 1000000 in
theorem foremost43 (w : World) (v : Value) (l : List Mb) (h : Ms w v l) (h0 : 0 < l.length) (hr : Rising l) : Calls Tryd.prog 32 #[v] w fun e w' => e = .returned (.int .i64 (best l)) ∧ Turn no w w' := by
  have T0 : Turn no w (w.alloc (.cells #[v] 22)) := (Turn.refl no w).alloc _
  have B0 := Bx.new w v 22
  obtain ⟨ad, cap, rfl, h⟩ := h
  have M0 := h.turn_no T0
  have hle : l.length ≤ 9223372036854775807 := by have := h.le; have := h.cap; simp only [maxLen] at this; omega
  clear h
  have hbe : best l = bestN l l.length := rfl
  obtain ⟨n, hn⟩ : ∃ n, Hid (l.length = n) := ⟨_, rfl⟩
  have hn' : l.length = n := hn.out
  rw [hn'] at hle T0 B0 M0 h0 hbe ⊢
  clear hn'
  have HB : Hid (best l = bestN l n) := hbe
  clear hbe
  have hmf : ∀ (fn : Fn) (first cap : Array Value) (w : World), (Instr.makeFunc fn first cap).run Tryd.prog w = .ok (.func fn first cap) w := fun _ _ _ _ => rfl
  go_enter Tryd.func32, Tryd.ntmps32
  go_wp2_with fail
  generalize w.alloc (.cells #[.slice ad n cap] 22) = w0 at *
  go_loopw [4, 9] (fun x c wr => ∃ k : Nat, k ≤ n ∧ c = .int .i64 k ∧ x = .int .i64 (bestN l k) ∧ Turn no w0 wr) (fun _ c _ => n - (intOf c).toNat)
  case atStart => exact ⟨0, by omega, rfl, rfl, Turn.refl _ _⟩
  case round =>
    obtain ⟨k, hk, rfl, rfl, T⟩ := hrel
    by_cases hlt : k < n
    · obtain ⟨m, hm⟩ : ∃ m, l[k]? = some m := ⟨l[k]'(by rw [hn.out]; exact hlt), List.getElem?_eq_getElem _⟩
      have hbk := bestN_le l k
      obtain ⟨y, hy⟩ : ∃ y, l[bestN l k]? = some y := ⟨l[bestN l k]'(by rw [hn.out]; omega), List.getElem?_eq_getElem _⟩
      have hlt' : (k : Int) < (n : Int) := by omega
      have hcl := ahead44 wr ad n cap k (bestN l k) ⟨w.heap.size, 0, none⟩ l (T.keep B0.c (fun q => q)) (M0.turn_no T) hn.out m y hm hy
      have HS : Hid (bestN l (k + 1) = if y.pr < m.pr then k else bestN l k) := bestN_succ l k m y hm hy
      have hah : aheadB m y = decide (y.pr < m.pr) := by
        rcases Nat.lt_or_ge (bestN l k) k with q | q
        · have := hr _ _ _ _ q hy hm
          simp [aheadB]
          omega
        · have e : bestN l k = k := by omega
          rw [e, hm] at hy
          cases hy
          simp [aheadB]
      rw [hah] at hcl
      clear hah hm hy hr M0
      obtain ⟨bk, hbk'⟩ : ∃ bk, Hid (bestN l k = bk) := ⟨_, rfl⟩
      rw [show bestN l k = bk from hbk'.out] at hcl HS ⊢
      by_cases a1 : y.pr < m.pr
      · rw [show decide (y.pr < m.pr) = true by simp [a1]] at hcl
        have HS2 : Hid (bestN l (k + 1) = k) := by have := HS.out; rw [if_pos a1] at this; exact this
        clear HS a1
        go_wp2_with fail
        refine hcl.mono ?_
        rintro e w1 ⟨rfl, T1⟩
        have T2 := T.then_no T1
        clear hcl
        go_wp2_with fail
        go_roundw
        case rel => exact ⟨k + 1, by omega, by go_num, by rw [HS2.out], T2⟩
        case measure => simp [intOf]; omega
      · rw [show decide (y.pr < m.pr) = false by simp [a1]] at hcl
        have HS2 : Hid (bestN l (k + 1) = bk) := by have := HS.out; rw [if_neg a1] at this; exact this
        clear HS a1
        go_wp2_with fail
        refine hcl.mono ?_
        rintro e w1 ⟨rfl, T1⟩
        have T2 := T.then_no T1
        clear hcl
        go_wp2_with fail
        go_roundw
        case rel => exact ⟨k + 1, by omega, by go_num, by rw [HS2.out], T2⟩
        case measure => simp [intOf]; omega
    · have hkn : k = n := by omega
      subst hkn
      have hlt' : ¬ (k : Int) < (k : Int) := by omega
      go_wp2_with fail
      go_ret
      exact ⟨ret_i (by rw [HB.out]), T0.then_no T⟩
end Go.Proofs.YtgjhhmdpepdepaaDoor

