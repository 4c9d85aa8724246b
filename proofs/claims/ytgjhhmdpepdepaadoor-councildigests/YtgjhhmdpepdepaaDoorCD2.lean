/- One turn of the program. -/
import Derived.Test.YtgjhhmdpepdepaaDoorCD1
namespace Go.Proofs.YtgjhhmdpepdepaaDoor
open Go.RowKit
set_option linter.unusedVariables false

/-- The first k are f's. -/
def mapTo (f : Mb → Mb) (l : List Mb) (k : Nat) : List Mb := (l.take k).map f ++ l.drop k
theorem mapTo_zero (f : Mb → Mb) (l : List Mb) : mapTo f l 0 = l := by simp [mapTo]
theorem mapTo_len (f : Mb → Mb) (l : List Mb) (k : Nat) : (mapTo f l k).length = l.length := by simp [mapTo]; omega
theorem mapTo_at (f : Mb → Mb) (l : List Mb) (k : Nat) (m : Mb) (h : l[k]? = some m) : (mapTo f l k)[k]? = some m := by
  have hk := (List.getElem?_eq_some_iff.1 h).1
  unfold mapTo
  rw [List.getElem?_append_right (by simp; omega)]
  simp [show min k l.length = k by omega, h]
theorem mapTo_succ (f : Mb → Mb) (l : List Mb) (k : Nat) (m : Mb) (h : l[k]? = some m) : (mapTo f l k).set k (f m) = mapTo f l (k + 1) := by
  have hk := (List.getElem?_eq_some_iff.1 h).1
  unfold mapTo
  rw [List.set_append_right _ _ (by simp; omega), drop_at l k m h, List.take_add_one, h]
  simp [show k - min k l.length = 0 by omega]
theorem mapTo_all (f : Mb → Mb) (l : List Mb) (n : Nat) (h : l.length = n) : mapTo f l n = l.map f := by subst h; simp [mapTo]

def upM (t : Nat) (m : Mb) : Mb := { m with pr := min (m.pr + m.pw) (7 * t) }
theorem up_map (t : Nat) (l : List Mb) : up t l = l.map (upM t) := rfl
def downM (t : Nat) (m : Mb) : Mb := { m with pr := max (m.pr - t) (-(7 * (t : Int))) }
/-- One turn. -/
def turnL (t : Nat) (l : List Mb) : List Mb := (up t l).set (best (up t l)) (downM t ((up t l).getD (best (up t l)) mb0))
/-- Within the bounds. -/
def InR (t : Nat) (l : List Mb) : Prop := ∀ m ∈ l, -(7 * (t : Int)) ≤ m.pr ∧ m.pr ≤ 7 * t ∧ m.pw ≤ t
theorem up_len (t : Nat) (l : List Mb) : (up t l).length = l.length := by simp [up]
theorem turn_len (t : Nat) (l : List Mb) : (turnL t l).length = l.length := by simp [turnL, up_len]
theorem InR.up {t : Nat} {l : List Mb} (h : InR t l) : InR t (up t l) := fun m hm => by
  obtain ⟨x, hx, rfl⟩ := List.mem_map.1 hm
  have := h x hx
  simp only
  omega
theorem best_lt (l : List Mb) (h : 0 < l.length) : best l < l.length := bestN_lt l _ h
theorem InR.turn {t : Nat} {l : List Mb} (h : InR t l) : InR t (turnL t l) := fun m hm => by
  rcases List.mem_or_eq_of_mem_set hm with hm | rfl
  · exact h.up m hm
  · by_cases h0 : 0 < l.length
    · have hb := best_lt (YtgjhhmdpepdepaaDoor.up t l) (by rw [up_len]; exact h0)
      have hx := h.up _ (List.getElem_mem hb)
      have e : (YtgjhhmdpepdepaaDoor.up t l).getD (best (YtgjhhmdpepdepaaDoor.up t l)) mb0 = (YtgjhhmdpepdepaaDoor.up t l)[best (YtgjhhmdpepdepaaDoor.up t l)] := by simp [List.getD, hb]
      rw [e]
      generalize (YtgjhhmdpepdepaaDoor.up t l)[best (YtgjhhmdpepdepaaDoor.up t l)] = x at hx
      simp only [downM]
      omega
    · have : l = [] := List.eq_nil_of_length_eq_zero (by omega)
      subst this
      simp [turnL, YtgjhhmdpepdepaaDoor.up] at hm
/-- Addresses and powers, one by one. -/
def keys (l : List Mb) : List (Nat × Nat) := l.map fun m => (m.ad, m.pw)
theorem keys_up (t : Nat) (l : List Mb) : keys (up t l) = keys l := by simp [keys, up, Function.comp_def]
theorem keys_set (l : List Mb) (k : Nat) (m x : Mb) (h : l[k]? = some m) (h1 : x.ad = m.ad) (h2 : x.pw = m.pw) : keys (l.set k x) = keys l := by
  unfold keys
  rw [List.map_set]
  apply List.ext_getElem?
  intro j
  rw [List.getElem?_set]
  split
  · rename_i e
    subst e
    have hk := (List.getElem?_eq_some_iff.1 h).1
    rw [if_pos (by simpa using hk), List.getElem?_map, h]
    simp [h1, h2]
  · rfl
theorem keys_turn (t : Nat) (l : List Mb) : keys (turnL t l) = keys l := by
  by_cases h0 : 0 < l.length
  · have hb := best_lt (up t l) (by rw [up_len]; exact h0)
    have e : (up t l)[best (up t l)]? = some ((up t l).getD (best (up t l)) mb0) := by simp [List.getD, hb]
    unfold turnL
    rw [keys_set _ _ _ (downM t _) e rfl rfl, keys_up]
  · have : l = [] := List.eq_nil_of_length_eq_zero (by omega)
    subst this
    rfl
theorem keys_len {l l' : List Mb} (h : keys l = keys l') : l.length = l'.length := by
  have := congrArg List.length h
  simpa [keys] using this
theorem keys_get {l l' : List Mb} (h : keys l = keys l') (i : Nat) (a : Mb) (ha : l[i]? = some a) : ∃ b, l'[i]? = some b ∧ b.ad = a.ad ∧ b.pw = a.pw := by
  have e := congrArg (·[i]?) h
  simp only [keys, List.getElem?_map, ha, Option.map_some] at e
  cases hb : l'[i]? with
  | none => rw [hb] at e; simp at e
  | some b =>
    rw [hb] at e
    simp at e
    exact ⟨b, rfl, e.1.symm, e.2.symm⟩
theorem Rising.keys {l l' : List Mb} (h : Rising l) (e : keys l' = keys l) : Rising l' := fun i j a b hij ha hb => by
  obtain ⟨a', ha', e1, _⟩ := keys_get e i a ha
  obtain ⟨b', hb', e2, _⟩ := keys_get e j b hb
  have := h i j a' b' hij ha' hb'
  omega
theorem keys_scan {l : List Mb} : ∀ {l' : List Mb} (h : Nat), keys l = keys l' → scan h l = scan h l' := by
  induction l with
  | nil => intro l' h e; cases l' with
    | nil => rfl
    | cons x r => simp [keys] at e
  | cons x r ih =>
    intro l' h e
    cases l' with
    | nil => simp [keys] at e
    | cons y s =>
      simp [keys] at e
      obtain ⟨⟨e1, e2⟩, e3⟩ := e
      have := ih (l' := s) x.ad (by simpa [keys] using e3)
      simp only [scan]
      rw [e1, e2]
      rw [e1] at this
      rw [this]
theorem keys_tot {l : List Mb} : ∀ {l' : List Mb}, keys l = keys l' → tot l = tot l' := by
  induction l with
  | nil => intro l' e; cases l' with
    | nil => rfl
    | cons x r => simp [keys] at e
  | cons x r ih =>
    intro l' e
    cases l' with
    | nil => simp [keys] at e
    | cons y s =>
      simp [keys] at e
      obtain ⟨⟨e1, e2⟩, e3⟩ := e
      have := ih (l' := s) (by simpa [keys] using e3)
      simp only [tot]
      omega
theorem keys_weigh {l l' : List Mb} (h : keys l = keys l') : weighE l = weighE l' := by
  unfold weighE
  rw [keys_len h, keys_scan 0 h, keys_tot h]

set_option maxRecDepth 100000 in
set_option maxHeartbeats 1000000 in
theorem turn34 (w : World) (g cap t : Nat) (l : List Mb) (R : Rw w g cap l) (hin : InR t l) (ht : t ≤ 1152921504606846975) (h0 : 0 < l.length) (hr : Rising l) :
    Calls Tryd.prog 19 #[.slice (some ⟨g, 0, none⟩) l.length cap, .int .u64 t] w fun e w' => e = .returned (.int .i64 (best (up t l))) ∧ Rw w' g cap (turnL t l) ∧ Turn (fun b => b = g) w w' := by
  have hle : l.length ≤ 9223372036854775807 := by have := R.le; have := R.most; simp only [maxLen] at this; omega
  have hru : Rising (up t l) := hr.keys (keys_up t l)
  have hul := up_len t l
  have hgw := R.lt
  obtain ⟨n, hn⟩ : ∃ n, Hid (l.length = n) := ⟨_, rfl⟩
  have hn' : l.length = n := hn.out
  rw [hn'] at hle h0 hul ⊢
  clear hn'
  go_enter Tryd.func19, Tryd.ntmps19
  go_wp2_with fail
  go_loopw [16] (fun c wr => ∃ k : Nat, k ≤ n ∧ c = .int .i64 k ∧ Rw wr g cap (mapTo (upM t) l k) ∧ Turn (fun b => b = g) w wr) (fun c _ => n - (intOf c).toNat)
  case atStart => exact ⟨0, by omega, rfl, by rw [mapTo_zero]; exact R, Turn.refl _ _⟩
  case round =>
    clear R
    obtain ⟨k, hk, rfl, R, T⟩ := hrel
    by_cases hlt : k < n
    · obtain ⟨m, hm⟩ : ∃ m, l[k]? = some m := ⟨l[k]'(by rw [hn.out]; exact hlt), List.getElem?_eq_getElem _⟩
      have hlt' : (k : Int) < (n : Int) := by omega
      obtain ⟨i1, i2, i3⟩ := hin m (List.mem_of_getElem? hm)
      have TA : Turn no wr (wr.alloc (.cells #[.int .u64 m.ad, .int .u64 m.pw, .int .i64 m.pr] 37)) := (Turn.refl no wr).alloc _
      have R1 := R.turn_no TA
      have hgr := R.lt
      have R2 := R.set k m (mapTo_at _ l k m hm) (min (m.pr + m.pw) (7 * t)) (by omega)
      have hms := mapTo_succ (upM t) l k m hm
      rw [show upM t m = { m with pr := min (m.pr + m.pw) (7 * t) } from rfl] at hms
      rw [hms] at R2
      have R2 := R2.turn_no ((Turn.refl no _).alloc (.cells #[.int .u64 m.ad, .int .u64 m.pw, .int .i64 m.pr] 37))
      obtain ⟨c0, c1, c2⟩ := R.cells k m (mapTo_at _ l k m hm)
      obtain ⟨d0, d1, d2⟩ := R1.cells k m (mapTo_at _ l k m hm)
      have f2 := R1.frozen (k * 3 + 2)
      have T2 := (T.setCell (p := ⟨g, k * 3 + 2, none⟩) (fun _ => rfl) (.int .i64 (min (m.pr + m.pw) (7 * t)))).alloc (.cells #[.int .u64 m.ad, .int .u64 m.pw, .int .i64 m.pr] 37)
      clear hm R R1 hms hin hr hru TA
      by_cases a1 : 7 * (t : Int) < m.pr + (m.pw : Int)
      · have e : min (m.pr + m.pw) (7 * (t : Int)) = 7 * t := by omega
        rw [e] at R2 T2
        clear e
        go_wp2_with fail
        go_roundw
        case rel => exact ⟨k + 1, by omega, by go_num, R2, T2⟩
        case measure => simp [intOf]; omega
      · have e : min (m.pr + m.pw) (7 * (t : Int)) = m.pr + m.pw := by omega
        rw [e] at R2 T2
        clear e
        go_wp2_with fail
        go_roundw
        case rel => exact ⟨k + 1, by omega, by go_num, R2, T2⟩
        case measure => simp [intOf]; omega
    · have hkn : k = n := by omega
      subst hkn
      have hlt' : ¬ (k : Int) < (k : Int) := by omega
      rw [mapTo_all _ l k hn.out, ← up_map] at R
      have hfo := foremost43 wr (.slice (some ⟨g, 0, none⟩) k cap) (up t l) ⟨_, cap, by rw [hul], R.at⟩ (by omega) hru
      have hbl := best_lt (up t l) (by omega)
      have hiu := hin.up
      obtain ⟨x, hx⟩ : ∃ x, (up t l)[best (up t l)]? = some x := ⟨_, List.getElem?_eq_getElem hbl⟩
      obtain ⟨i1, i2, i3⟩ := hiu x (List.mem_of_getElem? hx)
      have HTL : Hid (turnL t l = (up t l).set (best (up t l)) { x with pr := max (x.pr - t) (-(7 * (t : Int))) }) := by
        show turnL t l = _
        unfold turnL
        simp [List.getD, hx, downM]
      rw [hul] at hbl
      obtain ⟨bb, hbb⟩ : ∃ bb, Hid (best (up t l) = bb) := ⟨_, rfl⟩
      rw [show best (up t l) = bb from hbb.out] at hfo hbl hx HTL
      clear hin hr hru hiu
      go_wp2_with fail
      refine hfo.mono ?_
      rintro e w1 ⟨rfl, T1⟩
      have R1 := R.turn_no T1
      have TT := T.then_no T1
      have hgr := R1.lt
      have R2 := R1.set bb x hx (max (x.pr - t) (-(7 * (t : Int)))) (by omega)
      rw [← HTL.out] at R2
      obtain ⟨c0, c1, c2⟩ := R1.cells bb x hx
      have f2 := R1.frozen (bb * 3 + 2)
      have T2 := TT.setCell (p := ⟨g, bb * 3 + 2, none⟩) (fun _ => rfl) (.int .i64 (max (x.pr - t) (-(7 * (t : Int)))))
      have hbl' : (bb : Int) < (k : Int) := by omega
      clear hfo R R1 hx HTL TT hul
      by_cases a1 : x.pr - (t : Int) < -(7 * (t : Int))
      · have e : max (x.pr - t) (-(7 * (t : Int))) = -(7 * (t : Int)) := by omega
        rw [e] at R2 T2
        clear e
        go_wp2_with fail
        go_ret
        exact ⟨ret_i (by rw [hbb.out]), R2, T2⟩
      · have e : max (x.pr - t) (-(7 * (t : Int))) = x.pr - t := by omega
        rw [e] at R2 T2
        clear e
        go_wp2_with fail
        go_ret
        exact ⟨ret_i (by rw [hbb.out]), R2, T2⟩
end Go.Proofs.YtgjhhmdpepdepaaDoor

