/- A list of members in memory; weigh. -/
import Derived.Test.YtgjhhmdpepdepaaDoorBaseN
import Derived.Test.YtgjhhmdpepdepaaDoorC0
import Derived.Test.YtgjhhmdpepdepaaDoorRows
namespace Go.Proofs.YtgjhhmdpepdepaaDoor
open Go.RowKit
set_option linter.unusedVariables false

/-- A list of members, wherever it lies. -/
structure MsAt (w : World) (a : Option Addr) (cap : Nat) (l : List Mb) : Prop where
  le : l.length ≤ cap
  cap : cap ≤ maxLen
  ok : ∀ m ∈ l, m.ok
  cells : ∀ j m, l[j]? = some m → ∃ b off, a = some ⟨b, off, none⟩ ∧ w.cell? ⟨b, off + j * 3, none⟩ = some (.int .u64 m.ad) ∧ w.cell? ⟨b, off + j * 3 + 1, none⟩ = some (.int .u64 m.pw) ∧ w.cell? ⟨b, off + j * 3 + 2, none⟩ = some (.int .i64 m.pr)
def Ms (w : World) (v : Value) (l : List Mb) : Prop := ∃ a cap, v = .slice a l.length cap ∧ MsAt w a cap l

theorem MsAt.turn {S : Nat → Prop} {w w' : World} {a : Option Addr} {cap : Nat} {l : List Mb} (h : MsAt w a cap l) (t : Turn S w w') (hn : ∀ x, a = some x → ¬ S x.block) : MsAt w' a cap l :=
  ⟨h.le, h.cap, h.ok, fun j m hj => by
    obtain ⟨b, off, e, c0, c1, c2⟩ := h.cells j m hj
    have := hn _ e
    exact ⟨b, off, e, t.keep c0 this, t.keep c1 this, t.keep c2 this⟩⟩
theorem MsAt.turn_no {w w' : World} {a : Option Addr} {cap : Nat} {l : List Mb} (h : MsAt w a cap l) (t : Turn no w w') : MsAt w' a cap l := h.turn t (fun _ _ q => q)
theorem Ms.turn_no {w w' : World} {v : Value} {l : List Mb} (h : Ms w v l) (t : Turn no w w') : Ms w' v l := by
  obtain ⟨a, cap, e, h⟩ := h
  exact ⟨a, cap, e, h.turn_no t⟩

set_option maxRecDepth 100000 in
set_option maxHeartbeats 1000000 in
theorem weigh36 (w : World) (v : Value) (l : List Mb) (h : Ms w v l) : Calls Tryd.prog 16 #[v] w fun e w' => e = .returned (.tuple #[.int .u64 (weighT l), .int .i64 (weighE l)]) ∧ Turn no w w' := by
  obtain ⟨a, cap, rfl, h⟩ := h
  have hcells := h.cells
  have hok := h.ok
  have hle : l.length ≤ 9223372036854775807 := by have := h.le; have := h.cap; simp only [maxLen] at this; omega
  clear h
  obtain ⟨n, hn⟩ : ∃ n, Hid (l.length = n) := ⟨_, rfl⟩
  have hn' : l.length = n := hn.out
  rw [hn'] at hle ⊢
  by_cases h0 : n = 0
  · have : weighE l = 53 := by rw [weighE, if_pos (by omega)]
    have HW : Hid (weighE l = _) := this
    clear this
    clear hn'
    subst h0
    go_enter Tryd.func16, Tryd.ntmps16
    go_wp2_with fail
    go_ret2
    exact ⟨ret2_eq (weighT_no l HW.out (by decide)) HW.out.symm, Turn.refl _ _⟩
  have b0 : ((n : Int) == 0) = false := by simp; omega
  by_cases h64 : 64 < n
  · have : weighE l = 4 := by rw [weighE, if_neg (by omega), if_pos (by omega)]
    have HW : Hid (weighE l = _) := this
    clear this
    have : (64 : Int) < (n : Int) := by omega
    clear hn'
    go_enter Tryd.func16, Tryd.ntmps16
    go_wp2_with fail
    go_ret2
    exact ⟨ret2_eq (weighT_no l HW.out (by decide)) HW.out.symm, Turn.refl _ _⟩
  have i64 : ¬ (64 : Int) < (n : Int) := by omega
  have W0 : scan 0 l ≠ 0 → weighE l = scan 0 l := weigh_scan l (by omega) (by omega)
  have W1 : scan 0 l = 0 → weighE l = if top < tot l then 51 else 0 := weigh_end l (by omega) (by omega)
  clear hn'
  go_enter Tryd.func16, Tryd.ntmps16
  go_wp2_with fail
  go_loopw [4, 5, 16] (fun x y c wr => ∃ k : Nat, k ≤ n ∧ c = .int .i64 k ∧ x = .int .u64 (prev l k) ∧ y = .int .u64 (min (tot (l.take k)) 1152921504606846976 : Nat) ∧ scan 0 l = scan (prev l k) (l.drop k) ∧ Turn no w wr) (fun _ _ c _ => n - (intOf c).toNat)
  case atStart => exact ⟨0, by omega, rfl, rfl, by simp [tot], by simp [prev], Turn.refl _ _⟩
  case round =>
    obtain ⟨k, hk, rfl, rfl, rfl, hsc, T⟩ := hrel
    by_cases hlt : k < n
    · obtain ⟨m, hm⟩ : ∃ m, l[k]? = some m := ⟨l[k]'(by rw [hn.out]; exact hlt), List.getElem?_eq_getElem _⟩
      obtain ⟨b, off, rfl, c0, c1, c2⟩ := hcells k m hm
      have c0 := T.keep c0 (fun q => q)
      have c1 := T.keep c1 (fun q => q)
      have c2 := T.keep c2 (fun q => q)
      obtain ⟨o1, o2, o3, o4⟩ := hok m (List.mem_of_getElem? hm)
      have hlt' : (k : Int) < (n : Int) := by omega
      have H85 := scan_85 l k m hm hsc
      have H52 := scan_52 l k m hm hsc
      have H50 := scan_50 l k m hm hsc
      have HST := scan_step l k m hm hsc
      have HTT := tot_take_succ l k m hm
      have HPS := prev_succ l k m hm
      clear hcells hok hsc hm
      have TA : ∀ o : Obj, Turn no w (wr.alloc o) := fun o => T.alloc o
      by_cases a1 : m.ad = 0
      · have hw : weighE l = 85 := (W0 (by rw [H85 a1]; decide)).trans (H85 a1)
        have HW : Hid (weighE l = _) := hw
        have a1' : ((m.ad : Int) == 0) = true := by simp; omega
        clear H85 H52 H50 HST HTT HPS W0 W1 hw
        go_wp2_with fail
        go_ret2
        exact ⟨ret2_eq (weighT_no l HW.out (by decide)) HW.out.symm, TA _⟩
      have a1' : ((m.ad : Int) == 0) = false := by simp; omega
      by_cases a2 : m.ad ≤ prev l k
      · have hw : weighE l = 52 := (W0 (by rw [H52 a1 a2]; decide)).trans (H52 a1 a2)
        have HW : Hid (weighE l = _) := hw
        have a2' : (m.ad : Int) ≤ (prev l k : Int) := by omega
        clear H85 H52 H50 HST HTT HPS W0 W1 hw
        go_wp2_with fail
        go_ret2
        exact ⟨ret2_eq (weighT_no l HW.out (by decide)) HW.out.symm, TA _⟩
      have a2' : ¬ (m.ad : Int) ≤ (prev l k : Int) := by omega
      by_cases a3 : m.pw = 0
      · have hw : weighE l = 50 := (W0 (by rw [H50 a1 a2 (.inl a3)]; decide)).trans (H50 a1 a2 (.inl a3))
        have HW : Hid (weighE l = _) := hw
        have a3' : ((m.pw : Int) == 0) = true := by simp; omega
        clear H85 H52 H50 HST HTT HPS W0 W1 hw
        go_wp2_with fail
        go_ret2
        exact ⟨ret2_eq (weighT_no l HW.out (by decide)) HW.out.symm, TA _⟩
      have a3' : ((m.pw : Int) == 0) = false := by simp; omega
      by_cases a4 : top < m.pw
      · have hw : weighE l = 50 := (W0 (by rw [H50 a1 a2 (.inr a4)]; decide)).trans (H50 a1 a2 (.inr a4))
        have HW : Hid (weighE l = _) := hw
        have a4' : (1152921504606846975 : Int) < (m.pw : Int) := by unfold top at a4; omega
        clear H85 H52 H50 HST HTT HPS W0 W1 hw
        go_wp2_with fail
        go_ret2
        exact ⟨ret2_eq (weighT_no l HW.out (by decide)) HW.out.symm, TA _⟩
      have a4' : ¬ (1152921504606846975 : Int) < (m.pw : Int) := by unfold top at a4; omega
      have HS2 : Hid (scan 0 l = scan (prev l (k + 1)) (l.drop (k + 1))) := HST a1 a2 a3 a4
      have HT2 : Hid (tot (l.take (k + 1)) = tot (l.take k) + m.pw) := HTT
      have HP2 : Hid (prev l (k + 1) = m.ad) := HPS
      clear H85 H52 H50 HST HTT HPS W0 W1 a4
      obtain ⟨s, hs⟩ : ∃ s, Hid (min (tot (l.take k)) 1152921504606846976 = s) := ⟨_, rfl⟩
      rw [show min (tot (l.take k)) 1152921504606846976 = s from hs.out]
      have hsb : (s : Int) ≤ 1152921504606846976 := by have := hs.out; omega
      by_cases a5 : (1152921504606846976 : Int) < (s : Int) + (m.pw : Int)
      all_goals
        go_wp2_with fail
        go_roundw
        case rel => exact ⟨k + 1, by omega, by go_num, by rw [HP2.out], by rw [HT2.out]; have := hs.out; go_num, HS2.out, TA _⟩
        case measure => simp [intOf]; omega
    · have hkn : k = n := by omega
      subst hkn
      have hlt' : ¬ (k : Int) < (k : Int) := by omega
      have htk : l.take k = l := List.take_of_length_le (by rw [hn.out]; exact Nat.le_refl _)
      have hs0 : scan 0 l = 0 := scan_end l (by rw [hn.out]; exact hsc)
      have hw := W1 hs0
      rw [htk]
      by_cases a4 : top < tot l
      · rw [if_pos a4] at hw
        have HW : Hid (weighE l = _) := hw
        have e : min (tot l) 1152921504606846976 = 1152921504606846976 := by unfold top at a4; omega
        rw [e]
        clear hw hs0 htk hsc W0 W1
        go_wp2_with fail
        go_ret2
        exact ⟨ret2_eq (weighT_no l HW.out (by decide)) HW.out.symm, T⟩
      · rw [if_neg a4] at hw
        have HW : Hid (weighE l = _) := hw
        have e : min (tot l) 1152921504606846976 = tot l := by unfold top at a4; omega
        rw [e]
        have a4' : ¬ (1152921504606846975 : Int) < (tot l : Int) := by unfold top at a4; omega
        clear hw hs0 htk hsc W0 W1 e
        go_wp2_with fail
        go_ret2
        exact ⟨ret2_eq (by rw [weighT_ok l HW.out]) HW.out.symm, T⟩
end Go.Proofs.YtgjhhmdpepdepaaDoor

