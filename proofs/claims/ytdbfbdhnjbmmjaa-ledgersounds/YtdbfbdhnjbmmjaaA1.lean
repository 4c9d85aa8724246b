/- A list of accounts in memory; soundAccounts. -/
import Derived.Test.YtdbfbdhnjbmmjaaBaseN
import Derived.Test.YtdbfbdhnjbmmjaaRows
namespace Go.Proofs.Ytdbfbdhnjbmmjaa
open Go.RowKit
set_option linter.unusedVariables false

/-- An account. -/
structure Ac where
  ad : Nat
  bal : Nat
  bond : Nat
  nonce : Nat
  jail : Bool
def Ac.ok (m : Ac) : Prop := m.ad < 18446744073709551616 ∧ m.bal < 18446744073709551616 ∧ m.bond < 18446744073709551616 ∧ m.nonce < 18446744073709551616
/-- What is wrong with accounts behind an address. -/
def scanA : Nat → List Ac → Int
  | _, [] => 0
  | p, m :: r => if m.ad = 0 then 85 else if m.ad ≤ p then 42 else if 1152921504606846975 < m.bal ∨ 1152921504606846975 < m.bond then 87 else scanA m.ad r
theorem scanA_at {l : List Ac} {k : Nat} {m : Ac} (h : l[k]? = some m) (p : Nat) : scanA p (l.drop k) = if m.ad = 0 then 85 else if m.ad ≤ p then 42 else if 1152921504606846975 < m.bal ∨ 1152921504606846975 < m.bond then 87 else scanA m.ad (l.drop (k + 1)) := by
  obtain ⟨hk, rfl⟩ := List.getElem?_eq_some_iff.1 h
  rw [List.drop_eq_getElem_cons hk]
  rfl
/-- A list of accounts, wherever it lies. -/
structure AsAt (w : World) (a : Option Addr) (cap : Nat) (l : List Ac) : Prop where
  le : l.length ≤ cap
  cap : cap ≤ maxLen
  ok : ∀ m ∈ l, m.ok
  cells : ∀ j m, l[j]? = some m → ∃ b off, a = some ⟨b, off, none⟩ ∧ w.cell? ⟨b, off + j * 5, none⟩ = some (.int .u64 m.ad) ∧ w.cell? ⟨b, off + j * 5 + 1, none⟩ = some (.int .u64 m.bal) ∧ w.cell? ⟨b, off + j * 5 + 2, none⟩ = some (.int .u64 m.bond) ∧ w.cell? ⟨b, off + j * 5 + 3, none⟩ = some (.int .u64 m.nonce) ∧ w.cell? ⟨b, off + j * 5 + 4, none⟩ = some (.bool m.jail)
def As (w : World) (v : Value) (l : List Ac) : Prop := ∃ a cap, v = .slice a l.length cap ∧ AsAt w a cap l
theorem AsAt.turn {S : Nat → Prop} {w w' : World} {a : Option Addr} {cap : Nat} {l : List Ac} (h : AsAt w a cap l) (t : Turn S w w') (hn : ∀ x, a = some x → ¬ S x.block) : AsAt w' a cap l :=
  ⟨h.le, h.cap, h.ok, fun j m hj => by
    obtain ⟨b, off, e, c0, c1, c2, c3, c4⟩ := h.cells j m hj
    have := hn _ e
    exact ⟨b, off, e, t.keep c0 this, t.keep c1 this, t.keep c2 this, t.keep c3 this, t.keep c4 this⟩⟩
theorem AsAt.turn_no {w w' : World} {a : Option Addr} {cap : Nat} {l : List Ac} (h : AsAt w a cap l) (t : Turn no w w') : AsAt w' a cap l := h.turn t (fun _ _ q => q)
theorem As.turn_no {w w' : World} {v : Value} {l : List Ac} (h : As w v l) (t : Turn no w w') : As w' v l := by
  obtain ⟨a, cap, e, h⟩ := h
  exact ⟨a, cap, e, h.turn_no t⟩

set_option maxRecDepth 100000 in
set_option maxHeartbeats 2000000 in
theorem soundA27 (w : World) (v : Value) (l : List Ac) (h : As w v l) : Calls Try.prog 27 #[v] w fun e w' => e = .returned (.int .i64 (scanA 0 l)) ∧ Turn no w w' := by
  obtain ⟨a, cap, rfl, h⟩ := h
  have hcells := h.cells
  have hok := h.ok
  have hle : l.length ≤ 9223372036854775807 := by have := h.le; have := h.cap; simp only [maxLen] at this; omega
  clear h
  obtain ⟨n, hn⟩ : ∃ n, Hid (l.length = n) := ⟨_, rfl⟩
  have hn' : l.length = n := hn.out
  rw [hn'] at hle ⊢
  clear hn'
  go_enter Try.func27, Try.ntmps27
  go_wp2_with fail
  go_loopw [3, 8] (fun x c wr => ∃ k p : Nat, k ≤ n ∧ c = .int .i64 k ∧ x = .int .u64 p ∧ scanA 0 l = scanA p (l.drop k) ∧ Turn no w wr) (fun _ c _ => n - (intOf c).toNat)
  case atStart => exact ⟨0, 0, by omega, rfl, rfl, rfl, Turn.refl _ _⟩
  case round =>
    obtain ⟨k, p, hk, rfl, rfl, hsc, T⟩ := hrel
    by_cases hlt : k < n
    · obtain ⟨m, hm⟩ : ∃ m, l[k]? = some m := ⟨l[k]'(by rw [hn.out]; exact hlt), List.getElem?_eq_getElem _⟩
      obtain ⟨b, off, rfl, c0, c1, c2, c3, c4⟩ := hcells k m hm
      have c0 := T.keep c0 (fun q => q)
      have c1 := T.keep c1 (fun q => q)
      have c2 := T.keep c2 (fun q => q)
      have c3 := T.keep c3 (fun q => q)
      have c4 := T.keep c4 (fun q => q)
      have hlt' : (k : Int) < (n : Int) := by omega
      have hst := scanA_at hm p
      rw [← hsc] at hst
      clear hcells hok hsc hm
      have TA : ∀ o : Obj, Turn no w (wr.alloc o) := fun o => T.alloc o
      by_cases a1 : m.ad = 0
      · rw [if_pos a1] at hst
        have HW : Hid (scanA 0 l = _) := hst
        have a1' : ((m.ad : Int) == 0) = true := by simp; omega
        clear hst
        go_wp2_with fail
        go_ret
        exact ⟨by rw [HW.out]; rfl, TA _⟩
      rw [if_neg a1] at hst
      have a1' : ((m.ad : Int) == 0) = false := by simp; omega
      by_cases a2 : m.ad ≤ p
      · rw [if_pos a2] at hst
        have HW : Hid (scanA 0 l = _) := hst
        have a2' : (m.ad : Int) ≤ (p : Int) := by omega
        clear hst
        go_wp2_with fail
        go_ret
        exact ⟨by rw [HW.out]; rfl, TA _⟩
      rw [if_neg a2] at hst
      have a2' : ¬ (m.ad : Int) ≤ (p : Int) := by omega
      by_cases a3 : 1152921504606846975 < m.bal
      · rw [if_pos (.inl a3)] at hst
        have HW : Hid (scanA 0 l = _) := hst
        have a3' : (1152921504606846975 : Int) < (m.bal : Int) := by omega
        clear hst
        go_wp2_with fail
        go_ret
        exact ⟨by rw [HW.out]; rfl, TA _⟩
      have a3' : ¬ (1152921504606846975 : Int) < (m.bal : Int) := by omega
      by_cases a4 : 1152921504606846975 < m.bond
      · rw [if_pos (.inr a4)] at hst
        have HW : Hid (scanA 0 l = _) := hst
        have a4' : (1152921504606846975 : Int) < (m.bond : Int) := by omega
        clear hst
        go_wp2_with fail
        go_ret
        exact ⟨by rw [HW.out]; rfl, TA _⟩
      rw [if_neg (by omega)] at hst
      have a4' : ¬ (1152921504606846975 : Int) < (m.bond : Int) := by omega
      have HW : Hid (scanA 0 l = _) := hst
      clear hst
      go_wp2_with fail
      go_roundw
      case rel => exact ⟨k + 1, m.ad, by omega, by go_num, rfl, HW.out, TA _⟩
      case measure => simp [intOf]; omega
    · have hlt' : ¬ (k : Int) < (n : Int) := by omega
      have he : scanA 0 l = 0 := by
        rw [hsc, List.drop_of_length_le (by have := hn.out; omega)]
        rfl
      have HW : Hid (scanA 0 l = _) := he
      clear he hsc hcells
      go_wp2_with fail
      go_ret
      exact ⟨by rw [HW.out]; rfl, T⟩
end Go.Proofs.Ytdbfbdhnjbmmjaa
