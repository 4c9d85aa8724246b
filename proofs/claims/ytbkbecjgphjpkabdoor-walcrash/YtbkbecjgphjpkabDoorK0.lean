/- The check, frames and Scan, as plain data. -/
import Derived.Test.YtbkbecjgphjpkabDoorC2
namespace Go.Proofs.YtbkbecjgphjpkabDoor
open Go.RowKit
set_option linter.unusedVariables false

/-- What comes over the register when four bits have gone out of it. -/
def tab : List Nat := [0, 498536548, 997073096, 651767980, 1994146192, 1802195444, 1303535960, 1342533948, 3988292384, 4027552580, 3604390888, 3412177804, 2607071920, 2262029012, 2685067896, 3183342108]
def tabN (i : Nat) : Nat := tab.getD i 0
def nib (r : Nat) : Nat := tabN (r % 16) ^^^ (r / 16)
def crcStep (r : Nat) (c : UInt8) : Nat := nib (nib (r ^^^ c.toNat))
def crcR (bs : List UInt8) (r : Nat) : Nat := bs.foldl crcStep r
def crc (bs : List UInt8) : Nat := 4294967295 - crcR bs 4294967295

theorem tab_lt : ∀ i, i < 16 → tabN i < 2 ^ 32 := by decide
theorem tab_inj : ∀ i, i < 16 → ∀ j, j < 16 → tabN i / 2 ^ 28 = tabN j / 2 ^ 28 → i = j := by decide
theorem nib_lt {r : Nat} (h : r < 2 ^ 32) : nib r < 2 ^ 32 := Nat.xor_lt_two_pow (tab_lt _ (by omega)) (by omega)
theorem step_lt {r : Nat} (h : r < 2 ^ 32) (c : UInt8) : crcStep r c < 2 ^ 32 := nib_lt (nib_lt (Nat.xor_lt_two_pow h (by have := UInt8.toNat_lt c; omega)))
theorem crcR_lt (bs : List UInt8) : ∀ {r : Nat}, r < 2 ^ 32 → crcR bs r < 2 ^ 32 := by
  induction bs with
  | nil => intro r h; exact h
  | cons c l ih => intro r h; exact ih (step_lt h c)
theorem crc_lt (bs : List UInt8) : crc bs < 4294967296 := by unfold crc; omega

theorem xor_div28 (a b : Nat) : (a ^^^ b) / 2 ^ 28 = (a / 2 ^ 28) ^^^ (b / 2 ^ 28) := by
  rw [← Nat.shiftRight_eq_div_pow, ← Nat.shiftRight_eq_div_pow, ← Nat.shiftRight_eq_div_pow, Nat.shiftRight_xor_distrib]
theorem xor_inj {a b c : Nat} (h : a ^^^ b = a ^^^ c) : b = c := by
  have := congrArg (a ^^^ ·) h
  simpa [← Nat.xor_assoc] using this
theorem nib_inj {r s : Nat} (hr : r < 2 ^ 32) (hs : s < 2 ^ 32) (h : nib r = nib s) : r = s := by
  have h1 := congrArg (· / 2 ^ 28) h
  simp only [nib, xor_div28] at h1
  have e1 : r / 16 / 2 ^ 28 = 0 := by omega
  have e2 : s / 16 / 2 ^ 28 = 0 := by omega
  rw [e1, e2, Nat.xor_zero, Nat.xor_zero] at h1
  have h2 := tab_inj _ (by omega) _ (by omega) h1
  unfold nib at h
  rw [h2] at h
  have := xor_inj h
  omega
theorem step_inj_r {r s : Nat} (hr : r < 2 ^ 32) (hs : s < 2 ^ 32) (c : UInt8) (h : crcStep r c = crcStep s c) : r = s := by
  have hc := UInt8.toNat_lt c
  have l1 : r ^^^ c.toNat < 2 ^ 32 := Nat.xor_lt_two_pow hr (by omega)
  have l2 : s ^^^ c.toNat < 2 ^ 32 := Nat.xor_lt_two_pow hs (by omega)
  have := nib_inj l1 l2 (nib_inj (nib_lt l1) (nib_lt l2) h)
  rw [Nat.xor_comm r, Nat.xor_comm s] at this
  exact xor_inj this
theorem step_inj_c {r : Nat} (hr : r < 2 ^ 32) (c d : UInt8) (h : crcStep r c = crcStep r d) : c = d := by
  have hc := UInt8.toNat_lt c
  have hd := UInt8.toNat_lt d
  have l1 : r ^^^ c.toNat < 2 ^ 32 := Nat.xor_lt_two_pow hr (by omega)
  have l2 : r ^^^ d.toNat < 2 ^ 32 := Nat.xor_lt_two_pow hr (by omega)
  exact UInt8.toNat_inj.1 (xor_inj (nib_inj l1 l2 (nib_inj (nib_lt l1) (nib_lt l2) h)))
theorem crcR_inj (bs : List UInt8) : ∀ {r s : Nat}, r < 2 ^ 32 → s < 2 ^ 32 → crcR bs r = crcR bs s → r = s := by
  induction bs with
  | nil => intro r s _ _ h; exact h
  | cons c l ih => intro r s hr hs h; exact step_inj_r hr hs c (ih (step_lt hr c) (step_lt hs c) h)
theorem crcR_append (a b : List UInt8) (r : Nat) : crcR (a ++ b) r = crcR b (crcR a r) := by simp [crcR, List.foldl_append]
theorem crcR_take (bs : List UInt8) (k : Nat) (h : k < bs.length) (r : Nat) : crcR (bs.take (k + 1)) r = crcStep (crcR (bs.take k) r) bs[k] := by
  rw [List.take_succ_eq_append_getElem h, crcR_append]
  rfl
/-- One byte changed: another check. -/
theorem crc_ne (l : List UInt8) (k : Nat) (hk : k < l.length) (v : UInt8) (hv : v ≠ l[k]) : crc (l.set k v) ≠ crc l := by
  intro h
  have hB : (4294967295 : Nat) < 2 ^ 32 := by omega
  have h1 := crcR_lt l hB
  have h2 := crcR_lt (l.set k v) hB
  have h3 : crcR (l.set k v) 4294967295 = crcR l 4294967295 := by unfold crc at h; omega
  have e1 : l.set k v = l.take k ++ v :: l.drop (k + 1) := by rw [List.set_eq_take_append_cons_drop, if_pos hk]
  have e2 : l = l.take k ++ l[k] :: l.drop (k + 1) := by rw [← List.drop_eq_getElem_cons hk, List.take_append_drop]
  have h4 : crcR (l.take k ++ v :: l.drop (k + 1)) 4294967295 = crcR (l.take k ++ l[k] :: l.drop (k + 1)) 4294967295 := by rw [← e1, ← e2]; exact h3
  rw [crcR_append, crcR_append] at h4
  have hr := crcR_lt (l.take k) hB
  have h5 := crcR_inj (l.drop (k + 1)) (step_lt hr v) (step_lt hr l[k]) h4
  exact hv (step_inj_c hr _ _ h5)
end Go.Proofs.YtbkbecjgphjpkabDoor
