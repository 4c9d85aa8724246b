/- Walks: check. -/
import Derived.Test.YtbkbecjgphjpkabDoorK0
import Derived.Laws.BitsAllLaws
namespace Go.Proofs.YtbkbecjgphjpkabDoor
open Go.RowKit
set_option linter.unusedVariables false

/-- The table lies where the program has laid it. -/
def LaidT (w : World) : Prop := ∀ j, j < 16 → w.cell? ⟨0, j, none⟩ = some (.int .u32 ((tabN j : Nat) : Int))
theorem LaidT.turn {S : Nat → Prop} {w w' : World} (h : LaidT w) (t : Turn S w w') (hn : ¬ S 0) : LaidT w' := fun j hj => t.keep (h j hj) hn
theorem LaidT.turn_no {w w' : World} (h : LaidT w) (t : Turn no w w') : LaidT w' := h.turn t (fun q => q)

theorem xor8 (r : Nat) (c : UInt8) (hr : r < 2 ^ 32) : bits .xor .u32 (r : Int) ((c.toNat : Nat) : Int) = ((r ^^^ c.toNat : Nat) : Int) := u32_xor_nat r c.toNat (by omega) (by have := UInt8.toNat_lt c; omega)
theorem and15 (r : Nat) (hr : r < 2 ^ 32) : bits .and .u32 (r : Int) 15 = ((r % 16 : Nat) : Int) := by
  have := u32_and_nat r 15 (by omega) (by omega)
  rw [show ((15 : Nat) : Int) = 15 from rfl] at this
  rw [this, show (15 : Nat) = 2 ^ 4 - 1 from rfl, Nat.and_two_pow_sub_one_eq_mod]
theorem xorT (r : Nat) (hr : r < 2 ^ 32) : bits .xor .u32 ((tabN (r % 16) : Nat) : Int) ((r : Int) / 16) = ((nib r : Nat) : Int) := by
  have := u32_xor_nat (tabN (r % 16)) (r / 16) (tab_lt _ (by omega)) (by omega)
  rw [show ((r / 16 : Nat) : Int) = (r : Int) / 16 from by omega] at this
  exact this

theorem xor8m (r : Nat) (c : UInt8) (hr : r < 2 ^ 32) : bits .xor .u32 (r : Int) (((c.toNat : Nat) : Int) % 4294967296) = ((r ^^^ c.toNat : Nat) : Int) := by
  rw [← xor8 r c hr, Int.emod_eq_of_lt (by omega) (by have := UInt8.toNat_lt c; omega)]
theorem not32 (r : Nat) (hr : r < 2 ^ 32) : (2 ^ 32 - 1) ^^^ r = 2 ^ 32 - 1 - r := by
  apply Nat.eq_of_testBit_eq
  intro i
  rw [Nat.testBit_xor, show 2 ^ 32 - 1 - r = 2 ^ 32 - (r + 1) by omega, Nat.testBit_two_pow_sub_succ hr, Nat.testBit_two_pow_sub_one]
  by_cases hi : i < 32
  · simp [hi]
  · have : r.testBit i = false := Nat.testBit_lt_two_pow (Nat.lt_of_lt_of_le hr (Nat.pow_le_pow_right (by omega) (by omega)))
    simp [hi, this]
theorem compl32 (r : Nat) (hr : r < 2 ^ 32) : bits .xor .u32 IntKind.u32.max (r : Int) = ((4294967295 - r : Nat) : Int) := by
  have := u32_xor_nat 4294967295 r (by omega) (by omega)
  rw [show (4294967295 : Nat) ^^^ r = 4294967295 - r from not32 r hr] at this
  exact this

set_option maxRecDepth 100000 in
set_option maxHeartbeats 1000000 in
theorem check_any (w : World) (v : Value) (bs : List UInt8) (hb : Bs w v bs) (hL : LaidT w) :
    Calls Tryd.prog 53 #[v] w fun e w' => e = .returned (.int .u32 (crc bs)) ∧ w' = w := by
  have hl := hb.le
  unfold maxLen at hl
  by_cases h0 : bs.length = 0
  · obtain ⟨a, c, rfl⟩ := hb.slice
    have e1 : bs = [] := List.eq_nil_of_length_eq_zero h0
    subst e1
    clear hb
    go_enter Tryd.func53, Tryd.ntmps53
    go_wp2
    go_loop [3, 8] (fun r i => i = .int .i64 0 ∧ r = .int .u32 4294967295) (fun _ _ => 0)
    case atStart => exact ⟨rfl, rfl⟩
    case round =>
      obtain ⟨rfl, rfl⟩ := hrel
      go_wp2
      go_ret
      exact ⟨rfl, rfl⟩
  · obtain ⟨b, off, cap, rfl, _, hca⟩ := hb.at (by omega)
    clear hb
    go_enter Tryd.func53, Tryd.ntmps53
    go_wp2
    go_loop [3, 8] (fun r i => ∃ k : Nat, k ≤ bs.length ∧ i = .int .i64 k ∧ r = .int .u32 (crcR (bs.take k) 4294967295 : Nat)) (fun _ i => bs.length - (intOf i).toNat)
    case atStart => exact ⟨0, Nat.zero_le _, rfl, rfl⟩
    case round =>
      obtain ⟨k, hk, rfl, rfl⟩ := hrel
      by_cases hlt : k < bs.length
      · have g := hca k hlt
        have hR : crcR (bs.take k) 4294967295 < 2 ^ 32 := crcR_lt _ (by omega)
        have HN : Hid (crcR (bs.take (k + 1)) 4294967295 = crcStep (crcR (bs.take k) 4294967295) bs[k]) := crcR_take bs k hlt _
        generalize crcR (bs.take k) 4294967295 = r at *
        have x1 := xor8m r bs[k] hR
        have hR1 : r ^^^ bs[k].toNat < 2 ^ 32 := Nat.xor_lt_two_pow hR (by have := UInt8.toNat_lt bs[k]; omega)
        unfold crcStep at HN
        generalize r ^^^ bs[k].toNat = r1 at *
        have x2 := and15 r1 hR1
        have x3 := xorT r1 hR1
        have x4 := hL (r1 % 16) (by omega)
        have hR2 := nib_lt hR1
        generalize nib r1 = r2 at *
        have x5 := and15 r2 hR2
        have x6 := xorT r2 hR2
        have x7 := hL (r2 % 16) (by omega)
        go_wp2
        go_round
        case rel => exact ⟨k + 1, by omega, by go_num, by rw [HN.out]⟩
        case measure => simp [intOf]; omega
      · have hR : crcR (bs.take k) 4294967295 < 2 ^ 32 := crcR_lt _ (by omega)
        have e : crc bs = 4294967295 - crcR (bs.take k) 4294967295 := by rw [List.take_of_length_le (by omega)]; rfl
        have x1 := compl32 _ hR
        have E : Hid (crc bs = 4294967295 - crcR (bs.take k) 4294967295) := e
        clear e
        generalize crcR (bs.take k) 4294967295 = r at *
        have hs : IntKind.u32.signed = false := rfl
        go_wp2
        all_goals first | (go_ret; rw [E.out]; exact ⟨rfl, rfl⟩) | skip
end Go.Proofs.YtbkbecjgphjpkabDoor
