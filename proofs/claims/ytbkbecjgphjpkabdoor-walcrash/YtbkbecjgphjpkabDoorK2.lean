/- Walks: number, checked, sizeTold, frameSize, copied. -/
import Derived.Test.YtbkbecjgphjpkabDoorK1
import Derived.Laws.CopyRow
import Derived.Laws.IdiomCopy
import Derived.Laws.MakeOwn
import Derived.Deep.RegionHeld3
namespace Go.Proofs.YtbkbecjgphjpkabDoor
open Go.RowKit
set_option linter.unusedVariables false

/-- A slice of a slice of bytes. -/
theorem bs_sub {w : World} {b off cap : Nat} {bs : List UInt8} (hc : bs.length ≤ cap) (hm : cap ≤ maxLen) (hca : ∀ j, j < bs.length → w.cell? ⟨b, off + j, none⟩ = some (.int .u8 (bs.getD j 0).toNat)) (lo hi : Nat) (h : lo ≤ hi) (hh : hi ≤ bs.length) :
    Bs w (.slice (some ⟨b, off + lo, none⟩) (hi - lo) (cap - lo)) ((bs.take hi).drop lo) := by
  have hl : ((bs.take hi).drop lo).length = hi - lo := by simp; omega
  refine Or.inr ⟨⟨b, off + lo, none⟩, cap - lo, by rw [hl], by rw [hl]; omega, by omega, fun j u hu => ?_⟩
  have hj : j < hi - lo := by rw [← hl]; exact (List.getElem?_eq_some_iff.1 hu).1
  rw [Addr.add_lit, show off + lo + j = off + (lo + j) by omega, hca (lo + j) (by omega)]
  rw [List.getElem?_drop, List.getElem?_take, if_pos (by omega)] at hu
  rw [List.getD_eq_getElem?_getD, hu]
  rfl
theorem Bs.atm {w : World} {v : Value} {bs : List UInt8} (h : Bs w v bs) (hp : 0 < bs.length) :
    ∃ b off cap, v = .slice (some ⟨b, off, none⟩) bs.length cap ∧ bs.length ≤ cap ∧ cap ≤ maxLen ∧ ∀ j, j < bs.length → w.cell? ⟨b, off + j, none⟩ = some (.int .u8 (bs.getD j 0).toNat) := by
  obtain ⟨b, off, cap, rfl, h1, h2⟩ := h.at hp
  refine ⟨b, off, cap, rfl, h1, ?_, h2⟩
  rcases h with ⟨q, _⟩ | ⟨_, _, q, _, h3, _⟩
  · cases q
  · cases q; exact h3

set_option maxRecDepth 100000 in
set_option maxHeartbeats 1000000 in
theorem number_any (w : World) (v : Value) (bs : List UInt8) (hb : Bs w v bs) (h4 : bs.length = 4) :
    Calls Tryd.prog 52 #[v] w fun e w' => e = .returned (.int .u32 (lsum bs 4)) ∧ Turn no w w' := by
  have c1 := newReader_any w v bs hb (by omega)
  go_enter Tryd.func52, Tryd.ntmps52
  go_wp2_with fail
  refine c1.mono ?_
  rintro e w1 ⟨p, v', rfl, R, F, t⟩
  have c2 := u32_good w1 p v' bs 0 R (by omega)
  go_wp2_with fail
  refine c2.mono ?_
  rintro e w2 ⟨rfl, R2, t2⟩
  rw [List.drop_zero] at *
  go_wp2_with fail
  go_ret
  exact ⟨rfl, t.trans t2 (fun i hi q => by have := F p (Or.inl rfl); omega)⟩

/-- Are the last four bytes the check of those ahead of them? -/
def checkedB (b : List UInt8) : Bool := lsum (b.drop (b.length - 4)) 4 == crc (b.take (b.length - 4))
theorem eq_nat (a b : Nat) : ((a : Int) == (b : Int)) = (a == b) := by
  by_cases h : a = b
  · simp [h]
  · have : (a : Int) ≠ (b : Int) := by omega
    rw [beq_eq_false_iff_ne.2 h, beq_eq_false_iff_ne.2 this]

set_option maxRecDepth 100000 in
set_option maxHeartbeats 2000000 in
theorem checked_any (w : World) (v : Value) (bs : List UInt8) (hb : Bs w v bs) (h4 : 4 ≤ bs.length) (hL : LaidT w) :
    Calls Tryd.prog 36 #[v] w fun e w' => e = .returned (.bool (checkedB bs)) ∧ Turn no w w' := by
  have hle := hb.le
  unfold maxLen at hle
  obtain ⟨b, off, cap, rfl, hc, hm, hca⟩ := hb.atm (by omega)
  have hB1 := bs_sub hc hm hca (bs.length - 4) bs.length (by omega) (Nat.le_refl _)
  have hB2 := bs_sub hc hm hca 0 (bs.length - 4) (by omega) (by omega)
  rw [List.take_length] at hB1
  rw [List.drop_zero] at hB2
  have hl1 : (bs.drop (bs.length - 4)).length = 4 := by simp; omega
  have en : ((bs.length : Int) - 4) = ((bs.length - 4 : Nat) : Int) := by omega
  have hchk : Hid (checkedB bs = (lsum (bs.drop (bs.length - 4)) 4 == crc (bs.take (bs.length - 4)))) := rfl
  generalize hx : lsum (bs.drop (bs.length - 4)) 4 = x at *
  generalize hy : crc (bs.take (bs.length - 4)) = y at *
  have C1 : ∀ W, Turn no w W → Calls Tryd.prog 52 #[.slice (some ⟨b, off + (bs.length - 4), none⟩) (bs.length - (bs.length - 4)) (cap - (bs.length - 4))] W fun e w' => e = .returned (.int .u32 x) ∧ Turn no W w' := fun W t => by
    have := number_any W _ _ (hB1.turn_no t) hl1
    rw [hx] at this
    exact this
  have C2 : ∀ W, Turn no w W → Calls Tryd.prog 53 #[.slice (some ⟨b, off, none⟩) (bs.length - 4) cap] W fun e w' => e = .returned (.int .u32 y) ∧ w' = W := fun W t => by
    have := check_any W _ _ (hB2.turn_no t) (hL.turn_no t)
    rw [hy] at this
    exact this
  have hn4 : bs.length - 4 < cap := by omega
  generalize hn : bs.length - 4 = n at *
  generalize hN : bs.length = N at *
  have eN : N - n = 4 := by omega
  have hnN : n ≤ N := by omega
  rw [eN] at C1
  clear hca hb hB1 hB2 hx hy
  go_enter Tryd.func36, Tryd.ntmps36
  go_wp2_with fail
  refine wp_region_held_drew (S := fun W => Turn no w W) (by kernel_rfl) (Turn.refl _ w).drew (fun hHeld => ?_)
  refine' wpAnyH_take (i := 0) (v := .slice (some ⟨b, off, none⟩) N cap) rfl (by kernel_rfl) (by kernel_rfl) (by kernel_rfl) (fun _ _ _ h => h) (Or.inl ⟨by kernel_rfl, fun W hW => ?y1⟩) hHeld ?r1
  · go_simp
  refine' wpAnyH_take (i := 1) (v := .int .i64 n) rfl (by kernel_rfl) (by kernel_rfl) (by kernel_rfl) (fun _ _ _ h => h) (Or.inl ⟨by kernel_rfl, fun W hW => ?y2⟩) hHeld ?r2
  · go_simp
  refine' wpAnyH_take (i := 2) (v := .slice (some ⟨b, off + n, none⟩) 4 (cap - n)) rfl (by kernel_rfl) (by kernel_rfl) (by kernel_rfl) (fun _ _ _ h => h) (Or.inl ⟨by kernel_rfl, fun W hW => ?y3⟩) hHeld ?r3
  · go_simp
    first | done | omega
  refine' wpAnyH_take (i := 4) (v := .slice (some ⟨b, off, none⟩) N cap) rfl (by kernel_rfl) (by kernel_rfl) (by kernel_rfl) (fun _ _ _ h => h) (Or.inl ⟨by kernel_rfl, fun W hW => ?y4⟩) hHeld ?r4
  · go_simp
  refine' wpAnyH_take (i := 5) (v := .int .i64 n) rfl (by kernel_rfl) (by kernel_rfl) (by kernel_rfl) (fun _ _ _ h => h) (Or.inl ⟨by kernel_rfl, fun W hW => ?y5⟩) hHeld ?r5
  · go_simp
  refine' wpAnyH_take (i := 6) (v := .slice (some ⟨b, off, none⟩) n cap) rfl (by kernel_rfl) (by kernel_rfl) (by kernel_rfl) (fun _ _ _ h => h) (Or.inl ⟨by kernel_rfl, fun W hW => ?y6⟩) hHeld ?r6
  · go_simp
    first | done | omega
  refine wpAnyH_ready (rs := [3]) (by kernel_rfl) (by simp) ?_
  refine AllReadyH.cons rfl (fun K hK => ?_) AllReadyH.nil
  go_simp
  refine (C1 _ hHeld).mono ?_
  rintro e w1 ⟨rfl, t⟩
  have t := hHeld.then_no t
  refine hK.out _ _ t (fun hHeld => ?_)
  clear hK
  refine wpAnyH_ready (rs := [7]) (by kernel_rfl) (by simp) ?_
  refine AllReadyH.cons rfl (fun K hK => ?_) AllReadyH.nil
  go_simp
  refine (C2 _ hHeld).mono ?_
  rintro e w2 ⟨rfl, rfl⟩
  refine hK.out _ _ hHeld (fun hHeld => ?_)
  clear hK
  refine' wpAnyH_take (i := 8) (v := .bool ((x : Int) == (y : Int))) rfl (by kernel_rfl) (by kernel_rfl) (by kernel_rfl) (fun _ _ _ h => h) (Or.inl ⟨by kernel_rfl, fun W hW => ?y7⟩) hHeld ?r7
  · go_simp
  refine wpAnyH_ready (rs := [9]) (by kernel_rfl) (by simp) ?_
  refine AllReadyH.cons rfl (fun K hK => ?_) AllReadyH.nil
  go_simp
  refine hK.out _ _ hHeld (fun hHeld => ?_)
  clear hK
  refine wpAnyH_done (by kernel_rfl) ?_ _
  go_wp2_with fail
  go_ret
  rw [hchk.out, ← eq_nat]
  exact ⟨rfl, hHeld⟩
end Go.Proofs.YtbkbecjgphjpkabDoor
