/- The document's Frame. -/
import Derived.Test.YtbkbecjgphjpkaaDoorR1
namespace Go.Proofs.YtbkbecjgphjpkaaDoor
open Go.RowKit
set_option linter.unusedVariables false

/-- Bytes in memory that is new since w. -/
structure Nw (w wr : World) (v : Value) (B : List UInt8) : Prop where
  own : Own wr 5 v (B.map bv)
  fresh : ∀ g, v.ownBlock = some g → w.heap.size ≤ g
  t : Turn no w wr
theorem Nw.turn_no {w w1 w2 : World} {v : Value} {B : List UInt8} (h : Nw w w1 v B) (t : Turn no w1 w2) : Nw w w2 v B := ⟨h.own.turn_no t, h.fresh, h.t.then_no t⟩
theorem Nw.app {w w1 w2 : World} {v v' : Value} {B C : List UInt8} (h : Nw w w1 v B) (o : Own w2 5 v' ((B ++ C).map bv)) (g : Grew w1 w2 v v') : Nw w w2 v' (B ++ C) :=
  ⟨o, g.fresh h.fresh h.t.size, h.t.fresh g h.fresh⟩
theorem Nw.lit (w : World) (c : UInt8) : Nw w (w.alloc (.cells #[bv c] 5)) (.slice (some ⟨w.heap.size, 0, none⟩) 1 1) [c] :=
  ⟨Own.of (xs := ([c] : List UInt8).map bv) (heap_alloc_new w _) (by simp) (by simp [maxLen]) rfl rfl, fun g q => by cases q; exact Nat.le_refl _, (Turn.refl no w).alloc _⟩

theorem byte_rem (n : Nat) : IntKind.u8.wrap ((n : Int) % 256) = ((UInt8.ofNat n).toNat : Int) := by
  rw [IntKind.wrap_u8, UInt8.toNat_ofNat']
  omega

set_option maxRecDepth 100000 in
set_option maxHeartbeats 2000000 in
theorem rfixed56 (w : World) (n wd : Nat) (hn : n < 18446744073709551616) (hwd : wd ≤ 8) :
    Calls Tryd.prog 56 #[.int .u64 n, .int .i64 wd] w fun e w' => ∃ v, e = .returned v ∧ Nw w w' v (leB n wd) := by
  go_enter Tryd.func56, Tryd.ntmps56
  go_wp2_with fail
  go_loopw [0, 5, 6] (fun a b c wr => ∃ k : Nat, k ≤ wd ∧ c = .int .i64 k ∧ a = .int .u64 (n / 256 ^ k : Nat) ∧ Nw w wr b (leB n k)) (fun _ _ c _ => wd - (intOf c).toNat)
  case atStart => exact ⟨0, Nat.zero_le _, rfl, by simp, Own.nil _ _, (fun g q => by cases q), Turn.refl _ _⟩
  case round =>
    obtain ⟨k, hk, rfl, rfl, N⟩ := hrel
    have hlen := leB_length n k
    by_cases hlt : k < wd
    · have hlt' : (k : Int) < (wd : Int) := by omega
      have hd : n / 256 ^ k < 18446744073709551616 := Nat.lt_of_le_of_lt (Nat.div_le_self _ _) hn
      have hq : Hid (n / 256 ^ (k + 1) = n / 256 ^ k / 256) := by show n / 256 ^ (k + 1) = _; rw [Nat.pow_succ, Nat.div_div_eq_div_mul]
      have hs : Hid (leB n (k + 1) = leB n k ++ [UInt8.ofNat (n / 256 ^ k)]) := leB_succ n k
      generalize n / 256 ^ k = x at *
      obtain ⟨ba, bn, bc, rfl⟩ := N.own.form
      go_wp2_with (at_builtin; refine wpList_append_src rfl (.tmp 12) (.tmp 16) rfl Tryd.underlying22 Tryd.info5 rfl _ _ rfl (N.own.turn_no ((Turn.refl no wr).alloc _)) _ 1 (List.map bv [UInt8.ofNat x]) rfl ?src ?bb ?mm ?_)
      case src => exact src_byte Tryd.underlying22 wr _ _ (by rw [UInt8.toNat_ofNat']; first | omega | (simp; omega) | simp)
      case bb => rw [List.length_map, hlen]; omega
      case mm => rw [List.length_map, hlen]; unfold maxLen; omega
      intro v1 w1 O1 g1 _
      have N1 := (N.turn_no ((Turn.refl no wr).alloc _)).app (C := [UInt8.ofNat x]) (by simpa using O1) g1
      obtain ⟨va, vn, vc, rfl⟩ := N1.own.form
      clear g1 O1 N
      go_wp2_with fail
      go_roundw
      case rel => exact ⟨k + 1, by omega, by go_num, by rw [hq.out]; first | rfl | (congr 1), by rw [hs.out]; exact N1⟩
      case measure => simp [intOf]; omega
    · have hlt' : ¬ (k : Int) < (wd : Int) := by omega
      obtain rfl : k = wd := by omega
      obtain ⟨ba, bn, bc, rfl⟩ := N.own.form
      go_wp2_with fail
      go_ret
      exact ⟨_, rfl, N⟩
set_option maxRecDepth 100000 in
set_option maxHeartbeats 1000000 in
theorem ru32 (w : World) (n : Nat) (hn : n < 4294967296) : Calls Tryd.prog 35 #[.int .u32 n] w fun e w' => ∃ v, e = .returned v ∧ Nw w w' v (leB n 4) := by
  have c1 := rfixed56 w n 4 (by omega) (by omega)
  have hn' : (n : Int) < 4294967296 := by omega
  go_enter Tryd.func35, Tryd.ntmps35
  go_wp2_with fail
  refine c1.mono ?_
  rintro e w1 ⟨v, rfl, N⟩
  obtain ⟨ba, bn, bc, rfl⟩ := N.own.form
  go_wp2_with fail
  go_ret
  exact ⟨_, rfl, N⟩
set_option maxRecDepth 100000 in
set_option maxHeartbeats 1000000 in
theorem rframe_big (w : World) (v : Value) (bs : List UInt8) (hb : Bs w v bs) (hbig : 262400 < bs.length) :
    Calls Tryd.prog 11 #[v] w fun e w' => e = .returned (.tuple #[.slice none 0 0, .int .i64 4]) ∧ w' = w := by
  obtain ⟨a, c, rfl⟩ := hb.slice
  have h' : (262400 : Int) < (bs.length : Int) := by omega
  clear hb
  go_enter Tryd.func11, Tryd.ntmps11
  go_wp2_with fail
  go_ret2
  exact ⟨rfl, rfl⟩
set_option maxRecDepth 100000 in
set_option maxHeartbeats 2000000 in
theorem rframe_good (w : World) (v : Value) (bs : List UInt8) (hb : Bs w v bs) (hs : bs.length ≤ 262400) :
    Calls Tryd.prog 11 #[v] w fun e w' => ∃ v', e = .returned (.tuple #[v', .int .i64 0]) ∧ Nw w w' v' (frameB bs) := by
  obtain ⟨a, c, rfl⟩ := hb.slice
  have h' : ¬ (262400 : Int) < (bs.length : Int) := by omega
  have h2 : (bs.length : Int) < 4294967296 := by omega
  have hN : Hid (frameB bs = headB bs.length ++ leB (crc (headB bs.length)) 4 ++ bs ++ leB (crc bs) 4) := rfl
  have hcl := crc_lt bs
  have hch := crc_lt (headB bs.length)
  have hhl : (headB bs.length).length = 5 := by simp [headB, leB_length]
  have N0 : Nw w (w.alloc (.cells #[.int .u8 167] 5)) (.slice (some ⟨w.heap.size, 0, none⟩) 1 1) [167] := Nw.lit w 167
  have c1 := fun W => ru32 W bs.length (by omega)
  have c1 := Hid.mk' c1
  go_enter Tryd.func11, Tryd.ntmps11
  go_wp2_with fail
  refine (c1.out _).mono ?_
  rintro e w1 ⟨v1, rfl, N1⟩
  have M1 := N0.turn_no N1.t
  obtain ⟨xa, xn, xc, rfl⟩ := N1.own.form
  clear N0 c1
  go_wp2_with (at_builtin; refine wpList_append_src rfl (.tmp 8) (.tmp 12) rfl Tryd.underlying22 Tryd.info5 rfl _ _ rfl M1.own _ (leB bs.length 4).length ((leB bs.length 4).map bv) rfl ?src ?b ?m ?_)
  case src => exact Bs.src Tryd.underlying22 N1.own.bs
  case b => simp [leB_length]
  case m => simp [leB_length, maxLen]
  intro v2 w2 O2 g2 _
  have N2 := M1.app (by simpa using O2) g2
  rw [show [167] ++ leB bs.length 4 = headB bs.length from rfl] at N2
  have c3 := rcheck36 w2 _ _ N2.own.bs
  obtain ⟨ya, yn, yc, rfl⟩ := N2.own.form
  generalize headB bs.length = H at *
  generalize crc H = hc at *
  clear M1 O2 g2 N1
  go_wp2_with fail
  refine c3.mono ?_
  rintro e w3 ⟨rfl, rfl⟩
  have c4 := ru32 w3 hc hch
  clear c3
  go_wp2_with fail
  refine c4.mono ?_
  rintro e w4 ⟨v4, rfl, N4⟩
  have M4 := N2.turn_no N4.t
  obtain ⟨za, zn, zc, rfl⟩ := N4.own.form
  clear N2 c4
  go_wp2_with (at_builtin; refine wpList_append_src rfl (.tmp 14) (.tmp 17) rfl Tryd.underlying22 Tryd.info5 rfl _ _ rfl M4.own _ (leB hc 4).length ((leB hc 4).map bv) rfl ?src ?b ?m ?_)
  case src => exact Bs.src Tryd.underlying22 N4.own.bs
  case b => simp [leB_length, hhl]
  case m => simp [leB_length, maxLen, hhl]
  intro v5 w5 O5 g5 _
  have N5 := M4.app (by simpa using O5) g5
  obtain ⟨pa, pn, pc, rfl⟩ := N5.own.form
  clear M4 O5 g5 N4
  have hb5 := hb.turn_no N5.t
  go_wp2_with (at_builtin; refine wpList_append_src rfl (.tmp 19) (.tmp 20) rfl Tryd.underlying22 Tryd.info5 rfl _ _ rfl N5.own _ bs.length (bs.map bv) rfl ?src ?b ?m ?_)
  case src => exact Bs.src Tryd.underlying22 hb5
  case b => simp [leB_length, hhl]; omega
  case m => simp [leB_length, maxLen, hhl]; omega
  intro v6 w6 O6 g6 _
  have N6 := N5.app (by simpa using O6) g6
  obtain ⟨qa, qn, qc, rfl⟩ := N6.own.form
  clear N5 O6 g6 hb5
  have c7 := rcheck36 w6 _ _ (hb.turn_no N6.t)
  generalize crc bs = rc at *
  go_wp2_with fail
  refine c7.mono ?_
  rintro e w7 ⟨rfl, rfl⟩
  have c8 := ru32 w7 rc hcl
  clear c7
  go_wp2_with fail
  refine c8.mono ?_
  rintro e w8 ⟨v8, rfl, N8⟩
  have M8 := N6.turn_no N8.t
  obtain ⟨ta, tn, tc, rfl⟩ := N8.own.form
  clear N6 c8
  go_wp2_with (at_builtin; refine wpList_append_src rfl (.tmp 22) (.tmp 25) rfl Tryd.underlying22 Tryd.info5 rfl _ _ rfl M8.own _ (leB rc 4).length ((leB rc 4).map bv) rfl ?src ?b ?m ?_)
  case src => exact Bs.src Tryd.underlying22 N8.own.bs
  case b => simp [leB_length, hhl]; omega
  case m => simp [leB_length, maxLen, hhl]; omega
  intro v9 w9 O9 g9 _
  have N9 := M8.app (by simpa using O9) g9
  rw [← show frameB bs = _ from hN.out] at N9
  obtain ⟨ua, un, uc, rfl⟩ := N9.own.form
  clear M8 O9 g9 N8
  go_wp2_with fail
  go_ret2
  exact ⟨_, rfl, N9⟩
end Go.Proofs.YtbkbecjgphjpkaaDoor
