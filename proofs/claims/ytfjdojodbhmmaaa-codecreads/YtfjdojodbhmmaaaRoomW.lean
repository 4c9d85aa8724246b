/- The walk of CodecRoom. -/
import Derived.Test.YtfjdojodbhmmaaaW14
namespace Go.Proofs.Ytfjdojodbhmmaaa
open Go.RowKit
set_option linter.unusedVariables false

theorem kind_same (w : World) (k : Int) : Calls Try.prog 9 #[.int .i64 k] w fun e w' => e = .returned (.int .i64 (k % 9)) ∧ w' = w :=
  (kind_any w k).mono (fun _ _ q => ⟨q.1, q.2.symm⟩)

theorem kind_q (W : World) (n x : Nat) (k : Int) : Calls Try.prog 9 #[.int .i64 k] (W.drewN (n + x)) fun e w' => e = .returned (.int .i64 (k % 9)) ∧ ∃ m, w' = W.drewN (n + m) :=
  (kind_any _ k).mono (fun _ _ q => ⟨q.1, x, q.2.symm⟩)

theorem left_q (W : World) (p : Nat) (v : Value) (bs : List UInt8) (i : Nat) (e0 : Int) (n x : Nat) (h : Rd W p v bs i e0) : Calls Try.prog 19 #[.pointer (some ⟨p, 0, none⟩)] (W.drewN (n + x)) fun e w' => e = .returned (.int .i64 ((bs.length - i : Nat) : Int)) ∧ ∃ m, w' = W.drewN (n + m) :=
  (left_made _ p v bs i e0 (h.drewN _)).mono (fun _ _ ⟨q1, m, q2⟩ => ⟨q1, x + m, by rw [q2]; simp [Nat.add_assoc]⟩)

theorem rget_room (bs : List UInt8) (i : Nat) (hi : i ≤ bs.length) (k a b : Int) :
    (rget bs i k a b).2.1.length ≤ bs.length - i ∧ (k % 9 = 8 → 0 < b → (rget bs i k a b).1 ≤ bs.length - (rget bs i k a b).2.2.1) := by
  have hvp : i ≤ (rvar bs i).2.1 := by
    unfold rvar
    split <;> simp
  have hby : ∀ m, (rbytes bs i m).1.length ≤ bs.length - i := by
    intro m
    unfold rbytes
    split
    · simp
    · split
      · simp
      · split
        · simp
        · split
          · simp
          · simp
            omega
  refine ⟨?_, ?_⟩
  · unfold rget
    split
    · simp
    · split
      · simp
      · split
        · simp
        · split
          · simp
          · split
            · simp
            · split
              · unfold rraw
                split
                · simp
                · split
                  · simp
                  · simp
                    omega
              · split
                · exact hby a
                · split
                  · exact hby a
                  · simp
  · intro hk hb
    unfold rget
    rw [if_neg (by omega), if_neg (by omega), if_neg (by omega), if_neg (by omega), if_neg (by omega), if_neg (by omega), if_neg (by omega), if_neg (by omega)]
    unfold rcount
    split
    · simp
    · split
      · simp
      · split
        · simp
        · split
          · simp
          · rename_i h4
            simp only
            have h5 : (rvar bs i).1 * 1 ≤ (rvar bs i).1 * b.toNat := Nat.mul_le_mul_left _ (by omega)
            omega

theorem rgets_room (bs : List UInt8) (i : Nat) (hi : i ≤ bs.length) (e k a b : Int) :
    (rgets bs i e k a b).2.1.length ≤ bs.length - i ∧ (k % 9 = 8 → 0 < b → (rgets bs i e k a b).1 ≤ bs.length - (rgets bs i e k a b).2.2.1) ∧ (e ≠ 0 → rgets bs i e k a b = (0, [], i, e)) := by
  unfold rgets
  split
  · obtain ⟨h1, h2⟩ := rget_room bs i hi k a b
    exact ⟨h1, h2, fun q => (by contradiction)⟩
  · exact ⟨by simp, by simp, fun _ => rfl⟩

set_option maxRecDepth 100000 in
set_option maxHeartbeats 4000000 in
theorem room_walk (w : World) (vb vl : Value) (bs : List UInt8) (gs : List (Int × Int × Int)) (hb : Bs w vb bs) (hg : Gs w vl gs) (hle : bs.length ≤ 140737488351232) :
    Calls Try.prog 4 #[vb, vl] w fun e w' => e = .returned (.bool true) ∧ Turn no w w' := by
  have hgl := hg.le
  unfold maxLen at hgl
  obtain ⟨ba, bc, hbv⟩ := hb.slice
  by_cases h0 : gs.length = 0
  · obtain ⟨la, lc, hlv⟩ := hg.slice
    have e1 : gs = [] := List.eq_nil_of_length_eq_zero h0
    subst e1
    subst hlv
    subst hbv
    clear hg
    go_enter Try.func4, Try.ntmps4
    go_wp2_with fail
    refine (newReader_any _ _ bs hb (by omega)).mono ?_
    rintro e w1 ⟨p, v, rfl, r1, f1, t1⟩
    go_wp2_with fail
    go_loop [6] (fun c => c = .int .i64 0) (fun _ => 0)
    case atStart => rfl
    case round =>
      subst hrel
      go_wp2_with fail
      go_ret
      exact ⟨rfl, t1⟩
  · obtain ⟨lb, lo, lc, rfl, hlc, hcell⟩ := hg.at (by omega)
    clear hg
    subst hbv
    go_enter Try.func4, Try.ntmps4
    go_wp2_with fail
    refine (newReader_any _ _ bs hb (by omega)).mono ?_
    rintro e w1 ⟨p, v, rfl, r1, f1, t1⟩
    have hp := f1 p (Or.inl rfl)
    go_wp2_with fail
    go_loopw [6] (fun c wr => ∃ (k i : Nat) (e0 : Int), k ≤ gs.length ∧ c = .int .i64 k ∧ Rd wr p v bs i e0 ∧ Turn no w wr) (fun c _ => gs.length - (intOf c).toNat)
    case atStart => exact ⟨0, 0, 0, Nat.zero_le _, rfl, r1, t1⟩
    case round =>
      obtain ⟨k, i, e0, hk, rfl, r2, t2⟩ := hrel
      clear r1 t1
      by_cases hlt : k < gs.length
      · obtain ⟨q0, q1, q2, qa, qb⟩ := hcell k gs[k] (by simp [hlt])
        generalize gs[k] = g at *
        obtain ⟨gk, ga, gb⟩ := g
        simp only at q0 q1 q2 qa qb
        have hlb : lb < w.heap.size := World.block_lt_of_cell? w ⟨lb, lo + k * 3, none⟩ q0
        have hlp : lb ≠ p := by omega
        have q0 := t2.keep q0 (fun q => q)
        have q1 := t2.keep q1 (fun q => q)
        have q2 := t2.keep q2 (fun q => q)
        have hlt' : (k : Int) < (gs.length : Int) := by omega
        have il := r2.le
        go_wp2_with fail
        refine (err_any _ _ _ r2.errs).mono ?_
        rintro e w' ⟨rfl, rfl⟩
        go_wp2_with fail
        refine (num_any _ _).mono ?_
        rintro e w' ⟨rfl, rfl⟩
        go_wp2_with fail
        refine (at_made _ _ _ bs i e0 r2).mono ?_
        rintro e w' ⟨rfl, rfl⟩
        go_wp2_with fail
        refine (end_any _ _ _ bs i e0 r2).mono ?_
        rintro e w' ⟨rfl, n1, rfl⟩
        go_wp2_with fail
        refine (num_any _ _).mono ?_
        rintro e w' ⟨rfl, rfl⟩
        go_wp2_with fail
        refine (left_made _ _ _ bs i e0 (r2.drewN n1)).mono ?_
        rintro e w' ⟨rfl, n2, rfl⟩
        go_wp2_with fail
        refine (read_any _ _ _ bs i e0 gk ga gb qa qb (by omega) (r2.drewN (n1 + n2))).mono ?_
        rintro e w3 ⟨vB, rfl, B1, B2, R3, T3⟩
        obtain ⟨hB, hN, hE⟩ := rgets_room bs i il e0 gk ga gb
        obtain ⟨ad, c, hvB⟩ := B1.slice
        rw [hvB]
        clear hvB B1 B2
        generalize rgets bs i e0 gk ga gb = r at *
        obtain ⟨N, B, i', e'⟩ := r
        simp only at hB hN R3
        have W4 := (Turn.refl no w3).alloc (.cells #[.int .u64 N, .slice ad B.length c] 33)
        have R4 := R3.turn_no W4
        have T4 : Turn no w (w3.alloc (.cells #[.int .u64 N, .slice ad B.length c] 33)) := ((t2.drewN (n1 + n2)).trans T3 (fun i hi q => by exfalso; omega)).then_no W4
        have u0 := W4.keep (T3.keep (p := ⟨lb, lo + k * 3, none⟩) q0 hlp) (fun q => q)
        have u1 := W4.keep (T3.keep (p := ⟨lb, lo + k * 3 + 1, none⟩) q1 hlp) (fun q => q)
        have u2 := W4.keep (T3.keep (p := ⟨lb, lo + k * 3 + 2, none⟩) q2 hlp) (fun q => q)
        have v0 := T3.keep (p := ⟨lb, lo + k * 3, none⟩) q0 hlp
        have v2 := T3.keep (p := ⟨lb, lo + k * 3 + 2, none⟩) q2 hlp
        have hl3 : lb < w3.heap.size := World.block_lt_of_cell? w3 _ v0
        have il' := R3.le
        clear r2 t2 T3 R3 q0 q1 q2 W4
        have s1 : ((i : Int) + ((bs.length - i : Nat) : Int) != (bs.length : Int)) = false := by simp; omega
        have s2 : ((i' : Int) + ((bs.length - i' : Nat) : Int) != (bs.length : Int)) = false := by simp; omega
        have s3 : ¬ ((bs.length - i : Nat) : Int) < (B.length : Int) := by omega
        by_cases he : e0 = 0
        · have he' : (e0 != 0) = false := by simpa using he
          clear hE
          go_wp2_with fail
          refine (at_made _ _ _ bs i' e' R4).mono ?_
          rintro e w' ⟨rfl, rfl⟩
          go_wp2_with fail
          refine (left_made _ _ _ bs i' e' R4).mono ?_
          rintro e w' ⟨rfl, n3, rfl⟩
          go_wp2_with fail
          by_cases h8 : gk % 9 = 8
          · have g8 : ((gk % 9) == 8) = true := by simpa using h8
            by_cases h9 : 0 < gb
            · have hN' := hN h8 h9
              have g9 : ¬ ((bs.length - i' : Nat) : Int) < (N : Int) := by omega
              clear hN
              go_quiet ((first | (go_at_call 9; exact kind_q _ _ _ _) | (go_at_call 19; exact left_q _ _ _ bs i' e' _ _ R4)))
              go_wp2_with fail
              go_roundw
              case rel => exact ⟨k + 1, i', e', by omega, by go_num, R4.drewN _, T4.drewN _⟩
              case measure => simp [intOf]; omega
            · have g9 : decide (0 < gb) = false := by simpa using h9
              clear hN
              go_quiet ((first | (go_at_call 9; exact kind_q _ _ _ _) | (go_at_call 19; exact left_q _ _ _ bs i' e' _ _ R4)))
              go_wp2_with fail
              go_roundw
              case rel => exact ⟨k + 1, i', e', by omega, by go_num, R4.drewN _, T4.drewN _⟩
              case measure => simp [intOf]; omega
          · have g8 : ((gk % 9) == 8) = false := by simpa using h8
            clear hN
            go_quiet ((first | (go_at_call 9; exact kind_q _ _ _ _) | (go_at_call 19; exact left_q _ _ _ bs i' e' _ _ R4)))
            go_wp2_with fail
            go_roundw
            case rel => exact ⟨k + 1, i', e', by omega, by go_num, R4.drewN _, T4.drewN _⟩
            case measure => simp [intOf]; omega
        · have he' : (e0 != 0) = true := by simpa using he
          have hE' := hE he
          simp only [Prod.mk.injEq] at hE'
          obtain ⟨rfl, rfl, rfl, rfl⟩ := hE'
          clear hE
          go_wp2_with fail
          refine (at_made _ _ _ bs i' e' R4).mono ?_
          rintro e w' ⟨rfl, rfl⟩
          go_wp2_with fail
          refine (left_made _ _ _ bs i' e' R4).mono ?_
          rintro e w' ⟨rfl, n4, rfl⟩
          have z1 : (rend bs i' e' != e') = false := by unfold rend; rw [if_neg he]; simp
          have z2 : (rend bs i' e' != rend bs i' e') = false := by simp
          go_wp2_with fail
          refine (err_any _ _ _ (R4.drewN n4).errs).mono ?_
          rintro e w' ⟨rfl, rfl⟩
          go_wp2_with fail
          refine (num_any _ _).mono ?_
          rintro e w' ⟨rfl, rfl⟩
          go_wp2_with fail
          refine (end_any _ _ _ bs i' e' (R4.drewN n4)).mono ?_
          rintro e w' ⟨rfl, n5, rfl⟩
          go_wp2_with fail
          refine (num_any _ _).mono ?_
          rintro e w' ⟨rfl, rfl⟩
          go_wp2_with fail
          refine (at_made _ _ _ bs i' e' (R4.drewN (n4 + n5))).mono ?_
          rintro e w' ⟨rfl, rfl⟩
          go_wp2_with fail
          refine (left_made _ _ _ bs i' e' (R4.drewN (n4 + n5))).mono ?_
          rintro e w' ⟨rfl, n3, rfl⟩
          go_wp2_with fail
          by_cases h8 : gk % 9 = 8
          · have g8 : ((gk % 9) == 8) = true := by simpa using h8
            by_cases h9 : 0 < gb
            · have hN' := hN h8 h9
              have g9 : ¬ ((bs.length - i' : Nat) : Int) < 0 := by omega
              clear hN
              go_quiet ((first | (go_at_call 9; exact kind_q _ _ _ _) | (go_at_call 19; exact left_q _ _ _ bs i' e' _ _ R4)))
              go_wp2_with fail
              go_roundw
              case rel => exact ⟨k + 1, i', e', by omega, by go_num, R4.drewN _, T4.drewN _⟩
              case measure => simp [intOf]; omega
            · have g9 : decide (0 < gb) = false := by simpa using h9
              clear hN
              go_quiet ((first | (go_at_call 9; exact kind_q _ _ _ _) | (go_at_call 19; exact left_q _ _ _ bs i' e' _ _ R4)))
              go_wp2_with fail
              go_roundw
              case rel => exact ⟨k + 1, i', e', by omega, by go_num, R4.drewN _, T4.drewN _⟩
              case measure => simp [intOf]; omega
          · have g8 : ((gk % 9) == 8) = false := by simpa using h8
            clear hN
            go_quiet ((first | (go_at_call 9; exact kind_q _ _ _ _) | (go_at_call 19; exact left_q _ _ _ bs i' e' _ _ R4)))
            go_wp2_with fail
            go_roundw
            case rel => exact ⟨k + 1, i', e', by omega, by go_num, R4.drewN _, T4.drewN _⟩
            case measure => simp [intOf]; omega
      · have hlt' : ¬ (k : Int) < (gs.length : Int) := by omega
        go_wp2_with fail
        go_ret
        exact ⟨rfl, t2⟩
end Go.Proofs.Ytfjdojodbhmmaaa
