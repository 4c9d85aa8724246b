/- The document's Scan. -/
import Derived.Test.YtbkbecjgphjpkaaDoorF1
namespace Go.Proofs.YtbkbecjgphjpkaaDoor
open Go.RowKit
set_option linter.unusedVariables false

theorem lsum4 (l : List UInt8) : lsum l 4 = (l.getD 0 0).toNat + 256 * (l.getD 1 0).toNat + 65536 * (l.getD 2 0).toNat + 16777216 * (l.getD 3 0).toNat := by
  simp only [lsum]
  omega

set_option maxRecDepth 100000 in
set_option maxHeartbeats 2000000 in
theorem rnumber58 (w : World) (v : Value) (bs : List UInt8) (hb : Bs w v bs) (h4 : bs.length = 4) :
    Calls Tryd.prog 58 #[v] w fun e w' => e = .returned (.int .u32 (lsum bs 4)) ∧ ∃ n, w' = w.drewN n := by
  obtain ⟨b, off, cap, rfl, hc, hca⟩ := hb.at (by omega)
  have g0 := hca 0 (by omega)
  have g1 := hca 1 (by omega)
  have g2 := hca 2 (by omega)
  have g3 := hca 3 (by omega)
  rw [Nat.add_zero] at g0
  have hs : Hid (lsum bs 4 = (bs.getD 0 0).toNat + 256 * (bs.getD 1 0).toNat + 65536 * (bs.getD 2 0).toNat + 16777216 * (bs.getD 3 0).toNat) := lsum4 bs
  have l0 := UInt8.toNat_lt (bs.getD 0 0)
  have l1 := UInt8.toNat_lt (bs.getD 1 0)
  have l2 := UInt8.toNat_lt (bs.getD 2 0)
  have l3 := UInt8.toNat_lt (bs.getD 3 0)
  generalize (bs.getD 0 0).toNat = x0 at *
  generalize (bs.getD 1 0).toNat = x1 at *
  generalize (bs.getD 2 0).toNat = x2 at *
  generalize (bs.getD 3 0).toNat = x3 at *
  rw [h4] at *
  clear hca hb
  have i0 : (x0 : Int) < 256 := by omega
  have i1 : (x1 : Int) < 256 := by omega
  have i2 : (x2 : Int) < 256 := by omega
  have i3 : (x3 : Int) < 256 := by omega
  go_enter Tryd.func58, Tryd.ntmps58
  go_wp2
  go_quiet (fail)
  go_wp2
  go_ret
  refine ⟨?_, nq, rfl⟩
  rw [hs.out]
  congr 1

theorem chk_head (b : List UInt8) (h : 9 ≤ b.length) : checkedB (b.take 9) = (lsum ((b.take 9).drop 5) 4 == crc (b.take 5)) := by
  unfold checkedB
  rw [List.length_take, Nat.min_eq_left h, List.take_take]
  rfl
theorem chk_rec (b : List UInt8) (n k m : Nat) (hk : k = n + 9) (hm : m = n + 13) (h : m ≤ b.length) : checkedB ((b.take m).drop 9) = (lsum ((b.take m).drop k) 4 == crc ((b.take k).drop 9)) := by
  have hXl : ((b.take m).drop 9).length = n + 4 := by simp; omega
  unfold checkedB
  rw [hXl, Nat.add_sub_cancel, List.drop_drop, List.take_drop, List.take_take, show min (9 + n) m = k by omega, show 9 + n = k by omega]
theorem bs_sub2 {w : World} {b off cap : Nat} {bs : List UInt8} (hc : bs.length ≤ cap) (hm : cap ≤ maxLen) (hca : ∀ j, j < bs.length → w.cell? ⟨b, off + j, none⟩ = some (.int .u8 (bs.getD j 0).toNat)) (lo hi n c : Nat) (h : lo ≤ hi) (hh : hi ≤ bs.length) (hn : hi - lo = n) (hc2 : cap - lo = c) :
    Bs w (.slice (some ⟨b, off + lo, none⟩) n c) ((bs.take hi).drop lo) := by subst hn hc2; exact bs_sub hc hm hca lo hi h hh
theorem ne_nat {x y : Nat} (h : (x == y) = false) : ((x : Int) != (y : Int)) = true := by
  have := beq_eq_false_iff_ne.1 h
  simp
  omega

set_option maxRecDepth 100000 in
set_option maxHeartbeats 2000000 in
theorem one41_short (w : World) (v : Value) (bs : List UInt8) (hb : Bs w v bs) (h9 : bs.length < 9) :
    Calls Tryd.prog 41 #[v] w fun e w' => e = .returned (.tuple #[.slice none 0 0, .int .i64 0]) ∧ Turn no w w' := by
  obtain ⟨a, c, rfl⟩ := hb.slice
  have h' : (bs.length : Int) < 9 := by omega
  clear hb
  go_enter Tryd.func41, Tryd.ntmps41
  go_wp2
  go_quiet (fail)
  go_wp2
  go_ret2
  exact ⟨rfl, (Turn.refl no w).drewN _⟩

set_option maxRecDepth 100000 in
set_option maxHeartbeats 4000000 in
theorem one41_any (w : World) (v : Value) (r : List UInt8) (hb : Bs w v r) (h9 : 9 ≤ r.length) (hle : r.length ≤ 1099511627776) :
    Calls Tryd.prog 41 #[v] w fun e w' => (whole r = none ∧ e = .returned (.tuple #[.slice none 0 0, .int .i64 0]) ∧ Turn no w w') ∨ ∃ n v', whole r = some n ∧ e = .returned (.tuple #[v', .int .i64 ((n + 13 : Nat) : Int)]) ∧ Nw w w' v' ((r.take (n + 9)).drop 9) := by
  have HW : Hid (whole r = if r.length < 9 then none else if r.getD 0 0 ≠ 167 then none else if checkedB (r.take 9) = false then none else if 262400 < told r then none else if r.length < told r + 13 then none else if checkedB ((r.take (told r + 13)).drop 9) = false then none else some (told r)) := rfl
  have htl := told_lt r
  obtain ⟨b, off, cap, rfl, hc, hm, hca⟩ := hb.atm (by omega)
  have hx : w.cell? ⟨b, off, none⟩ = some (.int .u8 (r.getD 0 0).toNat) := hca 0 (by omega)
  have B59 := bs_sub2 hc hm hca 5 9 4 (cap - 5) (by omega) (by omega) rfl rfl
  have B05 := bs_sub2 hc hm hca 0 5 5 cap (by omega) (by omega) rfl rfl
  rw [List.drop_zero] at B05
  have B15 := bs_sub2 hc hm hca 1 5 4 (cap - 1) (by omega) (by omega) rfl rfl
  have H58 : Hid (∀ x, Calls Tryd.prog 58 #[.slice (some ⟨b, off + 5, none⟩) 4 (cap - 5)] (w.drewN x) fun e w' => e = .returned (.int .u32 (lsum ((r.take 9).drop 5) 4)) ∧ ∃ m, w' = w.drewN m) := fun x => by
    refine (rnumber58 _ _ _ (B59.turn_no ((Turn.refl no w).drewN x)) (by simp; omega)).mono ?_
    rintro e w' ⟨q, m, rfl⟩
    exact ⟨q, x + m, by simp⟩
  have H36 : Hid (∀ x, Calls Tryd.prog 36 #[.slice (some ⟨b, off, none⟩) 5 cap] (w.drewN x) fun e w' => e = .returned (.int .u32 (crc (r.take 5))) ∧ ∃ m, w' = w.drewN m) := fun x => by
    refine (rcheck36 _ _ _ (B05.turn_no ((Turn.refl no w).drewN x))).mono ?_
    rintro e w' ⟨q, rfl⟩
    exact ⟨q, x, rfl⟩
  rw [chk_head r h9] at HW
  obtain ⟨s9, hs9⟩ : ∃ s, lsum ((r.take 9).drop 5) 4 = s := ⟨_, rfl⟩
  obtain ⟨k5, hk5⟩ : ∃ s, crc (r.take 5) = s := ⟨_, rfl⟩
  rw [hs9] at H58 HW
  rw [hk5] at H36 HW
  obtain ⟨x0, hx0⟩ : ∃ x, r.getD 0 0 = x := ⟨_, rfl⟩
  rw [hx0] at HW hx
  obtain ⟨N, hN⟩ : ∃ N, r.length = N := ⟨_, rfl⟩
  rw [hN] at h9 hc HW hle ⊢
  have h9' : ¬ (N : Int) < 9 := by omega
  have hd9 : decide ((N : Int) < 9) = false := by simp; omega
  have hN0 : (0 : Int) < (N : Int) := by omega
  have hN0' : 0 < N := by omega
  have hcap5 : ¬ cap = 5 := by omega
  have hcap0 : ¬ cap = 0 := by omega
  have hcap1 : ¬ cap = 1 := by omega
  have hcap9 : (9 : Int) ≤ (cap : Int) := by omega
  have hcap55 : (5 : Int) ≤ (cap : Int) := by omega
  have HCA := Hid.mk' hca
  have B15 := Hid.mk' B15
  have hm' : Hid (cap ≤ maxLen) := hm
  clear hca hb B59 B05 hm hs9 hk5 hx0
  by_cases hB : x0 = 167
  case neg =>
    have hB' : (((x0.toNat : Nat) : Int) != 167) = true := by
      simp only [bne_iff_ne, ne_eq]
      intro q
      exact hB (UInt8.toNat_inj.1 (by show x0.toNat = 167; omega))
    have hw : Hid (whole r = none) := by show whole r = none; rw [HW.out, if_neg (by omega), if_pos hB]
    clear HW H58 H36
    go_enter Tryd.func41, Tryd.ntmps41
    go_wp2
    go_quiet (fail)
    go_wp2
    go_ret2
    exact Or.inl ⟨hw.out, rfl, (Turn.refl no w).drewN _⟩
  have hB' : (((x0.toNat : Nat) : Int) != 167) = false := by subst hB; rfl
  by_cases hC : (s9 == k5) = false
  · have hC' := ne_nat hC
    have hw : Hid (whole r = none) := by show whole r = none; rw [HW.out, if_neg (by omega), if_neg (by simp [hB]), if_pos hC]
    clear HW
    go_enter Tryd.func41, Tryd.ntmps41
    go_wp2
    go_quiet ((first | (go_at_call 58; exact H58.out _) | (go_at_call 36; exact H36.out _)))
    go_wp2
    go_ret2
    exact Or.inl ⟨hw.out, rfl, (Turn.refl no w).drewN _⟩
  obtain rfl : s9 = k5 := by simpa using hC
  have hC' : ((s9 : Int) != (s9 : Int)) = false := by simp
  go_enter Tryd.func41, Tryd.ntmps41
  go_wp2
  go_quiet ((first | (go_at_call 58; exact H58.out _) | (go_at_call 36; exact H36.out _)))
  have T1 := (Turn.refl no w).drewN nq
  generalize w.drewN nq = w1 at *
  clear H58 H36 hx
  have c1 := rnumber58 w1 _ _ (B15.out.turn_no T1) (by simp; omega)
  rw [show lsum ((r.take 5).drop 1) 4 = told r from rfl] at c1
  obtain ⟨n, hn⟩ : ∃ n, told r = n := ⟨_, rfl⟩
  rw [hn] at c1 HW htl
  have htl' : (n : Int) < 4294967296 := by omega
  go_wp2_with fail
  refine c1.mono ?_
  rintro e w2 ⟨rfl, m2, rfl⟩
  have T2 := T1.drewN m2
  generalize w1.drewN m2 = w2 at *
  clear c1 B15 T1
  by_cases hD : 262400 < n
  · have hD' : (262400 : Int) < (n : Int) := by omega
    have hdD : decide ((262400 : Int) < (n : Int)) = true := by simp; omega
    have hw : Hid (whole r = none) := by show whole r = none; rw [HW.out, if_neg (by omega), if_neg (by simp [hB]), if_neg (by simp), if_pos hD]
    clear HW
    go_wp2_with fail
    go_ret2
    exact Or.inl ⟨hw.out, rfl, T2⟩
  have hD' : ¬ (262400 : Int) < (n : Int) := by omega
  have hdD : decide ((262400 : Int) < (n : Int)) = false := by simp; omega
  by_cases hE : N < n + 13
  · have hE' : (N : Int) - 9 < (n : Int) + 4 := by omega
    have hdE : decide ((N : Int) - 9 < (n : Int) + 4) = true := by simp; omega
    have hw : Hid (whole r = none) := by show whole r = none; rw [HW.out, if_neg (by omega), if_neg (by simp [hB]), if_neg (by simp), if_neg hD, if_pos hE]
    clear HW
    go_wp2_with fail
    go_ret2
    exact Or.inl ⟨hw.out, rfl, T2⟩
  have hE' : ¬ (N : Int) - 9 < (n : Int) + 4 := by omega
  have hdE : decide ((N : Int) - 9 < (n : Int) + 4) = false := by simp; omega
  obtain ⟨k, hk⟩ : ∃ k, n + 9 = k := ⟨_, rfl⟩
  obtain ⟨m, hmm⟩ : ∃ m, n + 13 = m := ⟨_, rfl⟩
  have e1 : (9 : Int) + (n : Int) = (k : Int) := by omega
  have e2 : (13 : Int) + (n : Int) = (m : Int) := by omega
  have e3 : (n : Int) + 13 = (m : Int) := by omega
  have k1 : (9 : Int) ≤ (k : Int) := by omega
  have k2 : (k : Int) ≤ (cap : Int) := by omega
  have k3 : (k : Int) ≤ (m : Int) := by omega
  have k4 : (m : Int) ≤ (cap : Int) := by omega
  have k5 : ¬ cap = 9 := by omega
  have k6 : ¬ cap = k := by omega
  have hcr : r.length ≤ cap := by omega
  have Brec := bs_sub2 hcr hm'.out HCA.out 9 k (k - 9) (cap - 9) (by omega) (by omega) rfl rfl
  have Bchk := bs_sub2 hcr hm'.out HCA.out k m (m - k) (cap - k) (by omega) (by omega) rfl rfl
  have hck := chk_rec r n k m hk.symm hmm.symm (by omega)
  rw [hmm, hck] at HW
  have hlr : ((r.take k).drop 9).length = k - 9 := by simp; omega
  have hlc : ((r.take m).drop k).length = 4 := by simp; omega
  obtain ⟨R, hR⟩ : ∃ R, (r.take k).drop 9 = R := ⟨_, rfl⟩
  obtain ⟨Q, hQ⟩ : ∃ Q, (r.take m).drop k = Q := ⟨_, rfl⟩
  rw [hR] at Brec HW hlr
  rw [hQ] at Bchk HW hlc
  have hRk : R.length ≤ 262400 := by omega
  have fin : Hid (∀ n', whole r = some n' → n' = n → True) := fun _ _ _ => trivial
  have B4 := Brec.turn_no T2
  have HR := Hid.mk' hR
  have hkn := Hid.mk' hk
  have hNI : ¬ N < m := by omega
  have HD := Hid.mk' hD
  clear hR hQ hk hmm hE hD hck Brec HCA fin
  go_wp2_with (at_builtin; refine wpList_append_src rfl (.tmp 38) (.tmp 42) rfl Tryd.underlying22 Tryd.info5 rfl _ [] rfl (own_empty w2 5) _ R.length (R.map bv) rfl ?src ?bb ?mm ?_)
  case src => exact Bs.src Tryd.underlying22 (B4.turn_no ((Turn.refl no w2).alloc _))
  case bb => simp; omega
  case mm => unfold maxLen; simp; omega
  intro v5 w5 O5 g5 _
  have f0 : ∀ q, (Value.slice (some ⟨w2.heap.size, 0, none⟩) 0 0).ownBlock = some q → w2.heap.size ≤ q := fun k q => by cases q; exact Nat.le_refl _
  have t5 : Turn no w2 w5 := ((Turn.refl no w2).alloc _).fresh g5 f0
  have f5 := g5.fresh f0 (by simp)
  have N5 : Nw w w5 v5 R := ⟨O5, fun q hq => Nat.le_trans T2.size (f5 q hq), T2.then_no t5⟩
  obtain ⟨va, vn, vc, rfl⟩ := N5.own.form
  have c6 := rnumber58 w5 _ _ (Bchk.turn_no N5.t) hlc
  clear g5 O5 f0 t5 f5 B4 T2
  go_wp2_with fail
  refine c6.mono ?_
  rintro e w6 ⟨rfl, m6, rfl⟩
  have N6 := N5.turn_no ((Turn.refl no w5).drewN m6)
  generalize w5.drewN m6 = w6 at *
  have c7 := rcheck36 w6 _ _ N6.own.bs
  obtain ⟨sq, hsq⟩ : ∃ s, lsum Q 4 = s := ⟨_, rfl⟩
  obtain ⟨sr, hsr⟩ : ∃ s, crc R = s := ⟨_, rfl⟩
  rw [hsq] at HW ⊢
  rw [hsr] at HW c7
  clear c6 N5 hsq hsr
  go_wp2_with fail
  refine c7.mono ?_
  rintro e w7 ⟨rfl, rfl⟩
  clear c7
  by_cases hF : (sq == sr) = false
  · have hF' := ne_nat hF
    have hw : Hid (whole r = none) := by show whole r = none; rw [HW.out, if_neg (by omega), if_neg (by simp [hB]), if_neg (by simp), if_neg HD.out, if_neg hNI, if_pos hF]
    clear HW
    go_wp2_with fail
    go_ret2
    exact Or.inl ⟨hw.out, rfl, N6.t⟩
  · obtain rfl : sq = sr := by simpa using hF
    have hF' : ((sq : Int) != (sq : Int)) = false := by simp
    have hw : Hid (whole r = some n) := by show whole r = some n; rw [HW.out, if_neg (by omega), if_neg (by simp [hB]), if_neg (by simp), if_neg HD.out, if_neg hNI, if_neg (by simp)]
    clear HW
    go_wp2_with fail
    go_ret2
    refine Or.inr ⟨n, .slice va vn vc, hw.out, ?_, ?_⟩
    · rw [show ((n + 13 : Nat) : Int) = (m : Int) by omega]
      rfl
    · rw [hkn.out, HR.out]; exact N6
end Go.Proofs.YtbkbecjgphjpkaaDoor
