/- Of the law: num, sameBytes, turn. -/
import Derived.Test.YtpfjllkmaogafaaX4
import Derived.Test.YtpfjllkmaogafaaX3
namespace Go.Proofs.Ytpfjllkmaogafaa
open Go.RowKit
set_option linter.unusedVariables false

theorem num13 (w : World) (n : Int) : Calls Try.prog 13 #[.int .i64 n] w fun e w' => e = .returned (.int .i64 n) ∧ w = w' := by
  go_enter Try.func13, Try.ntmps13
  go_wp2
  go_ret
  exact ⟨rfl, rfl⟩
set_option maxRecDepth 100000 in
set_option maxHeartbeats 1000000 in
theorem same14 (w : World) (va vb : Value) (xs bs : List UInt8) (ha : Bs w va xs) (hb : Bs w vb bs) :
    Calls Try.prog 14 #[va, vb] w fun e w' => e = .returned (.bool (xs == bs)) ∧ ∃ n, w' = w.drewN n := by
  have hla := ha.le
  have hlb := hb.le
  unfold maxLen at hla hlb
  by_cases hl : xs.length = bs.length
  · have hl' : (((xs.length : Nat) : Int) != ((bs.length : Nat) : Int)) = false := by rw [hl]; simp
    by_cases h0 : xs.length = 0
    · obtain ⟨a, c, rfl⟩ := ha.slice
      obtain ⟨a', c', rfl⟩ := hb.slice
      have e1 : xs = [] := List.eq_nil_of_length_eq_zero h0
      have e2 : bs = [] := List.eq_nil_of_length_eq_zero (by omega)
      subst e1 e2
      clear ha hb
      go_enter Try.func14, Try.ntmps14
      go_wp2
      go_loop [5] (fun i => i = .int .i64 0) (fun _ => 0)
      case atStart => rfl
      case round =>
        subst hrel
        go_wp2
        go_ret
        exact ⟨rfl, 0, rfl⟩
    · obtain ⟨b, off, cap, rfl, _, hca⟩ := ha.at (by omega)
      obtain ⟨b', off', cap', rfl, _, hcb⟩ := hb.at (by omega)
      clear ha hb
      go_enter Try.func14, Try.ntmps14
      go_wp2
      go_loopw [5] (fun i wr => ∃ k : Nat, k ≤ xs.length ∧ i = .int .i64 k ∧ xs.take k = bs.take k ∧ ∃ n, wr = w.drewN n) (fun i _ => xs.length - (intOf i).toNat)
      case atStart => exact ⟨0, Nat.zero_le _, rfl, rfl, 0, rfl⟩
      case round =>
        obtain ⟨k, hk, rfl, heq, n, rfl⟩ := hrel
        have Heq : Hid (xs.take k = bs.take k) := heq
        clear heq
        by_cases hlt : k < xs.length
        · have g1 := hca k hlt
          have g2 := hcb k (by omega)
          have hlt2 : k < bs.length := by omega
          go_wp2
          go_quiet (fail)
          go_wp2
          · go_ret
            have hq : (xs == bs) = false := ne_of_getD (k := k) (by simp only [List.getD_eq_getElem?_getD, List.getElem?_eq_getElem hlt, List.getElem?_eq_getElem hlt2, Option.getD_some]; exact u8_ne ‹_›)
            rw [hq]
            exact ⟨rfl, n + nq, by simp⟩
          · go_roundw
            case rel => exact ⟨k + 1, by omega, by go_num, beq_take_succ hl hlt Heq.out (by simp only [List.getD_eq_getElem?_getD, List.getElem?_eq_getElem hlt, List.getElem?_eq_getElem hlt2, Option.getD_some]; exact u8_eq ‹_›), _, rfl⟩
            case measure => simp [intOf]; omega
        · have hge : ¬ k < bs.length := by omega
          go_wp2
          go_ret
          have hq : (xs == bs) = true := by
            have h := Heq.out
            rw [List.take_of_length_le (by omega), List.take_of_length_le (by omega)] at h
            rw [h]; simp
          rw [hq]
          exact ⟨rfl, _, rfl⟩
  · obtain ⟨a, c, rfl⟩ := ha.slice
    obtain ⟨a', c', rfl⟩ := hb.slice
    have hl' : (((xs.length : Nat) : Int) != ((bs.length : Nat) : Int)) = true := by simp; omega
    have hne : (xs == bs) = false := beq_eq_false_iff_ne.2 (fun q => hl (by rw [q]))
    clear ha hb
    go_enter Try.func14, Try.ntmps14
    go_wp2
    go_ret
    rw [hne]
    exact ⟨rfl, 0, rfl⟩


set_option maxRecDepth 100000 in
set_option maxHeartbeats 2000000 in
theorem turn15 (w : World) (v : Value) (X : List UInt8) (m : UInt8) (h : Own w 5 v (X.map bv)) (hle : X.length + 50 ≤ 140737488355328) :
    Calls Try.prog 15 #[v, .int .u8 m.toNat] w fun e w' => ∃ v', e = .returned v' ∧ Own w' 5 v' ((gro X m).map bv) ∧ Turn (fun k => v.ownBlock = some k) w w' ∧ Near w v v' := by
  obtain ⟨a, cap, hv, ha⟩ := h.len
  simp only [List.length_map] at hv ha
  obtain ⟨n, hn⟩ : ∃ n, X.length = n := ⟨_, rfl⟩
  rw [hn] at hv ha hle
  have Hn := shutX hn
  clear hn
  obtain ⟨vv, hvv⟩ : ∃ vv, v = vv := ⟨_, rfl⟩
  have Hv := shutX hvv
  rw [hvv] at h ⊢
  subst hv
  rw [← hvv] at h ⊢
  clear hvv Hv
  have h0 : Own w 5 (.slice a n cap) ((xorTo X m 0).map bv) := by simpa [xorTo] using h
  clear h
  go_enter Try.func15, Try.ntmps15
  go_wp2_with fail
  go_loopw [5] (fun c wr => ∃ i : Nat, i ≤ n ∧ c = .int .i64 i ∧ Own wr 5 (.slice a n cap) ((xorTo X m i).map bv) ∧ Turn (fun k => (Value.slice a n cap).ownBlock = some k) w wr) (fun c _ => n - (intOf c).toNat)
  case atStart => exact ⟨0, Nat.zero_le _, rfl, h0, Turn.refl _ _⟩
  case round =>
    clear h0
    obtain ⟨i, hi, rfl, O, T⟩ := hrel
    by_cases hlt : i < n
    · have hlt' : (i : Int) < (n : Int) := by omega
      obtain ⟨g, rfl⟩ := ha (by omega)
      obtain ⟨b, hb⟩ : ∃ b, X[i]? = some b := ⟨X[i]'(by rw [Hn.out]; exact hlt), List.getElem?_eq_getElem _⟩
      have cb : wr.cell? ⟨g, i, none⟩ = some (.int .u8 b.toNat) := O.cell i (bv b) (by rw [List.getElem?_map, xorTo_get X m i b hb]; rfl)
      have fb : wr.frozen? ⟨g, i, none⟩ = false := by
        obtain ⟨c, ho⟩ := O.obj rfl
        exact frozen_of_row wr g i c 5 ho
      have hxx := xor8 b m
      have O2 := O.setAt i (bv (b ^^^ m))
      rw [← List.map_set, xorTo_set X m i b hb] at O2
      have T2 := T.setCell (p := ⟨g, i, none⟩) (fun _ => rfl) (bv (b ^^^ m))
      unfold bv at T2
      have O3 : Own (wr.setCell ⟨g, i, none⟩ (.int .u8 (b ^^^ m).toNat)) 5 (.slice (some ⟨g, 0, none⟩) n cap) ((xorTo X m (i + 1)).map bv) := O2
      have HH := shutX (And.intro O3 T2)
      clear O O2 O3 T T2 hb ha
      generalize (b ^^^ m).toNat = y at *
      go_wp2_with fail
      go_roundw
      case rel => exact ⟨i + 1, by omega, by go_num, HH.out.1, HH.out.2⟩
      case measure => simp [intOf]; omega
    · obtain rfl : i = n := by omega
      have hlt' : ¬ (i : Int) < (i : Int) := by omega
      have e1 : xorTo X m i = X.map (· ^^^ m) := by
        unfold xorTo
        rw [List.take_of_length_le (by rw [Hn.out]; omega), List.drop_of_length_le (by rw [Hn.out]; omega), List.append_nil]
      rw [e1] at O
      go_wp2_with fail
      go_loopw [0, 6] (fun u c wr => ∃ j : Nat, j ≤ 40 ∧ c = .int .i64 j ∧ Own wr 5 u ((X.map (· ^^^ m) ++ List.replicate j m).map bv) ∧ Turn (fun k => (Value.slice a i cap).ownBlock = some k) w wr ∧ Near w (.slice a i cap) u) (fun _ c _ => 40 - (intOf c).toNat)
      case atStart => exact ⟨0, by omega, rfl, by simpa using O, T, .inl rfl⟩
      case round =>
        rename_i wr2
        clear O T e1
        obtain ⟨j, hj, rfl, O, T, N⟩ := hrel
        by_cases hlt2 : j < 40
        · have hlt2' : (j : Int) < 40 := by omega
          obtain ⟨L, hL⟩ : ∃ L, X.map (· ^^^ m) ++ List.replicate j m = L := ⟨_, rfl⟩
          have hLl : L.length = i + j := by rw [← hL]; simp [Hn.out]
          have hL2 : X.map (· ^^^ m) ++ List.replicate (j + 1) m = L ++ [m] := by rw [replicate_snoc, ← List.append_assoc, hL]
          rw [hL] at O
          have HL := shutX hL2
          clear hL hL2
          obtain ⟨ad, ln, cp, rfl⟩ := O.form
          go_wp2_with (at_builtin; refine wpList_append_src rfl (.tmp 26) (.tmp 28) rfl Try.underlying36 Try.info5 rfl _ (L.map bv) rfl (O.turn_no ((Turn.refl _ _).alloc _)) _ 1 (List.map bv [m]) rfl ?src ?bb ?mm ?_)
          case src => exact src_byte Try.underlying36 _ _ m rfl
          case bb => simp; omega
          case mm => simp [maxLen]; omega
          intro v1 w1 o1 g1 _
          have o1 : Own w1 5 v1 ((L ++ [m]).map bv) := by simpa using o1
          have N1 : Near w (.slice a i cap) v1 := N.grew g1 (by have := T.size; simp; omega)
          have T1 : Turn (fun k => (Value.slice a i cap).ownBlock = some k) w w1 := (T.alloc _).trans g1.turn (fun k hk q => by
            rcases N with r | ⟨g, r, hg⟩
            · rw [← r]; exact q
            · rw [r] at q; cases q; omega)
          obtain ⟨ad', ln', cp', rfl⟩ := o1.form
          rw [← HL.out] at o1
          have HH := shutX (And.intro o1 (And.intro T1 N1))
          clear o1 g1 T1 N1 O T N HL
          go_wp2_with fail
          go_roundw
          case rel => exact ⟨j + 1, by omega, by go_num, HH.out.1, HH.out.2.1, HH.out.2.2⟩
          case measure => simp [intOf]; omega
        · obtain rfl : j = 40 := by omega
          have hlt2' : ¬ ((40 : Nat) : Int) < 40 := by omega
          obtain ⟨ad, ln, cp, rfl⟩ := O.form
          go_wp2_with fail
          go_ret
          exact ⟨_, rfl, O, T, N⟩
end Go.Proofs.Ytpfjllkmaogafaa
