/- full, of bytes that may be written over. -/
import Derived.Test.YtfjdojodbhmmaaaY0
import Derived.Test.YtfjdojodbhmmaaaX4
namespace Go.Proofs.Ytfjdojodbhmmaaa
open Go.RowKit
set_option linter.unusedVariables false

theorem Wb.at {w : World} {g n cap : Nat} (h : Wb w (.slice (some ⟨g, 0, none⟩) n cap) n) (i : Nat) (hi : i < n) : ∃ u, w.cell? ⟨g, i, none⟩ = some (.int .u8 u) ∧ w.frozen? ⟨g, i, none⟩ = false := by
  rcases h with ⟨q, _⟩ | ⟨g', cap', e, hgl, h1, h2, h3⟩
  · cases q
  · cases e
    obtain ⟨⟨u, hu⟩, hf⟩ := h3 i (by omega)
    exact ⟨u, hu, hf⟩
set_option maxRecDepth 100000 in
set_option maxHeartbeats 2000000 in
theorem full35w (w : World) (v : Value) (n : Nat) (m : UInt8) (h : Wb w v n) (hle : n + 50 ≤ 140737488355328) :
    Calls Try.prog 35 #[v, .int .u8 m.toNat] w fun e w' => ∃ v', e = .returned v' ∧ Turn (fun k => v.ownBlock = some k) w w' := by
  obtain ⟨a, cap, hv, ha⟩ := h.form
  subst hv
  go_enter Try.func35, Try.ntmps35
  go_wp2_with fail
  go_loopw [5] (fun c wr => ∃ i : Nat, i ≤ n ∧ c = .int .i64 i ∧ Wb wr (.slice a n cap) n ∧ Turn (fun k => (Value.slice a n cap).ownBlock = some k) w wr) (fun c _ => n - (intOf c).toNat)
  case atStart => exact ⟨0, Nat.zero_le _, rfl, h, Turn.refl _ _⟩
  case round =>
    clear h
    obtain ⟨i, hi, rfl, O, T⟩ := hrel
    by_cases hlt : i < n
    · have hlt' : (i : Int) < (n : Int) := by omega
      obtain ⟨g, rfl⟩ := ha (by omega)
      obtain ⟨b, cb, fb⟩ := O.at i hlt
      obtain ⟨y, hy⟩ : ∃ y, bits .xor .u8 b (m.toNat : Int) = y := ⟨_, rfl⟩
      have HH := shutX (And.intro (O.set i y) (T.setCell (p := ⟨g, i, none⟩) (fun _ => rfl) (.int .u8 y)))
      clear O T ha
      go_wp2_with fail
      go_roundw
      case rel => exact ⟨i + 1, by omega, by go_num, HH.out.1, HH.out.2⟩
      case measure => simp [intOf]; omega
    · obtain rfl : i = n := by omega
      have hlt' : ¬ (i : Int) < (i : Int) := by omega
      go_wp2_with fail
      go_loopw [0, 6] (fun u c wr => ∃ j : Nat, j ≤ 40 ∧ c = .int .i64 j ∧ Wb wr u (i + j) ∧ Turn (fun k => (Value.slice a i cap).ownBlock = some k) w wr ∧ Near w (.slice a i cap) u) (fun _ c _ => 40 - (intOf c).toNat)
      case atStart => exact ⟨0, by omega, rfl, O, T, .inl rfl⟩
      case round =>
        rename_i wr2
        clear O T
        obtain ⟨j, hj, rfl, O, T, N⟩ := hrel
        by_cases hlt2 : j < 40
        · have hlt2' : (j : Int) < 40 := by omega
          obtain ⟨ad, cp, rfl, _⟩ := O.form
          go_wp2_with (at_builtin; refine wpList_append_wb rfl (.tmp 26) (.tmp 28) rfl Try.underlying25 Try.info5 _ (i + j) rfl (O.turn_no ((Turn.refl _ _).alloc _)) _ m.toNat rfl ?src ?bb ?mm ?_)
          case src => exact src_byte Try.underlying25 _ _ m rfl
          case bb => simp; omega
          case mm => simp [maxLen]; omega
          intro v1 w1 o1 g1 b1
          have N1 : Near w (.slice a i cap) v1 := by
            rcases b1 with r | ⟨g, r, hg⟩
            · rcases N with s | ⟨g', s, hs⟩
              · exact .inl (r.trans s)
              · exact .inr ⟨g', r.trans s, hs⟩
            · exact .inr ⟨g, r, by have := T.size; omega⟩
          have T1 : Turn (fun k => (Value.slice a i cap).ownBlock = some k) w w1 := (T.alloc _).trans g1 (fun k hk q => by
            rcases N with r | ⟨g, r, hg⟩
            · rw [← r]; exact q
            · rw [r] at q; cases q; omega)
          obtain ⟨ad', cp', rfl, _⟩ := o1.form
          have HH := shutX (And.intro o1 (And.intro T1 N1))
          clear o1 g1 b1 T1 N1 O T N
          go_wp2_with fail
          go_roundw
          case rel => exact ⟨j + 1, by omega, by go_num, HH.out.1, HH.out.2.1, HH.out.2.2⟩
          case measure => simp [intOf]; omega
        · obtain rfl : j = 40 := by omega
          have hlt2' : ¬ ((40 : Nat) : Int) < 40 := by omega
          obtain ⟨ad, cp, rfl, _⟩ := O.form
          go_wp2_with fail
          go_ret
          exact ⟨⟨_, rfl⟩, T⟩
theorem full35f (w : World) (v : Value) (n : Nat) (m : UInt8) (h : Fu w v n) (hle : n + 50 ≤ 140737488355328) :
    Calls Try.prog 35 #[v, .int .u8 m.toNat] w fun e w' => ∃ v', e = .returned v' ∧ Turn (fun k => v.ownBlock = some k) w w' := by
  rcases h with h | ⟨xs, h, rfl⟩
  · exact full35w w v n m h hle
  · refine (full35 w v xs m h hle).mono ?_
    rintro e w' ⟨v', rfl, _, t, _⟩
    exact ⟨v', rfl, t⟩
theorem xor_range (b : UInt8) : 0 ≤ bits .xor .u8 (if IntKind.u8.signed = true then -1 else IntKind.u8.max) (b.toNat : Int) ∧ bits .xor .u8 (if IntKind.u8.signed = true then -1 else IntKind.u8.max) (b.toNat : Int) < 256 := by
  have e : (if IntKind.u8.signed = true then -1 else IntKind.u8.max) = (((255 : UInt8).toNat : Nat) : Int) := by decide
  rw [e, xor8]
  have := ((255 : UInt8) ^^^ b).toNat_lt
  omega
/-- The first m cells of a row are bytes. -/
def AllB (cur : Array Value) (m : Nat) : Prop := ∀ j, j < m → ∃ b : UInt8, cur[j]? = some (bv b)
theorem AllB.set {cur : Array Value} {m : Nat} (h : AllB cur m) (k : Nat) (y : Int) (hk : k < cur.size) (hy : 0 ≤ y ∧ y < 256) : AllB (cur.setIfInBounds k (.int .u8 y)) m := by
  intro j hj
  by_cases q : k = j
  · subst q
    refine ⟨UInt8.ofNat y.toNat, ?_⟩
    have e : ((UInt8.ofNat y.toNat).toNat : Int) = y := by simp; omega
    unfold bv
    rw [e]
    simp [hk]
  · obtain ⟨b', hb'⟩ := h j hj
    exact ⟨b', by rw [Array.getElem?_setIfInBounds_ne q]; exact hb'⟩
theorem allB_of {cur : Array Value} {bs : List UInt8} {m : Nat} (h4 : cur.toList.take m = bs.map bv) (hm : m ≤ cur.size) : AllB cur m := by
  intro j hj
  have hl : bs.length = m := by have := congrArg List.length h4; simp at this; omega
  have hb : bs[j]? = some bs[j] := List.getElem?_eq_getElem (by omega)
  have h : (cur.toList.take m)[j]? = some (bv bs[j]) := by rw [h4, List.getElem?_map, hb]; rfl
  rw [List.getElem?_take, if_pos hj] at h
  exact ⟨_, by simpa [bv] using h⟩
theorem AllB.bs {w : World} {g cap n : Nat} {cur : Array Value} (h : AllB cur (n + 3)) (hg : w.heap[g]? = some (.cells cur 5 (0, 0))) (hs : cur.size = cap) (h1 : n ≤ cap) (h2 : cap ≤ 9223372036854775807) : ∃ cs, Bs w (.slice (some ⟨g, 0, none⟩) n cap) cs ∧ cs.length = n := by
  have : ∀ k, k ≤ n → ∃ cs : List UInt8, cs.length = k ∧ ∀ (j : Nat) (u : UInt8), cs[j]? = some u → cur[j]? = some (bv u) := by
    intro k
    induction k with
    | zero => intro _; exact ⟨[], rfl, fun j u hu => by simp at hu⟩
    | succ k ih =>
      intro hk
      obtain ⟨cs, hl, hc⟩ := ih (by omega)
      obtain ⟨b, hb⟩ := h k (by omega)
      refine ⟨cs ++ [b], by simp [hl], fun j u hu => ?_⟩
      rw [List.getElem?_append] at hu
      split at hu
      · exact hc j u hu
      · rename_i hj
        have e : j = k := by
          rcases Nat.lt_or_ge k j with q | q
          · rw [List.getElem?_eq_none (by simp; omega)] at hu; cases hu
          · omega
        subst e
        rw [hl, Nat.sub_self] at hu
        simp at hu
        subst hu
        exact hb
  obtain ⟨cs, hl, hc⟩ := this n (Nat.le_refl _)
  refine ⟨cs, .inr ⟨⟨g, 0, none⟩, cap, by rw [hl], by omega, by unfold maxLen; exact h2, fun j u hu => ?_⟩, hl⟩
  rw [Addr.add_lit, Nat.zero_add, cell_of_row w g j cur 5 (0, 0) hg]
  exact hc j u hu
set_option maxRecDepth 100000 in
set_option maxHeartbeats 1000000 in
theorem left_turned (w : World) (vl vb : Value) (bs : List UInt8) (g : Nat) (hlent : Lent w vl bs) (hown : vl.ownBlock = some g) (hb : Bs w vb bs) (hle : bs.length + 3 ≤ 140737488355328) :
    Calls Try.prog 30 #[vl, vb] w fun e w' => e = .returned (.bool true) ∧ Turn (fun k => k = g) w w' ∧ ∃ cs, Bs w' vl cs ∧ cs.length = bs.length := by
  have hbs := hlent.bs
  obtain ⟨a, c, rfl⟩ := hb.slice
  obtain ⟨g', cap, cur, rfl, hg, h1, h2, h3, h4⟩ := hlent
  cases hown
  have m0 := Lent.mark hg h4 0 (by omega)
  have m1 := Lent.mark hg h4 1 (by omega)
  have m2 := Lent.mark hg h4 2 (by omega)
  have q0 : bv ([161, 162, 163].getD 0 0) = .int .u8 161 := rfl
  have q1 : bv ([161, 162, 163].getD 1 0) = .int .u8 162 := rfl
  have q2 : bv ([161, 162, 163].getD 2 0) = .int .u8 163 := rfl
  rw [q0, Nat.add_zero] at m0
  rw [q1] at m1
  rw [q2] at m2
  clear q0 q1 q2
  have hall : AllB cur (bs.length + 3) := allB_of h4 (by omega)
  clear h4
  unfold maxLen at h2
  go_enter Try.func30, Try.ntmps30
  go_wp2_with (go_at_call 12; refine (same_any _ _ _ bs bs hbs hb).mono ?_; rintro e w' ⟨rfl, n, rfl⟩)
  go_loopw [7] (fun i wr => ∃ (k : Nat) (cur' : Array Value), k ≤ bs.length + 3 ∧ i = .int .i64 k ∧ wr.heap[g']? = some (.cells cur' 5 (0, 0)) ∧ cur'.size = cap ∧ AllB cur' (bs.length + 3) ∧ Turn (fun k => k = g') w wr) (fun i _ => bs.length + 3 - (intOf i).toNat)
  case atStart => exact ⟨0, cur, Nat.zero_le _, rfl, hg, h3, hall, (Turn.refl _ _).drewN _⟩
  case round =>
    obtain ⟨k, cur', hk, rfl, hg', h3', hall', hT⟩ := hrel
    clear hall m0 m1 m2 hg hbs hb
    by_cases hlt : k < bs.length + 3
    · obtain ⟨b, hb⟩ := hall' k hlt
      have hb8 := b.toNat_lt
      have hc : wr.cell? ⟨g', k, none⟩ = some (.int .u8 b.toNat) := by rw [cell_of_row wr g' k cur' 5 (0, 0) hg']; exact hb
      have hf : wr.frozen? ⟨g', k, none⟩ = false := frozen_of_row wr g' k cur' 5 hg'
      have hlt' : (k : Int) < (bs.length : Int) + 3 := by omega
      clear hb
      go_wp2
      go_roundw
      case rel => exact ⟨k + 1, _, by omega, by go_num, cells_set k _ hg', by simpa using h3', hall'.set k _ (by omega) (xor_range b), hT.setCell (fun _ => rfl) _⟩
      case measure => simp [intOf]; omega
    · have hge : ¬ (k : Int) < (bs.length : Int) + 3 := by omega
      go_wp2
      go_ret
      exact ⟨rfl, hT, hall'.bs hg' h3' (by omega) h2⟩
end Go.Proofs.Ytfjdojodbhmmaaa
