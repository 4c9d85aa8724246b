/- full: a list is turned, and made longer. -/
import Derived.Test.YtfjdojodbhmmaaaX1
import Derived.Laws.BitsAllLaws
namespace Go.Proofs.Ytfjdojodbhmmaaa
open Go.RowKit
set_option linter.unusedVariables false

theorem Own.setAt {w : World} {e : TypeId} {g n cap : Nat} {xs : List Value} (h : Own w e (.slice (some ⟨g, 0, none⟩) n cap) xs) (k : Nat) (u : Value) : Own (w.setCell ⟨g, k, none⟩ u) e (.slice (some ⟨g, 0, none⟩) n cap) (xs.set k u) := by
  rcases h.shape with ⟨e1, _⟩ | ⟨g', cap', cur, e1, hg, h1, h2, h3, h4⟩
  · cases e1
  · cases e1
    have := Own.of (w := w.setCell ⟨g, k, none⟩ u) (e := e) (xs := xs.set k u) (g := g) (cap := cap) (cur := cur.setIfInBounds k u) (heap_setCell_same w g k cur e u hg) (by simpa using h1) h2 (by simpa using h3) (by
      rw [Array.toList_setIfInBounds, List.length_set, List.take_set, h4])
    simpa using this
theorem Own.obj {w : World} {e : TypeId} {v : Value} {xs : List Value} (h : Own w e v xs) {g : Nat} (hg : v.ownBlock = some g) : ∃ cur, w.heap[g]? = some (.cells cur e (0, 0)) := by
  rcases h.shape with ⟨rfl, _⟩ | ⟨g', cap, cur, rfl, ho, _⟩
  · cases hg
  · simp [Value.ownBlock] at hg
    subst hg
    exact ⟨cur, ho⟩
theorem Own.len {w : World} {e : TypeId} {v : Value} {xs : List Value} (h : Own w e v xs) : ∃ a cap, v = .slice a xs.length cap ∧ (0 < xs.length → ∃ g, a = some ⟨g, 0, none⟩) := by
  rcases h.shape with ⟨rfl, rfl⟩ | ⟨g', cap, cur, rfl, ho, _⟩
  · exact ⟨none, 0, rfl, fun q => by simp at q⟩
  · exact ⟨_, cap, rfl, fun _ => ⟨g', rfl⟩⟩
theorem xor8 (a b : UInt8) : bits .xor .u8 (a.toNat : Int) (b.toNat : Int) = ((a ^^^ b).toNat : Int) := by
  rw [u8_xor_nat _ _ a.toNat_lt b.toNat_lt]
  simp
/-- Turned as far as i; turned and made longer. -/
def xorTo (X : List UInt8) (m : UInt8) (i : Nat) : List UInt8 := (X.take i).map (· ^^^ m) ++ X.drop i
def gro (X : List UInt8) (m : UInt8) : List UInt8 := X.map (· ^^^ m) ++ List.replicate 40 m
theorem gro_len (X : List UInt8) (m : UInt8) : (gro X m).length = X.length + 40 := by simp [gro]
theorem xorTo_len (X : List UInt8) (m : UInt8) (i : Nat) : (xorTo X m i).length = X.length := by simp [xorTo]; omega
theorem xorTo_get (X : List UInt8) (m : UInt8) (i : Nat) (b : UInt8) (hb : X[i]? = some b) : (xorTo X m i)[i]? = some b := by
  have hi : i < X.length := (List.getElem?_eq_some_iff.1 hb).1
  unfold xorTo
  rw [List.getElem?_append_right (by simp; omega)]
  simp only [List.length_map, List.length_take]
  rw [Nat.min_eq_left (by omega), Nat.sub_self, List.getElem?_drop]
  simpa using hb
theorem xorTo_set (X : List UInt8) (m : UInt8) (i : Nat) (b : UInt8) (hb : X[i]? = some b) : (xorTo X m i).set i (b ^^^ m) = xorTo X m (i + 1) := by
  have hi : i < X.length := (List.getElem?_eq_some_iff.1 hb).1
  have hbe : X[i] = b := (List.getElem?_eq_some_iff.1 hb).2
  unfold xorTo
  rw [List.set_append_right _ _ (by simp; omega)]
  simp only [List.length_map, List.length_take]
  rw [Nat.min_eq_left (by omega), Nat.sub_self, List.drop_eq_getElem_cons hi, List.set_cons_zero, List.take_succ_eq_append_getElem hi, List.map_append, hbe]
  simp
theorem replicate_snoc (m : UInt8) (j : Nat) : List.replicate (j + 1) m = List.replicate j m ++ [m] := by
  rw [List.replicate_succ']

set_option maxRecDepth 100000 in
set_option maxHeartbeats 2000000 in
theorem full35 (w : World) (v : Value) (X : List UInt8) (m : UInt8) (h : Own w 5 v (X.map bv)) (hle : X.length + 50 ≤ 140737488355328) :
    Calls Try.prog 35 #[v, .int .u8 m.toNat] w fun e w' => ∃ v', e = .returned v' ∧ Own w' 5 v' ((gro X m).map bv) ∧ Turn (fun k => v.ownBlock = some k) w w' ∧ Near w v v' := by
  obtain ⟨a, cap, hv, ha⟩ := h.len
  simp only [List.length_map] at hv ha
  obtain ⟨n, hn⟩ : ∃ n, X.length = n := ⟨_, rfl⟩
  rw [hn] at hv ha hle
  have Hn := shutX hn
  clear hn
  obtain ⟨vv, hvv⟩ : ∃ vv, v = vv := ⟨_, rfl⟩
  have Hv := shutX hvv
  rw [hvv] at h ⊢
  subst hv
  rw [← hvv] at h ⊢
  clear hvv Hv
  have h0 : Own w 5 (.slice a n cap) ((xorTo X m 0).map bv) := by simpa [xorTo] using h
  clear h
  go_enter Try.func35, Try.ntmps35
  go_wp2_with fail
  go_loopw [5] (fun c wr => ∃ i : Nat, i ≤ n ∧ c = .int .i64 i ∧ Own wr 5 (.slice a n cap) ((xorTo X m i).map bv) ∧ Turn (fun k => (Value.slice a n cap).ownBlock = some k) w wr) (fun c _ => n - (intOf c).toNat)
  case atStart => exact ⟨0, Nat.zero_le _, rfl, h0, Turn.refl _ _⟩
  case round =>
    clear h0
    obtain ⟨i, hi, rfl, O, T⟩ := hrel
    by_cases hlt : i < n
    · have hlt' : (i : Int) < (n : Int) := by omega
      obtain ⟨g, rfl⟩ := ha (by omega)
      obtain ⟨b, hb⟩ : ∃ b, X[i]? = some b := ⟨X[i]'(by rw [Hn.out]; exact hlt), List.getElem?_eq_getElem _⟩
      have cb : wr.cell? ⟨g, i, none⟩ = some (.int .u8 b.toNat) := O.cell i (bv b) (by rw [List.getElem?_map, xorTo_get X m i b hb]; rfl)
      have fb : wr.frozen? ⟨g, i, none⟩ = false := by
        obtain ⟨c, ho⟩ := O.obj rfl
        exact frozen_of_row wr g i c 5 ho
      have hxx := xor8 b m
      have O2 := O.setAt i (bv (b ^^^ m))
      rw [← List.map_set, xorTo_set X m i b hb] at O2
      have T2 := T.setCell (p := ⟨g, i, none⟩) (fun _ => rfl) (bv (b ^^^ m))
      unfold bv at T2
      have O3 : Own (wr.setCell ⟨g, i, none⟩ (.int .u8 (b ^^^ m).toNat)) 5 (.slice (some ⟨g, 0, none⟩) n cap) ((xorTo X m (i + 1)).map bv) := O2
      have HH := shutX (And.intro O3 T2)
      clear O O2 O3 T T2 hb ha
      generalize (b ^^^ m).toNat = y at *
      go_wp2_with fail
      go_roundw
      case rel => exact ⟨i + 1, by omega, by go_num, HH.out.1, HH.out.2⟩
      case measure => simp [intOf]; omega
    · obtain rfl : i = n := by omega
      have hlt' : ¬ (i : Int) < (i : Int) := by omega
      have e1 : xorTo X m i = X.map (· ^^^ m) := by
        unfold xorTo
        rw [List.take_of_length_le (by rw [Hn.out]; omega), List.drop_of_length_le (by rw [Hn.out]; omega), List.append_nil]
      rw [e1] at O
      go_wp2_with fail
      go_loopw [0, 6] (fun u c wr => ∃ j : Nat, j ≤ 40 ∧ c = .int .i64 j ∧ Own wr 5 u ((X.map (· ^^^ m) ++ List.replicate j m).map bv) ∧ Turn (fun k => (Value.slice a i cap).ownBlock = some k) w wr ∧ Near w (.slice a i cap) u) (fun _ c _ => 40 - (intOf c).toNat)
      case atStart => exact ⟨0, by omega, rfl, by simpa using O, T, .inl rfl⟩
      case round =>
        rename_i wr2
        clear O T e1
        obtain ⟨j, hj, rfl, O, T, N⟩ := hrel
        by_cases hlt2 : j < 40
        · have hlt2' : (j : Int) < 40 := by omega
          obtain ⟨L, hL⟩ : ∃ L, X.map (· ^^^ m) ++ List.replicate j m = L := ⟨_, rfl⟩
          have hLl : L.length = i + j := by rw [← hL]; simp [Hn.out]
          have hL2 : X.map (· ^^^ m) ++ List.replicate (j + 1) m = L ++ [m] := by rw [replicate_snoc, ← List.append_assoc, hL]
          rw [hL] at O
          have HL := shutX hL2
          clear hL hL2
          obtain ⟨ad, ln, cp, rfl⟩ := O.form
          go_wp2_with (at_builtin; refine wpList_append_src rfl (.tmp 26) (.tmp 28) rfl Try.underlying25 Try.info5 rfl _ (L.map bv) rfl (O.turn_no ((Turn.refl _ _).alloc _)) _ 1 (List.map bv [m]) rfl ?src ?bb ?mm ?_)
          case src => exact src_byte Try.underlying25 _ _ m rfl
          case bb => simp; omega
          case mm => simp [maxLen]; omega
          intro v1 w1 o1 g1 _
          have o1 : Own w1 5 v1 ((L ++ [m]).map bv) := by simpa using o1
          have N1 : Near w (.slice a i cap) v1 := N.grew g1 (by have := T.size; simp; omega)
          have T1 : Turn (fun k => (Value.slice a i cap).ownBlock = some k) w w1 := (T.alloc _).trans g1.turn (fun k hk q => by
            rcases N with r | ⟨g, r, hg⟩
            · rw [← r]; exact q
            · rw [r] at q; cases q; omega)
          obtain ⟨ad', ln', cp', rfl⟩ := o1.form
          rw [← HL.out] at o1
          have HH := shutX (And.intro o1 (And.intro T1 N1))
          clear o1 g1 T1 N1 O T N HL
          go_wp2_with fail
          go_roundw
          case rel => exact ⟨j + 1, by omega, by go_num, HH.out.1, HH.out.2.1, HH.out.2.2⟩
          case measure => simp [intOf]; omega
        · obtain rfl : j = 40 := by omega
          have hlt2' : ¬ ((40 : Nat) : Int) < 40 := by omega
          obtain ⟨ad, ln, cp, rfl⟩ := O.form
          go_wp2_with fail
          go_ret
          exact ⟨_, rfl, O, T, N⟩
end Go.Proofs.Ytfjdojodbhmmaaa
