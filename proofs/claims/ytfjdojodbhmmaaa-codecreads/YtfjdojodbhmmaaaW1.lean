/- Walks: pointers held against each other, fault, made, Err and the other small ones; same, lent, left. -/
import Derived.Test.YtfjdojodbhmmaaaRows
import Derived.Test.YtfjdojodbhmmaaaBase
namespace Go.Proofs.Ytfjdojodbhmmaaa
open Go.RowKit

theorem Try.info5 : (Try.prog.info? 5).map (fun i => (i.zero, i.size, i.bytes)) = some (some (.int .u8 0), 1, 1) := by kernel_rfl
theorem some65 : (Try.prog.info? 65).isSome = true := by kernel_rfl
theorem some67 : (Try.prog.info? 67).isSome = true := by kernel_rfl

theorem neq50_same (a : Addr) (w : World) : (binOp .neq 50 (.pointer (some a)) (.pointer (some a))).run Try.prog w = .ok (.bool false) w := by
  obtain ⟨j, hj⟩ := Option.isSome_iff_exists.1 some65
  exact Lib.run_neq_ptr_same w a Try.underlying50 hj
theorem eql40_same (a : Addr) (w : World) : (binOp .eql 40 (.pointer (some a)) (.pointer (some a))).run Try.prog w = .ok (.bool true) w := by
  obtain ⟨j, hj⟩ := Option.isSome_iff_exists.1 some67
  exact run_eql_ptr_same w a Try.underlying40 hj
theorem neq50_nil (a : Addr) (w : World) : (binOp .neq 50 (.pointer none) (.pointer (some a))).run Try.prog w = .ok (.bool true) w := by
  have h : ∀ d : Nat, (Op.equalIn (d + 1) 50 (.pointer none) (.pointer (some a))).run Try.prog w = .ok false w := fun d => by
    simp [Op.equalIn, run_underlying Try.underlying50]
  simp only [binOp]
  simp [Op.equal, Op.maxDepth, h 9999]
theorem eql40_nil (a : Addr) (w : World) : (binOp .eql 40 (.pointer none) (.pointer (some a))).run Try.prog w = .ok (.bool false) w := by
  have h : ∀ d : Nat, (Op.equalIn (d + 1) 40 (.pointer none) (.pointer (some a))).run Try.prog w = .ok false w := fun d => by
    simp [Op.equalIn, run_underlying Try.underlying40]
  simp only [binOp]
  simp [Op.equal, Op.maxDepth, h 9999]

attribute [local go_sem] neq50_same eql40_same neq50_nil eql40_nil

/-- What 'fault' answers of a Writer: no Writer, one that was not made, one with this error. -/
def Fault (w : World) (v : Value) (e : Int) : Prop :=
  (v = .pointer none ∧ e = 1) ∨ (∃ p, v = .pointer (some ⟨p, 0, none⟩) ∧ w.cell? ⟨p, 0, none⟩ = some (.pointer none) ∧ e = 1) ∨
  (∃ p, v = .pointer (some ⟨p, 0, none⟩) ∧ w.cell? ⟨p, 0, none⟩ = some (.pointer (some ⟨p, 0, none⟩)) ∧ w.cell? ⟨p, 2, none⟩ = some (.int .i64 e))

set_option maxRecDepth 100000 in
set_option maxHeartbeats 400000 in
theorem fault_any (w : World) (v : Value) (e0 : Int) (h : Fault w v e0) :
    Calls Try.prog 66 #[v] w fun e w' => e = .returned (.int .i64 e0) ∧ w = w' := by
  rcases h with ⟨rfl, rfl⟩ | ⟨p, rfl, h0, rfl⟩ | ⟨p, rfl, h0, h2⟩
  all_goals
    go_enter Try.func66, Try.ntmps66
    go_wp2
    go_ret
    exact ⟨rfl, rfl⟩

/-- What 'Err' answers of a Reader, likewise; and whether it was made. -/
def Errs (w : World) (v : Value) (e : Int) : Prop :=
  (v = .pointer none ∧ e = 1) ∨ (∃ p, v = .pointer (some ⟨p, 0, none⟩) ∧ w.cell? ⟨p, 0, none⟩ = some (.pointer none) ∧ e = 1) ∨
  (∃ p, v = .pointer (some ⟨p, 0, none⟩) ∧ w.cell? ⟨p, 0, none⟩ = some (.pointer (some ⟨p, 0, none⟩)) ∧ w.cell? ⟨p, 3, none⟩ = some (.int .i64 e))

set_option maxRecDepth 100000 in
set_option maxHeartbeats 400000 in
theorem err_any (w : World) (v : Value) (e0 : Int) (h : Errs w v e0) :
    Calls Try.prog 16 #[v] w fun e w' => e = .returned (.int .i64 e0) ∧ w = w' := by
  rcases h with ⟨rfl, rfl⟩ | ⟨p, rfl, h0, rfl⟩ | ⟨p, rfl, h0, h2⟩
  all_goals
    go_enter Try.func16, Try.ntmps16
    go_wp2
    go_ret
    exact ⟨rfl, rfl⟩


theorem beq_take_succ {xs bs : List UInt8} {k : Nat} (hl : xs.length = bs.length) (hk : k < xs.length) (h : xs.take k = bs.take k) (he : xs.getD k 0 = bs.getD k 0) : xs.take (k + 1) = bs.take (k + 1) := by
  rw [List.take_succ_eq_append_getElem hk, List.take_succ_eq_append_getElem (by omega), h]
  have e1 : xs[k] = xs.getD k 0 := by simp [hk]
  have e2 : bs[k] = bs.getD k 0 := by simp [show k < bs.length by omega]
  rw [e1, e2, he]

theorem ne_of_getD {xs bs : List UInt8} {k : Nat} (he : xs.getD k 0 ≠ bs.getD k 0) : (xs == bs) = false := by
  apply beq_eq_false_iff_ne.2
  intro h
  exact he (by rw [h])

theorem u8_ne {a b : UInt8} (h : ((a.toNat : Int) != (b.toNat : Int)) = true) : a ≠ b := by
  intro q
  subst q
  simp at h

theorem u8_eq {a b : UInt8} (h : ((a.toNat : Int) != (b.toNat : Int)) = false) : a = b := by
  simp at h
  exact UInt8.toNat_inj.1 (by omega)

set_option maxRecDepth 100000 in
set_option maxHeartbeats 1000000 in
theorem same_any (w : World) (va vb : Value) (xs bs : List UInt8) (ha : Bs w va xs) (hb : Bs w vb bs) :
    Calls Try.prog 12 #[va, vb] w fun e w' => e = .returned (.bool (xs == bs)) ∧ ∃ n, w' = w.drewN n := by
  have hla := ha.le
  have hlb := hb.le
  unfold maxLen at hla hlb
  by_cases hl : xs.length = bs.length
  · have hl' : (((xs.length : Nat) : Int) != ((bs.length : Nat) : Int)) = false := by rw [hl]; simp
    by_cases h0 : xs.length = 0
    · obtain ⟨a, c, rfl⟩ := ha.slice
      obtain ⟨a', c', rfl⟩ := hb.slice
      have e1 : xs = [] := List.eq_nil_of_length_eq_zero h0
      have e2 : bs = [] := List.eq_nil_of_length_eq_zero (by omega)
      subst e1 e2
      clear ha hb
      go_enter Try.func12, Try.ntmps12
      go_wp2
      go_loop [5] (fun i => i = .int .i64 0) (fun _ => 0)
      case atStart => rfl
      case round =>
        subst hrel
        go_wp2
        go_ret
        exact ⟨rfl, 0, rfl⟩
    · obtain ⟨b, off, cap, rfl, _, hca⟩ := ha.at (by omega)
      obtain ⟨b', off', cap', rfl, _, hcb⟩ := hb.at (by omega)
      clear ha hb
      go_enter Try.func12, Try.ntmps12
      go_wp2
      go_loopw [5] (fun i wr => ∃ k : Nat, k ≤ xs.length ∧ i = .int .i64 k ∧ xs.take k = bs.take k ∧ ∃ n, wr = w.drewN n) (fun i _ => xs.length - (intOf i).toNat)
      case atStart => exact ⟨0, Nat.zero_le _, rfl, rfl, 0, rfl⟩
      case round =>
        obtain ⟨k, hk, rfl, heq, n, rfl⟩ := hrel
        have Heq : Hid (xs.take k = bs.take k) := heq
        clear heq
        by_cases hlt : k < xs.length
        · have g1 := hca k hlt
          have g2 := hcb k (by omega)
          have hlt2 : k < bs.length := by omega
          go_wp2
          go_quiet (fail)
          go_wp2
          · go_ret
            have hq : (xs == bs) = false := ne_of_getD (k := k) (by simp only [List.getD_eq_getElem?_getD, List.getElem?_eq_getElem hlt, List.getElem?_eq_getElem hlt2, Option.getD_some]; exact u8_ne ‹_›)
            rw [hq]
            exact ⟨rfl, n + nq, by simp⟩
          · go_roundw
            case rel => exact ⟨k + 1, by omega, by go_num, beq_take_succ hl hlt Heq.out (by simp only [List.getD_eq_getElem?_getD, List.getElem?_eq_getElem hlt, List.getElem?_eq_getElem hlt2, Option.getD_some]; exact u8_eq ‹_›), _, rfl⟩
            case measure => simp [intOf]; omega
        · have hge : ¬ k < bs.length := by omega
          go_wp2
          go_ret
          have hq : (xs == bs) = true := by
            have h := Heq.out
            rw [List.take_of_length_le (by omega), List.take_of_length_le (by omega)] at h
            rw [h]; simp
          rw [hq]
          exact ⟨rfl, _, rfl⟩
  · obtain ⟨a, c, rfl⟩ := ha.slice
    obtain ⟨a', c', rfl⟩ := hb.slice
    have hl' : (((xs.length : Nat) : Int) != ((bs.length : Nat) : Int)) = true := by simp; omega
    have hne : (xs == bs) = false := beq_eq_false_iff_ne.2 (fun q => hl (by rw [q]))
    clear ha hb
    go_enter Try.func12, Try.ntmps12
    go_wp2
    go_ret
    rw [hne]
    exact ⟨rfl, 0, rfl⟩


theorem own_empty (w : World) (e : TypeId) : Own (w.alloc (.cells #[] e)) e (.slice (some ⟨w.heap.size, 0, none⟩) 0 0) [] :=
  Own.of (xs := []) (heap_alloc_new w _) (Nat.le_refl _) (Nat.zero_le _) rfl rfl

/-- What 'lent' hands out: a row of its own with three marks behind. -/
def Lent (w : World) (v : Value) (bs : List UInt8) : Prop :=
  ∃ g cap cur, v = .slice (some ⟨g, 0, none⟩) bs.length cap ∧ w.heap[g]? = some (.cells cur 5 (0, 0)) ∧ bs.length + 3 ≤ cap ∧ cap ≤ maxLen ∧ cur.size = cap ∧ cur.toList.take (bs.length + 3) = (bs ++ [161, 162, 163]).map bv

set_option maxRecDepth 100000 in
set_option maxHeartbeats 1000000 in
theorem lent_any (w : World) (v : Value) (bs : List UInt8) (hb : Bs w v bs) (hle : bs.length + 3 ≤ 140737488355328) :
    Calls Try.prog 29 #[v] w fun e w' => ∃ v' g, e = .returned v' ∧ Lent w' v' bs ∧ v'.ownBlock = some g ∧ w.heap.size ≤ g ∧ Turn no w w' := by
  obtain ⟨a, c, rfl⟩ := hb.slice
  have hm : maxLen = 9223372036854775807 := by unfold maxLen; omega
  go_enter Try.func29, Try.ntmps29
  go_wp2_with (at_builtin; refine wpList_append_src rfl (.tmp 4) (.tmp 5) rfl Try.underlying25 Try.info5 rfl _ [] rfl (own_empty _ _) _ bs.length (bs.map bv) rfl ?src ?b ?m ?_)
  case src => exact Bs.src Try.underlying25 (hb.turn_no ((Turn.refl _ _).alloc _))
  case b => simp; omega
  case m => simp [hm]; omega
  intro v1 w1 hown1 hgrew1 _
  have hown1 : Own w1 5 v1 (bs.map bv) := hown1
  have hf0 : ∀ g, (Value.slice (some ⟨w.heap.size, 0, none⟩) 0 0).ownBlock = some g → w.heap.size ≤ g := fun g q => by cases q; exact Nat.le_refl _
  have hT1 : Turn no w w1 := ((Turn.refl _ _).alloc _).fresh hgrew1 hf0
  have hf1 := hgrew1.fresh hf0 (by simp)
  clear hgrew1 hf0
  go_wp2_with (at_builtin; refine wpList_append_src rfl (.tmp 7) (.tmp 8) rfl Try.underlying25 Try.info5 rfl _ (bs.map bv) rfl (hown1.turn_no ((Turn.refl _ _).alloc _)) _ 3 (List.map bv [161, 162, 163]) rfl ?src ?b ?m ?_)
  case src => exact src_lit Try.underlying25 w1 [161, 162, 163]
  case b => simp; omega
  case m => simp [hm]; omega
  intro v2 w2 hown2 hgrew2 hne2
  have hown2 : Own w2 5 v2 ((bs ++ [161, 162, 163]).map bv) := by simpa using hown2
  have hT2 : Turn no w w2 := (hT1.alloc _).fresh hgrew2 hf1
  have hf2 := hgrew2.fresh hf1 (by have := hT1.size; simp; omega)
  clear hgrew2 hf1 hne2 hown1
  rcases hown2.shape with ⟨rfl, q⟩ | ⟨g, cap, cur, rfl, hg, h1, h2, h3, h4⟩
  · simp at q
  · clear hown2
    have hg2 := hf2 g rfl
    have e1 : ((bs ++ [161, 162, 163]).map bv).length = bs.length + 3 := by simp
    rw [e1] at h1 h4 ⊢
    go_wp2_with fail
    go_ret
    exact ⟨_, g, rfl, ⟨g, cap, cur, rfl, hg, h1, h2, h3, h4⟩, rfl, hg2, hT2⟩

theorem cells_set {w : World} {g : Nat} {cur : Array Value} {e : TypeId} (k : Nat) (u : Value) (hg : w.heap[g]? = some (.cells cur e (0, 0))) : (w.setCell ⟨g, k, none⟩ u).heap[g]? = some (.cells (cur.setIfInBounds k u) e (0, 0)) :=
  heap_setCell_same w g k cur e u hg

theorem Lent.bs {w : World} {v : Value} {bs : List UInt8} (h : Lent w v bs) : Bs w v bs := by
  obtain ⟨g, cap, cur, rfl, hg, h1, h2, h3, h4⟩ := h
  refine Or.inr ⟨⟨g, 0, none⟩, cap, rfl, by omega, h2, fun j u hu => ?_⟩
  rw [Addr.add_lit, cell_of_row w g (0 + j) cur 5 (0, 0) hg, Nat.zero_add]
  have hj : j < bs.length := (List.getElem?_eq_some_iff.1 hu).1
  have : (cur.toList.take (bs.length + 3))[j]? = some (bv u) := by
    rw [h4, List.getElem?_map, List.getElem?_append_left hj, hu]; rfl
  rw [List.getElem?_take, if_pos (by omega)] at this
  simpa using this

theorem Lent.mark {w : World} {g : Nat} {cur : Array Value} {bs : List UInt8} (hg : w.heap[g]? = some (.cells cur 5 (0, 0))) (h4 : cur.toList.take (bs.length + 3) = (bs ++ [161, 162, 163]).map bv) (j : Nat) (hj : j < 3) : w.cell? ⟨g, bs.length + j, none⟩ = some (bv ([161, 162, 163].getD j 0)) := by
  rw [cell_of_row w g _ cur 5 (0, 0) hg]
  have : (cur.toList.take (bs.length + 3))[bs.length + j]? = some (bv ([161, 162, 163].getD j 0)) := by
    rw [h4, List.getElem?_map, List.getElem?_append_right (by omega)]
    have : bs.length + j - bs.length = j := by omega
    rw [this]
    match j, hj with
    | 0, _ => rfl
    | 1, _ => rfl
    | 2, _ => rfl
  rw [List.getElem?_take, if_pos (by omega)] at this
  simpa using this

/-- The first m cells of a row are bytes. -/
def AllU8 (cur : Array Value) (m : Nat) : Prop := ∀ j, j < m → ∃ b : Int, cur[j]? = some (.int .u8 b)

theorem AllU8.set {cur : Array Value} {m : Nat} (h : AllU8 cur m) (k : Nat) (b : Int) (hk : k < cur.size) : AllU8 (cur.setIfInBounds k (.int .u8 b)) m := by
  intro j hj
  by_cases q : k = j
  · subst q; exact ⟨b, by simp [hk]⟩
  · obtain ⟨b', hb'⟩ := h j hj
    exact ⟨b', by rw [Array.getElem?_setIfInBounds_ne q]; exact hb'⟩

theorem allU8_of {cur : Array Value} {bs : List UInt8} {m : Nat} (h4 : cur.toList.take m = bs.map bv) (hm : m ≤ cur.size) : AllU8 cur m := by
  intro j hj
  have hl : bs.length = m := by have := congrArg List.length h4; simp at this; omega
  have hb : bs[j]? = some bs[j] := List.getElem?_eq_getElem (by omega)
  have h : (cur.toList.take m)[j]? = some (bv bs[j]) := by rw [h4, List.getElem?_map, hb]; rfl
  rw [List.getElem?_take, if_pos hj] at h
  exact ⟨_, by simpa [bv] using h⟩

set_option maxRecDepth 100000 in
set_option maxHeartbeats 1000000 in
theorem left_any (w : World) (vl vb : Value) (bs : List UInt8) (g : Nat) (hlent : Lent w vl bs) (hown : vl.ownBlock = some g) (hb : Bs w vb bs) (hle : bs.length + 3 ≤ 140737488355328) :
    Calls Try.prog 30 #[vl, vb] w fun e w' => e = .returned (.bool true) ∧ Turn (fun k => k = g) w w' := by
  have hbs := hlent.bs
  obtain ⟨a, c, rfl⟩ := hb.slice
  obtain ⟨g', cap, cur, rfl, hg, h1, h2, h3, h4⟩ := hlent
  cases hown
  have m0 := Lent.mark hg h4 0 (by omega)
  have m1 := Lent.mark hg h4 1 (by omega)
  have m2 := Lent.mark hg h4 2 (by omega)
  have q0 : bv ([161, 162, 163].getD 0 0) = .int .u8 161 := rfl
  have q1 : bv ([161, 162, 163].getD 1 0) = .int .u8 162 := rfl
  have q2 : bv ([161, 162, 163].getD 2 0) = .int .u8 163 := rfl
  rw [q0, Nat.add_zero] at m0
  rw [q1] at m1
  rw [q2] at m2
  clear q0 q1 q2
  have hall : AllU8 cur (bs.length + 3) := allU8_of h4 (by omega)
  clear h4
  unfold maxLen at h2
  go_enter Try.func30, Try.ntmps30
  go_wp2_with (go_at_call 12; refine (same_any _ _ _ bs bs hbs hb).mono ?_; rintro e w' ⟨rfl, n, rfl⟩)
  go_loopw [7] (fun i wr => ∃ (k : Nat) (cur' : Array Value), k ≤ bs.length + 3 ∧ i = .int .i64 k ∧ wr.heap[g']? = some (.cells cur' 5 (0, 0)) ∧ cur'.size = cap ∧ AllU8 cur' (bs.length + 3) ∧ Turn (fun k => k = g') w wr) (fun i _ => bs.length + 3 - (intOf i).toNat)
  case atStart => exact ⟨0, cur, Nat.zero_le _, rfl, hg, h3, hall, (Turn.refl _ _).drewN _⟩
  case round =>
    obtain ⟨k, cur', hk, rfl, hg', h3', hall', hT⟩ := hrel
    clear hall m0 m1 m2 hg hbs hb
    by_cases hlt : k < bs.length + 3
    · obtain ⟨b, hb⟩ := hall' k hlt
      have hc : wr.cell? ⟨g', k, none⟩ = some (.int .u8 b) := by rw [cell_of_row wr g' k cur' 5 (0, 0) hg']; exact hb
      have hf : wr.frozen? ⟨g', k, none⟩ = false := frozen_of_row wr g' k cur' 5 hg'
      have hlt' : (k : Int) < (bs.length : Int) + 3 := by omega
      clear hb
      go_wp2
      go_roundw
      case rel => exact ⟨k + 1, _, by omega, by go_num, cells_set k _ hg', by simpa using h3', hall'.set k _ (by omega), hT.setCell (fun _ => rfl) _⟩
      case measure => simp [intOf]; omega
    · have hge : ¬ (k : Int) < (bs.length : Int) + 3 := by omega
      go_wp2
      go_ret
      exact ⟨rfl, hT⟩
end Go.Proofs.Ytfjdojodbhmmaaa
