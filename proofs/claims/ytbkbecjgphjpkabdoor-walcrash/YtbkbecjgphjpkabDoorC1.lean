/- Walks: fault, Err, same; a Writer. -/
import Derived.Test.YtbkbecjgphjpkabDoorRows
import Derived.Test.YtbkbecjgphjpkabDoorBase
import Derived.Test.YtbkbecjgphjpkabDoorBaseN
import Derived.Deep.RegionLaw
namespace Go.Proofs.YtbkbecjgphjpkabDoor
open Go.RowKit
set_option linter.unusedVariables false
theorem Tryd.info5 : (Tryd.prog.info? 5).map (fun i => (i.zero, i.size, i.bytes)) = some (some (.int .u8 0), 1, 1) := by kernel_rfl

theorem some80 : (Tryd.prog.info? 117).isSome = true := by kernel_rfl

theorem some103 : (Tryd.prog.info? 125).isSome = true := by kernel_rfl

theorem neq62_same (a : Addr) (w : World) : (binOp .neq 103 (.pointer (some a)) (.pointer (some a))).run Tryd.prog w = .ok (.bool false) w := by
  obtain ⟨j, hj⟩ := Option.isSome_iff_exists.1 some80
  exact Lib.run_neq_ptr_same w a Tryd.underlying103 hj

theorem eql95_same (a : Addr) (w : World) : (binOp .eql 111 (.pointer (some a)) (.pointer (some a))).run Tryd.prog w = .ok (.bool true) w := by
  obtain ⟨j, hj⟩ := Option.isSome_iff_exists.1 some103
  exact run_eql_ptr_same w a Tryd.underlying111 hj

theorem neq62_nil (a : Addr) (w : World) : (binOp .neq 103 (.pointer none) (.pointer (some a))).run Tryd.prog w = .ok (.bool true) w := by
  have h : ∀ d : Nat, (Op.equalIn (d + 1) 103 (.pointer none) (.pointer (some a))).run Tryd.prog w = .ok false w := fun d => by
    simp [Op.equalIn, run_underlying Tryd.underlying103]
  simp only [binOp]
  simp [Op.equal, Op.maxDepth, h 9999]

theorem eql95_nil (a : Addr) (w : World) : (binOp .eql 111 (.pointer none) (.pointer (some a))).run Tryd.prog w = .ok (.bool false) w := by
  have h : ∀ d : Nat, (Op.equalIn (d + 1) 111 (.pointer none) (.pointer (some a))).run Tryd.prog w = .ok false w := fun d => by
    simp [Op.equalIn, run_underlying Tryd.underlying111]
  simp only [binOp]
  simp [Op.equal, Op.maxDepth, h 9999]

attribute [local go_sem] neq62_same eql95_same neq62_nil eql95_nil

/-- What 'fault' answers of a Writer: no Writer, one that was not made, one with this error. -/
def Fault (w : World) (v : Value) (e : Int) : Prop :=
  (v = .pointer none ∧ e = 1) ∨ (∃ p, v = .pointer (some ⟨p, 0, none⟩) ∧ w.cell? ⟨p, 0, none⟩ = some (.pointer none) ∧ e = 1) ∨
  (∃ p, v = .pointer (some ⟨p, 0, none⟩) ∧ w.cell? ⟨p, 0, none⟩ = some (.pointer (some ⟨p, 0, none⟩)) ∧ w.cell? ⟨p, 2, none⟩ = some (.int .i64 e))

set_option maxRecDepth 100000 in
set_option maxHeartbeats 400000 in
theorem fault_any (w : World) (v : Value) (e0 : Int) (h : Fault w v e0) :
    Calls Tryd.prog 68 #[v] w fun e w' => e = .returned (.int .i64 e0) ∧ w = w' := by
  rcases h with ⟨rfl, rfl⟩ | ⟨p, rfl, h0, rfl⟩ | ⟨p, rfl, h0, h2⟩
  all_goals
    go_enter Tryd.func68, Tryd.ntmps68
    go_wp2
    go_ret
    exact ⟨rfl, rfl⟩

/-- What 'Err' answers of a Reader, likewise; and whether it was made. -/
def Errs (w : World) (v : Value) (e : Int) : Prop :=
  (v = .pointer none ∧ e = 1) ∨ (∃ p, v = .pointer (some ⟨p, 0, none⟩) ∧ w.cell? ⟨p, 0, none⟩ = some (.pointer none) ∧ e = 1) ∨
  (∃ p, v = .pointer (some ⟨p, 0, none⟩) ∧ w.cell? ⟨p, 0, none⟩ = some (.pointer (some ⟨p, 0, none⟩)) ∧ w.cell? ⟨p, 3, none⟩ = some (.int .i64 e))

set_option maxRecDepth 100000 in
set_option maxHeartbeats 400000 in
theorem err_any (w : World) (v : Value) (e0 : Int) (h : Errs w v e0) :
    Calls Tryd.prog 88 #[v] w fun e w' => e = .returned (.int .i64 e0) ∧ w = w' := by
  rcases h with ⟨rfl, rfl⟩ | ⟨p, rfl, h0, rfl⟩ | ⟨p, rfl, h0, h2⟩
  all_goals
    go_enter Tryd.func88, Tryd.ntmps88
    go_wp2
    go_ret
    exact ⟨rfl, rfl⟩

theorem beq_take_succ {xs bs : List UInt8} {k : Nat} (hl : xs.length = bs.length) (hk : k < xs.length) (h : xs.take k = bs.take k) (he : xs.getD k 0 = bs.getD k 0) : xs.take (k + 1) = bs.take (k + 1) := by
  rw [List.take_succ_eq_append_getElem hk, List.take_succ_eq_append_getElem (by omega), h]
  have e1 : xs[k] = xs.getD k 0 := by simp [hk]
  have e2 : bs[k] = bs.getD k 0 := by simp [show k < bs.length by omega]
  rw [e1, e2, he]

theorem ne_of_getD {xs bs : List UInt8} {k : Nat} (he : xs.getD k 0 ≠ bs.getD k 0) : (xs == bs) = false := by
  apply beq_eq_false_iff_ne.2
  intro h
  exact he (by rw [h])

theorem u8_ne {a b : UInt8} (h : ((a.toNat : Int) != (b.toNat : Int)) = true) : a ≠ b := by
  intro q
  subst q
  simp at h

theorem u8_eq {a b : UInt8} (h : ((a.toNat : Int) != (b.toNat : Int)) = false) : a = b := by
  simp at h
  exact UInt8.toNat_inj.1 (by omega)

set_option maxRecDepth 100000 in
set_option maxHeartbeats 1000000 in
theorem same_any (w : World) (va vb : Value) (xs bs : List UInt8) (ha : Bs w va xs) (hb : Bs w vb bs) :
    Calls Tryd.prog 19 #[va, vb] w fun e w' => e = .returned (.bool (xs == bs)) ∧ ∃ n, w' = w.drewN n := by
  have hla := ha.le
  have hlb := hb.le
  unfold maxLen at hla hlb
  by_cases hl : xs.length = bs.length
  · have hl' : (((xs.length : Nat) : Int) != ((bs.length : Nat) : Int)) = false := by rw [hl]; simp
    by_cases h0 : xs.length = 0
    · obtain ⟨a, c, rfl⟩ := ha.slice
      obtain ⟨a', c', rfl⟩ := hb.slice
      have e1 : xs = [] := List.eq_nil_of_length_eq_zero h0
      have e2 : bs = [] := List.eq_nil_of_length_eq_zero (by omega)
      subst e1 e2
      clear ha hb
      go_enter Tryd.func19, Tryd.ntmps19
      go_wp2
      go_loop [5] (fun i => i = .int .i64 0) (fun _ => 0)
      case atStart => rfl
      case round =>
        subst hrel
        go_wp2
        go_ret
        exact ⟨rfl, 0, rfl⟩
    · obtain ⟨b, off, cap, rfl, _, hca⟩ := ha.at (by omega)
      obtain ⟨b', off', cap', rfl, _, hcb⟩ := hb.at (by omega)
      clear ha hb
      go_enter Tryd.func19, Tryd.ntmps19
      go_wp2
      go_loopw [5] (fun i wr => ∃ k : Nat, k ≤ xs.length ∧ i = .int .i64 k ∧ xs.take k = bs.take k ∧ ∃ n, wr = w.drewN n) (fun i _ => xs.length - (intOf i).toNat)
      case atStart => exact ⟨0, Nat.zero_le _, rfl, rfl, 0, rfl⟩
      case round =>
        obtain ⟨k, hk, rfl, heq, n, rfl⟩ := hrel
        have Heq : Hid (xs.take k = bs.take k) := heq
        clear heq
        by_cases hlt : k < xs.length
        · have g1 := hca k hlt
          have g2 := hcb k (by omega)
          have hlt2 : k < bs.length := by omega
          go_wp2
          go_quiet (fail)
          go_wp2
          · go_ret
            have hq : (xs == bs) = false := ne_of_getD (k := k) (by simp only [List.getD_eq_getElem?_getD, List.getElem?_eq_getElem hlt, List.getElem?_eq_getElem hlt2, Option.getD_some]; exact u8_ne ‹_›)
            rw [hq]
            exact ⟨rfl, n + nq, by simp⟩
          · go_roundw
            case rel => exact ⟨k + 1, by omega, by go_num, beq_take_succ hl hlt Heq.out (by simp only [List.getD_eq_getElem?_getD, List.getElem?_eq_getElem hlt, List.getElem?_eq_getElem hlt2, Option.getD_some]; exact u8_eq ‹_›), _, rfl⟩
            case measure => simp [intOf]; omega
        · have hge : ¬ k < bs.length := by omega
          go_wp2
          go_ret
          have hq : (xs == bs) = true := by
            have h := Heq.out
            rw [List.take_of_length_le (by omega), List.take_of_length_le (by omega)] at h
            rw [h]; simp
          rw [hq]
          exact ⟨rfl, _, rfl⟩
  · obtain ⟨a, c, rfl⟩ := ha.slice
    obtain ⟨a', c', rfl⟩ := hb.slice
    have hl' : (((xs.length : Nat) : Int) != ((bs.length : Nat) : Int)) = true := by simp; omega
    have hne : (xs == bs) = false := beq_eq_false_iff_ne.2 (fun q => hl (by rw [q]))
    clear ha hb
    go_enter Tryd.func19, Tryd.ntmps19
    go_wp2
    go_ret
    rw [hne]
    exact ⟨rfl, 0, rfl⟩

theorem own_empty (w : World) (e : TypeId) : Own (w.alloc (.cells #[] e)) e (.slice (some ⟨w.heap.size, 0, none⟩) 0 0) [] :=
  Own.of (xs := []) (heap_alloc_new w _) (Nat.le_refl _) (Nat.zero_le _) rfl rfl

theorem cells_set {w : World} {g : Nat} {cur : Array Value} {e : TypeId} (k : Nat) (u : Value) (hg : w.heap[g]? = some (.cells cur e (0, 0))) : (w.setCell ⟨g, k, none⟩ u).heap[g]? = some (.cells (cur.setIfInBounds k u) e (0, 0)) :=
  heap_setCell_same w g k cur e u hg

/-- The first m cells of a row are bytes. -/
def AllU8 (cur : Array Value) (m : Nat) : Prop := ∀ j, j < m → ∃ b : Int, cur[j]? = some (.int .u8 b)

theorem AllU8.set {cur : Array Value} {m : Nat} (h : AllU8 cur m) (k : Nat) (b : Int) (hk : k < cur.size) : AllU8 (cur.setIfInBounds k (.int .u8 b)) m := by
  intro j hj
  by_cases q : k = j
  · subst q; exact ⟨b, by simp [hk]⟩
  · obtain ⟨b', hb'⟩ := h j hj
    exact ⟨b', by rw [Array.getElem?_setIfInBounds_ne q]; exact hb'⟩

theorem allU8_of {cur : Array Value} {bs : List UInt8} {m : Nat} (h4 : cur.toList.take m = bs.map bv) (hm : m ≤ cur.size) : AllU8 cur m := by
  intro j hj
  have hl : bs.length = m := by have := congrArg List.length h4; simp at this; omega
  have hb : bs[j]? = some bs[j] := List.getElem?_eq_getElem (by omega)
  have h : (cur.toList.take m)[j]? = some (bv bs[j]) := by rw [h4, List.getElem?_map, hb]; rfl
  rw [List.getElem?_take, if_pos hj] at h
  exact ⟨_, by simpa [bv] using h⟩

/-- A Writer that NewWriter made. -/
structure Wr (w : World) (p : Nat) (v : Value) (bs : List UInt8) (e : Int) : Prop where
  blk : w.heap[p]? = some (.cells #[.pointer (some ⟨p, 0, none⟩), v, .int .i64 e] 117 (0, 0))
  own : Own w 5 v (bs.map bv)
  ne : ∀ g, v.ownBlock = some g → g ≠ p

section
variable {w : World} {p : Nat} {v : Value} {bs : List UInt8} {e : Int}
theorem Wr.c0 (h : Wr w p v bs e) : w.cell? ⟨p, 0, none⟩ = some (.pointer (some ⟨p, 0, none⟩)) := by rw [cell_of_row w p 0 _ 117 (0, 0) h.blk]; rfl

theorem Wr.c1 (h : Wr w p v bs e) : w.cell? ⟨p, 1, none⟩ = some v := by rw [cell_of_row w p 1 _ 117 (0, 0) h.blk]; rfl

theorem Wr.c2 (h : Wr w p v bs e) : w.cell? ⟨p, 2, none⟩ = some (.int .i64 e) := by rw [cell_of_row w p 2 _ 117 (0, 0) h.blk]; rfl

theorem Wr.f (h : Wr w p v bs e) (j : Nat) : w.frozen? ⟨p, j, none⟩ = false := frozen_of_row w p j _ 117 h.blk

theorem Wr.fault (h : Wr w p v bs e) : Fault w (.pointer (some ⟨p, 0, none⟩)) e := Or.inr (Or.inr ⟨p, rfl, h.c0, h.c2⟩)

theorem Wr.lt (h : Wr w p v bs e) : p < w.heap.size := lt_of_obj h.blk

/-- The blocks of a Writer. -/
def wfoot (p : Nat) (v : Value) : Nat → Prop := fun k => k = p ∨ v.ownBlock = some k

theorem Wr.turn {S : Nat → Prop} {w' : World} (h : Wr w p v bs e) (ht : Turn S w w') (hn : ∀ k, wfoot p v k → ¬ S k) : Wr w' p v bs e :=
  ⟨ht.obj h.blk (hn p (Or.inl rfl)), h.own.turn ht (fun g hg => hn g (Or.inr hg)), h.ne⟩

theorem Wr.turn_no {w' : World} (h : Wr w p v bs e) (ht : Turn no w w') : Wr w' p v bs e := h.turn ht (fun _ _ q => q)

/-- The new row is stored. -/
theorem Wr.stored {w1 : World} {v' : Value} {news : List UInt8} (h : Wr w p v bs e) (hown : Own w1 5 v' ((bs ++ news).map bv)) (hg : Grew w w1 v v') : Wr (w1.setCell ⟨p, 1, none⟩ v') p v' (bs ++ news) e := by
  have hblk : w1.heap[p]? = some (.cells #[.pointer (some ⟨p, 0, none⟩), v, .int .i64 e] 117 (0, 0)) := hg.turn.obj h.blk (fun q => h.ne p q rfl)
  have hne : ∀ g, v'.ownBlock = some g → g ≠ p := by
    intro g q
    rcases hg.blk with r | ⟨g', r, h1, _⟩
    · exact h.ne g (by rw [← r]; exact q)
    · rw [r] at q; cases q; have := h.lt; omega
  refine ⟨?_, hown.turn (S := fun k => k = p) ((Turn.refl (fun k => k = p) w1).setCell (p := ⟨p, 1, none⟩) (fun _ => rfl) v') (fun g q => hne g q), hne⟩
  have := cells_set 1 v' hblk
  simpa using this
end

theorem Own.form {w : World} {e : TypeId} {v : Value} {xs : List Value} (h : Own w e v xs) : ∃ a n cap, v = .slice a n cap := by
  rcases h.shape with ⟨rfl, rfl⟩ | ⟨g, cap, _, rfl, _⟩
  · exact ⟨none, 0, 0, rfl⟩
  · exact ⟨some ⟨g, 0, none⟩, _, cap, rfl⟩

/-- Where a Writer's row goes. -/
def Near (w : World) (v v' : Value) : Prop := v'.ownBlock = v.ownBlock ∨ ∃ g, v'.ownBlock = some g ∧ w.heap.size ≤ g

theorem Near.grew {w wa w1 : World} {v0 v v' : Value} (h : Near w v0 v) (hg : Grew wa w1 v v') (hs : w.heap.size ≤ wa.heap.size) : Near w v0 v' := by
  rcases hg.blk with q | ⟨g, q, h1, _⟩
  · unfold Near; rw [q]; exact h
  · exact Or.inr ⟨g, q, by omega⟩

/-- One append and one store: the Writer behind it. -/
theorem Wr.append {w wr wa w1 : World} {p : Nat} {v0 v v' : Value} {bs news : List UInt8} {e : Int} (h : Wr wr p v bs e) (ha : Turn no wr wa) (hown : Own w1 5 v' ((bs ++ news).map bv)) (hg : Grew wa w1 v v') (hT : Turn (wfoot p v0) w wr) (hn : Near w v0 v) :
    Wr (w1.setCell ⟨p, 1, none⟩ v') p v' (bs ++ news) e ∧ Turn (wfoot p v0) w (w1.setCell ⟨p, 1, none⟩ v') ∧ Near w v0 v' := by
  have hwa := h.turn_no ha
  refine ⟨hwa.stored hown hg, ?_, hn.grew hg (Nat.le_trans hT.size ha.size)⟩
  refine ((hT.then_no ha).grown hg.grown (fun k q hk => ?_)).setCell (fun _ => Or.inl rfl) _
  rcases hn with r | ⟨g, r, h1⟩
  · rw [r] at q; exact Or.inr q
  · rw [r] at q; cases q; omega

theorem Wr.at1 {wa w1 : World} {p : Nat} {v v' : Value} {bs : List UInt8} {e : Int} (h : Wr wa p v bs e) (hg : Grew wa w1 v v') : w1.cell? ⟨p, 1, none⟩ = some v ∧ w1.frozen? ⟨p, 1, none⟩ = false := by
  have hblk := hg.turn.obj h.blk (fun q => h.ne p q rfl)
  exact ⟨by rw [cell_of_row w1 p 1 _ 117 (0, 0) hblk]; rfl, frozen_of_row w1 p 1 _ 117 hblk⟩

theorem eql22_nil (a : Option Addr) (n c : Nat) (w : World) : (binOp .eql 55 (.slice a n c) (.slice none 0 0)).run Tryd.prog w = .ok (.bool a.isNone) w := by
  have h : ∀ d : Nat, (Op.equalIn (d + 1) 55 (.slice a n c) (.slice none 0 0)).run Tryd.prog w = .ok a.isNone w := fun d => by
    cases a <;> simp [Op.equalIn, run_underlying Tryd.underlying55]
  simp only [binOp]
  simp [Op.equal, Op.maxDepth, h 9999]

attribute [local go_sem] eql22_nil

set_option maxRecDepth 100000 in
set_option maxHeartbeats 1000000 in
theorem clone_any (w : World) (v : Value) (bs : List UInt8) (hb : Bs w v bs) (hle : bs.length ≤ 140737488355328) :
    Calls Tryd.prog 69 #[v] w fun e w' => ∃ v', e = .returned v' ∧ Own w' 5 v' (bs.map bv) ∧ (∀ g, v'.ownBlock = some g → w.heap.size ≤ g) ∧ Turn no w w' := by
  have hm : maxLen = 9223372036854775807 := by unfold maxLen; omega
  rcases hb with ⟨rfl, rfl⟩ | ⟨a, c, rfl, hc⟩
  · go_enter Tryd.func69, Tryd.ntmps69
    go_wp2
    go_ret
    exact ⟨_, rfl, Own.nil _ _, fun g q => (by cases q), Turn.refl _ _⟩
  · have hb : Bs w (.slice (some a) bs.length c) bs := Or.inr ⟨a, c, rfl, hc⟩
    clear hc
    go_enter Tryd.func69, Tryd.ntmps69
    go_wp2_with (at_builtin; refine wpList_append_src rfl (.tmp 5) (.tmp 6) rfl Tryd.underlying55 Tryd.info5 rfl _ [] rfl (own_empty _ _) _ bs.length (bs.map bv) rfl ?src ?b ?m ?_)
    case src => exact Bs.src Tryd.underlying55 (hb.turn_no ((Turn.refl _ _).alloc _))
    case b => first | omega | (simp; omega)
    case m => simp [hm]; omega
    intro v1 w1 hown1 hgrew1 _
    have hown1 : Own w1 5 v1 (bs.map bv) := hown1
    have hf0 : ∀ g, (Value.slice (some ⟨w.heap.size, 0, none⟩) 0 0).ownBlock = some g → w.heap.size ≤ g := fun g q => by cases q; exact Nat.le_refl _
    have hT1 : Turn no w w1 := ((Turn.refl _ _).alloc _).fresh hgrew1 hf0
    have hf1 := hgrew1.fresh hf0 (by simp)
    obtain ⟨ad, ln, cp, rfl⟩ := hown1.form
    clear hgrew1 hf0
    go_wp2_with fail
    go_ret
    exact ⟨_, rfl, hown1, hf1, hT1⟩

set_option maxRecDepth 100000 in
set_option maxHeartbeats 1000000 in
theorem out_made (w : World) (p : Nat) (v : Value) (bs : List UInt8) (h : Wr w p v bs 0) (hle : bs.length ≤ 140737488355328) :
    Calls Tryd.prog 57 #[.pointer (some ⟨p, 0, none⟩)] w fun e w' => ∃ v', e = .returned (.tuple #[v', .int .i64 0]) ∧ Own w' 5 v' (bs.map bv) ∧ (∀ g, v'.ownBlock = some g → w.heap.size ≤ g) ∧ Turn no w w' := by
  have hfault := h.fault
  have c1 := h.c1
  have hb := h.own.bs
  obtain ⟨ad, ln, cp, hv⟩ := h.own.form
  subst hv
  go_enter Tryd.func57, Tryd.ntmps57
  go_wp2_with (first | (go_at_call 68; refine (fault_any _ _ _ hfault).mono ?_; rintro e w' ⟨rfl, rfl⟩) | (go_at_call 69; refine (clone_any _ _ bs hb hle).mono ?_; rintro e w' ⟨v', rfl, k1, k2, k3⟩; obtain ⟨ad', ln', cp', rfl⟩ := k1.form))
  go_ret2
  exact ⟨_, rfl, k1, k2, k3⟩

set_option maxRecDepth 100000 in
set_option maxHeartbeats 1000000 in
theorem newWriter_any (w : World) :
    Calls Tryd.prog 54 #[] w fun e w' => e = .returned (.pointer (some ⟨w.heap.size, 0, none⟩)) ∧ Wr w' w.heap.size (.slice none 0 0) [] 0 ∧ Turn no w w' := by
  go_enter Tryd.func54, Tryd.ntmps54
  go_wp2
  go_ret
  exact ⟨rfl, ⟨heap_alloc_new w _, Own.nil _ _, fun g q => by cases q⟩, (Turn.refl _ _).alloc _⟩

/-- append, as one step of a region that draws its order. -/
theorem step_append_src {P : Program} {ops : Array Oper} {o : Oper} {a : Act} {w : World} {K : Act → World → Prop} {Q : Exit → Act → World → Prop} {E : Prop} (hgd : o.guard = none) (s x : Operand) {t tx e : TypeId} {z : Value} {bytes : Nat}
    (ho : o.op = .call { callee := .builtin .append, args := #[s, x], argTypes := #[t, tx] })
    (ht : P.underlying t = some (.slice e)) (hinf : (P.info? e).map (fun i => (i.zero, i.size, i.bytes)) = some (some z, 1, bytes)) (hz : z.cells.size = 1)
    (v : Value) (xs : List Value) (hs : a.eval s = v) (hown : Own w e v xs) (xv : Value) (n : Nat) (news : List Value) (hx : a.eval x = xv) (hsrc : Src P 1 tx xv n news w)
    (hb : (xs.length + n) * bytes ≤ 140737488355328) (hm : xs.length + n ≤ maxLen)
    (hK : ∀ v' w', Own w' e v' (xs ++ news) → Grew w w' v v' → K (a.put o.dst v') w') :
    if Region.wanted o (yielded ops a.tmps) = true then Oper.wp P o a w K Q else E := by
  have hw : Region.wanted o (yielded ops a.tmps) = true := by simp [Region.wanted, hgd]
  rw [if_pos hw]
  obtain ⟨v', w', hr, h2, h3, h4⟩ := run_append_src (P := P) ht hinf hz o.type w v xs hown xv n news hsrc hb hm
  unfold Oper.wp
  simp [execOp, ho, resolve, invoke, builtin, hs, hx, hr, Result.andThen]
  exact hK v' w' h2 h3

/-- The lowest bytes of a number. -/
def leB (n k : Nat) : List UInt8 := (List.range k).map fun j => UInt8.ofNat (n / 256 ^ j)

theorem leB_succ (n k : Nat) : leB n (k + 1) = leB n k ++ [UInt8.ofNat (n / 256 ^ k)] := by
  unfold leB
  rw [List.range_succ, List.map_append]
  rfl

theorem leB_length (n k : Nat) : (leB n k).length = k := by simp [leB]

theorem wrap8 (k : Nat) (hk : k < 8) : IntKind.i64.wrap (8 * (k : Int)) = 8 * (k : Int) := by rw [IntKind.wrap_i64]; omega

theorem shr_byte (n k : Nat) : IntKind.u8.wrap ((n : Int) / 2 ^ (8 * (k : Int)).toNat) = ((UInt8.ofNat (n / 256 ^ k)).toNat : Int) := by
  have e1 : (8 * (k : Int)).toNat = 8 * k := by omega
  have e2 : (2 : Int) ^ (8 * k) = ((256 ^ k : Nat) : Int) := by
    rw [Int.pow_mul]
    simp
  rw [e1, e2, IntKind.wrap_u8]
  simp

set_option maxRecDepth 100000 in
set_option maxHeartbeats 2000000 in
theorem fixed_made (w : World) (p : Nat) (v : Value) (bs : List UInt8) (n wd : Nat) (hn : n < 18446744073709551616) (hwd : wd ≤ 8) (h : Wr w p v bs 0) (hle : bs.length + 10 ≤ 140737488355328) :
    Calls Tryd.prog 67 #[.pointer (some ⟨p, 0, none⟩), .int .u64 n, .int .i64 wd] w fun e w' => e = .returned (.tuple #[]) ∧ ∃ v', Wr w' p v' (bs ++ leB n wd) 0 ∧ Turn (wfoot p v) w w' ∧ Near w v v' := by
  have hfault := h.fault
  go_enter Tryd.func67, Tryd.ntmps67
  go_wp2_with (go_at_call 68; refine (fault_any _ _ _ hfault).mono ?_; rintro e w' ⟨rfl, rfl⟩)
  go_loopw [11] (fun c wr => ∃ (k : Nat) (v' : Value), k ≤ wd ∧ c = .int .i64 k ∧ Wr wr p v' (bs ++ leB n k) 0 ∧ Turn (wfoot p v) w wr ∧ Near w v v') (fun c _ => wd - (intOf c).toNat)
  case atStart => exact ⟨0, v, Nat.zero_le _, rfl, by simpa [leB] using h, Turn.refl _ _, Or.inl rfl⟩
  case round =>
    obtain ⟨k, v', hk, rfl, hwr, hT, hfr⟩ := hrel
    by_cases hlt : k < wd
    · have hlt' : (k : Int) < (wd : Int) := by omega
      have c1 := hwr.c1
      have hw1 := wrap8 k (by omega)
      have hl := leB_length n k
      have hpl := hwr.lt
      go_wp2_with fail
      go_region_law (refine step_append_src rfl (.tmp 18) (.tmp 24) rfl Tryd.underlying55 Tryd.info5 rfl v' ((bs ++ leB n k).map bv) (by simp [Act.eval]) (hwr.own.turn_no (((Turn.refl no wr).drew).alloc _)) _ 1 (List.map bv [UInt8.ofNat (n / 256 ^ k)]) (by simp [Act.eval]) (src_byte Tryd.underlying55 wr.drew _ _ (shr_byte n k)) (by simp; omega) (by simp [maxLen]; omega) ?_; intro v1 w1 hown1 hgrew1; have hown2 : Own w1 5 v1 (((bs ++ leB n k) ++ [UInt8.ofNat (n / 256 ^ k)]).map bv) := by simpa using hown1
                     have hA := hwr.append (((Turn.refl no wr).drew).alloc _) hown2 hgrew1 hT hfr
                     obtain ⟨a1, f1⟩ := Wr.at1 (hwr.turn_no (((Turn.refl no wr).drew).alloc _)) hgrew1
                     obtain ⟨ad, ln, cp, rfl⟩ := hown2.form
                     clear hgrew1 hown1)
      all_goals
        go_wp2_with fail
        go_roundw
        case rel => exact ⟨k + 1, _, by omega, by go_num, by rw [leB_succ, ← List.append_assoc]; exact hA.1, hA.2.1, hA.2.2⟩
        case measure => simp [intOf]; omega
    · have hlt' : ¬ (k : Int) < (wd : Int) := by omega
      have : k = wd := by omega
      subst this
      go_wp2_with fail
      go_end0
      exact ⟨rfl, _, hwr, hT, hfr⟩

/-- What laying bytes down does. -/
def Laid (w : World) (p : Nat) (v : Value) (bs : List UInt8) (e : Int) (w' : World) : Prop := ∃ v', Wr w' p v' bs e ∧ Turn (wfoot p v) w w' ∧ Near w v v'

theorem Laid.refl {w : World} {p : Nat} {v : Value} {bs : List UInt8} {e : Int} (h : Wr w p v bs e) : Laid w p v bs e w := ⟨v, h, Turn.refl _ _, Or.inl rfl⟩

theorem near_turn {w w1 w2 : World} {p : Nat} {v v1 : Value} (h1 : Turn (wfoot p v) w w1) (n1 : Near w v v1) (h2 : Turn (wfoot p v1) w1 w2) : Turn (wfoot p v) w w2 :=
  h1.trans h2 (fun i hi q => by
    rcases q with q | q
    · exact Or.inl q
    · rcases n1 with r | ⟨g, r, hg⟩
      · rw [r] at q; exact Or.inr q
      · rw [r] at q; cases q; omega)

theorem near_near {w w1 : World} {v v1 v2 : Value} (hs : w.heap.size ≤ w1.heap.size) (n1 : Near w v v1) (n2 : Near w1 v1 v2) : Near w v v2 := by
  rcases n2 with r | ⟨g, r, hg⟩
  · unfold Near; rw [r]; exact n1
  · exact Or.inr ⟨g, r, by omega⟩

set_option maxRecDepth 100000 in
set_option maxHeartbeats 1000000 in
theorem layAll96 (w : World) (p : Nat) (v : Value) (bs : List UInt8) (h : Wr w p v bs 0) (x : Value) (B : List UInt8) (hx : Bs w x B) (hle : bs.length + B.length ≤ 140737488355328) :
    Calls Tryd.prog 70 #[.pointer (some ⟨p, 0, none⟩), x] w fun e w' => e = .returned (.tuple #[]) ∧ Laid w p v (bs ++ B) 0 w' := by
  have hfault := h.fault
  have c1 := h.c1
  go_enter Tryd.func70, Tryd.ntmps70
  go_wp2_with (first | (go_at_call 68; refine (fault_any _ _ _ hfault).mono ?_; rintro e w' ⟨rfl, rfl⟩) | (at_builtin; refine wpList_append_src rfl (.tmp 11) (.tmp 12) rfl Tryd.underlying55 Tryd.info5 rfl _ (bs.map bv) rfl h.own _ B.length (B.map bv) rfl ?src ?b ?m ?_))
  case src => exact Bs.src Tryd.underlying55 hx
  case b => first | omega | (simp; omega)
  case m => first | (unfold maxLen; omega) | (simp [maxLen]; omega)
  intro v1 w1 hown1 hgrew1 _
  have hown1 : Own w1 5 v1 ((bs ++ B).map bv) := by simpa using hown1
  have hA := h.append (Turn.refl no w) hown1 hgrew1 (Turn.refl _ _) (Or.inl rfl)
  obtain ⟨a1, f1⟩ := Wr.at1 h hgrew1
  obtain ⟨ad, ln, cp, rfl⟩ := hown1.form
  clear hgrew1 hown1
  go_wp2_with fail
  go_end0
  exact ⟨rfl, _, hA⟩

set_option maxRecDepth 100000 in
set_option maxHeartbeats 1000000 in
theorem wbyte_made (w : World) (p : Nat) (v : Value) (bs : List UInt8) (h : Wr w p v bs 0) (n : Nat) (hn : n < 256) (hle : bs.length + 10 ≤ 140737488355328) :
    Calls Tryd.prog 55 #[.pointer (some ⟨p, 0, none⟩), .int .u8 n] w fun e w' => e = .returned (.tuple #[]) ∧ Laid w p v (bs ++ leB n 1) 0 w' := by
  go_enter Tryd.func55, Tryd.ntmps55
  go_wp2_with (go_at_call 67; refine (fixed_made _ _ _ bs n 1 (by omega) (by omega) h hle).mono ?_; rintro e w' ⟨rfl, k1⟩)
  go_end0
  exact ⟨rfl, k1⟩

set_option maxRecDepth 100000 in
set_option maxHeartbeats 1000000 in
theorem wu32_made (w : World) (p : Nat) (v : Value) (bs : List UInt8) (h : Wr w p v bs 0) (n : Nat) (hn : n < 4294967296) (hle : bs.length + 10 ≤ 140737488355328) :
    Calls Tryd.prog 56 #[.pointer (some ⟨p, 0, none⟩), .int .u32 n] w fun e w' => e = .returned (.tuple #[]) ∧ Laid w p v (bs ++ leB n 4) 0 w' := by
  go_enter Tryd.func56, Tryd.ntmps56
  go_wp2_with (go_at_call 67; refine (fixed_made _ _ _ bs n 4 (by omega) (by omega) h hle).mono ?_; rintro e w' ⟨rfl, k1⟩)
  go_end0
  exact ⟨rfl, k1⟩

set_option maxRecDepth 100000 in
set_option maxHeartbeats 1000000 in
theorem wraw_made (w : World) (p : Nat) (v : Value) (bs : List UInt8) (h : Wr w p v bs 0) (x : Value) (B : List UInt8) (hx : Bs w x B) (hle : bs.length + B.length + 10 ≤ 140737488355328) :
    Calls Tryd.prog 58 #[.pointer (some ⟨p, 0, none⟩), x] w fun e w' => e = .returned (.tuple #[]) ∧ Laid w p v (bs ++ B) 0 w' := by
  go_enter Tryd.func58, Tryd.ntmps58
  go_wp2_with (go_at_call 70; refine (layAll96 _ _ _ bs h x B hx (by omega)).mono ?_; rintro e w' ⟨rfl, k1⟩)
  go_end0
  exact ⟨rfl, k1⟩
end Go.Proofs.YtbkbecjgphjpkabDoor
