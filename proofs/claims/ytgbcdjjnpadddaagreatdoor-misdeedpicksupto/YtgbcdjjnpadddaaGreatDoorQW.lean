/- Texts in one. -/
import Derived.Test.YtgbcdjjnpadddaaGreatDoorRows
import Derived.Test.YtgbcdjjnpadddaaGreatDoorBase
import Derived.Lib.ConvBytes
import Derived.Deep.RegionLaw
/- Walks: pointers held against each other, fault, made, Err and the other small ones; same, lent, left. -/
namespace Go.Proofs.YtgbcdjjnpadddaaGreatDoor
open Go.RowKit

theorem Tryz.info5q : (Tryz.prog.info? 5).map (fun i => (i.zero, i.size, i.bytes)) = some (some (.int .u8 0), 1, 1) := by kernel_rfl
theorem some65 : (Tryz.prog.info? 258).isSome = true := by kernel_rfl
theorem neq50_same (a : Addr) (w : World) : (binOp .neq 227 (.pointer (some a)) (.pointer (some a))).run Tryz.prog w = .ok (.bool false) w := by
  obtain ⟨j, hj⟩ := Option.isSome_iff_exists.1 some65
  exact Lib.run_neq_ptr_same w a Tryz.underlying227 hj
theorem neq50_nil (a : Addr) (w : World) : (binOp .neq 227 (.pointer none) (.pointer (some a))).run Tryz.prog w = .ok (.bool true) w := by
  have h : ∀ d : Nat, (Op.equalIn (d + 1) 227 (.pointer none) (.pointer (some a))).run Tryz.prog w = .ok false w := fun d => by
    simp [Op.equalIn, run_underlying Tryz.underlying227]
  simp only [binOp]
  simp [Op.equal, Op.maxDepth, h 9999]
attribute [local go_sem] neq50_same neq50_nil

/-- What 'fault' answers of a Writer: no Writer, one that was not made, one with this error. -/
def Fault (w : World) (v : Value) (e : Int) : Prop :=
  (v = .pointer none ∧ e = 1) ∨ (∃ p, v = .pointer (some ⟨p, 0, none⟩) ∧ w.cell? ⟨p, 0, none⟩ = some (.pointer none) ∧ e = 1) ∨
  (∃ p, v = .pointer (some ⟨p, 0, none⟩) ∧ w.cell? ⟨p, 0, none⟩ = some (.pointer (some ⟨p, 0, none⟩)) ∧ w.cell? ⟨p, 2, none⟩ = some (.int .i64 e))

set_option maxRecDepth 100000 in
set_option maxHeartbeats 400000 in
theorem fault_any (w : World) (v : Value) (e0 : Int) (h : Fault w v e0) :
    Calls Tryz.prog 160 #[v] w fun e w' => e = .returned (.int .i64 e0) ∧ w = w' := by
  rcases h with ⟨rfl, rfl⟩ | ⟨p, rfl, h0, rfl⟩ | ⟨p, rfl, h0, h2⟩
  all_goals
    go_enter Tryz.func160, Tryz.ntmps160
    go_wp2
    go_ret
    exact ⟨rfl, rfl⟩

/-- What 'Err' answers of a Reader, likewise; and whether it was made. -/
def Errs (w : World) (v : Value) (e : Int) : Prop :=
  (v = .pointer none ∧ e = 1) ∨ (∃ p, v = .pointer (some ⟨p, 0, none⟩) ∧ w.cell? ⟨p, 0, none⟩ = some (.pointer none) ∧ e = 1) ∨
  (∃ p, v = .pointer (some ⟨p, 0, none⟩) ∧ w.cell? ⟨p, 0, none⟩ = some (.pointer (some ⟨p, 0, none⟩)) ∧ w.cell? ⟨p, 3, none⟩ = some (.int .i64 e))

theorem beq_take_succ {xs bs : List UInt8} {k : Nat} (hl : xs.length = bs.length) (hk : k < xs.length) (h : xs.take k = bs.take k) (he : xs.getD k 0 = bs.getD k 0) : xs.take (k + 1) = bs.take (k + 1) := by
  rw [List.take_succ_eq_append_getElem hk, List.take_succ_eq_append_getElem (by omega), h]
  have e1 : xs[k] = xs.getD k 0 := by simp [hk]
  have e2 : bs[k] = bs.getD k 0 := by simp [show k < bs.length by omega]
  rw [e1, e2, he]

theorem ne_of_getD {xs bs : List UInt8} {k : Nat} (he : xs.getD k 0 ≠ bs.getD k 0) : (xs == bs) = false := by
  apply beq_eq_false_iff_ne.2
  intro h
  exact he (by rw [h])

theorem u8_ne {a b : UInt8} (h : ((a.toNat : Int) != (b.toNat : Int)) = true) : a ≠ b := by
  intro q
  subst q
  simp at h

theorem u8_eq {a b : UInt8} (h : ((a.toNat : Int) != (b.toNat : Int)) = false) : a = b := by
  simp at h
  exact UInt8.toNat_inj.1 (by omega)

theorem own_empty (w : World) (e : TypeId) : Own (w.alloc (.cells #[] e)) e (.slice (some ⟨w.heap.size, 0, none⟩) 0 0) [] :=
  Own.of (xs := []) (heap_alloc_new w _) (Nat.le_refl _) (Nat.zero_le _) rfl rfl

/-- What 'lent' hands out: a row of its own with three marks behind. -/
def Lent (w : World) (v : Value) (bs : List UInt8) : Prop :=
  ∃ g cap cur, v = .slice (some ⟨g, 0, none⟩) bs.length cap ∧ w.heap[g]? = some (.cells cur 5 (0, 0)) ∧ bs.length + 3 ≤ cap ∧ cap ≤ maxLen ∧ cur.size = cap ∧ cur.toList.take (bs.length + 3) = (bs ++ [161, 162, 163]).map bv

theorem cells_set {w : World} {g : Nat} {cur : Array Value} {e : TypeId} (k : Nat) (u : Value) (hg : w.heap[g]? = some (.cells cur e (0, 0))) : (w.setCell ⟨g, k, none⟩ u).heap[g]? = some (.cells (cur.setIfInBounds k u) e (0, 0)) :=
  heap_setCell_same w g k cur e u hg

theorem Lent.bs {w : World} {v : Value} {bs : List UInt8} (h : Lent w v bs) : Bs w v bs := by
  obtain ⟨g, cap, cur, rfl, hg, h1, h2, h3, h4⟩ := h
  refine Or.inr ⟨⟨g, 0, none⟩, cap, rfl, by omega, h2, fun j u hu => ?_⟩
  rw [Addr.add_lit, cell_of_row w g (0 + j) cur 5 (0, 0) hg, Nat.zero_add]
  have hj : j < bs.length := (List.getElem?_eq_some_iff.1 hu).1
  have : (cur.toList.take (bs.length + 3))[j]? = some (bv u) := by
    rw [h4, List.getElem?_map, List.getElem?_append_left hj, hu]; rfl
  rw [List.getElem?_take, if_pos (by omega)] at this
  simpa using this

theorem Lent.mark {w : World} {g : Nat} {cur : Array Value} {bs : List UInt8} (hg : w.heap[g]? = some (.cells cur 5 (0, 0))) (h4 : cur.toList.take (bs.length + 3) = (bs ++ [161, 162, 163]).map bv) (j : Nat) (hj : j < 3) : w.cell? ⟨g, bs.length + j, none⟩ = some (bv ([161, 162, 163].getD j 0)) := by
  rw [cell_of_row w g _ cur 5 (0, 0) hg]
  have : (cur.toList.take (bs.length + 3))[bs.length + j]? = some (bv ([161, 162, 163].getD j 0)) := by
    rw [h4, List.getElem?_map, List.getElem?_append_right (by omega)]
    have : bs.length + j - bs.length = j := by omega
    rw [this]
    match j, hj with
    | 0, _ => rfl
    | 1, _ => rfl
    | 2, _ => rfl
  rw [List.getElem?_take, if_pos (by omega)] at this
  simpa using this

/-- The first m cells of a row are bytes. -/
def AllU8 (cur : Array Value) (m : Nat) : Prop := ∀ j, j < m → ∃ b : Int, cur[j]? = some (.int .u8 b)

theorem AllU8.set {cur : Array Value} {m : Nat} (h : AllU8 cur m) (k : Nat) (b : Int) (hk : k < cur.size) : AllU8 (cur.setIfInBounds k (.int .u8 b)) m := by
  intro j hj
  by_cases q : k = j
  · subst q; exact ⟨b, by simp [hk]⟩
  · obtain ⟨b', hb'⟩ := h j hj
    exact ⟨b', by rw [Array.getElem?_setIfInBounds_ne q]; exact hb'⟩

theorem allU8_of {cur : Array Value} {bs : List UInt8} {m : Nat} (h4 : cur.toList.take m = bs.map bv) (hm : m ≤ cur.size) : AllU8 cur m := by
  intro j hj
  have hl : bs.length = m := by have := congrArg List.length h4; simp at this; omega
  have hb : bs[j]? = some bs[j] := List.getElem?_eq_getElem (by omega)
  have h : (cur.toList.take m)[j]? = some (bv bs[j]) := by rw [h4, List.getElem?_map, hb]; rfl
  rw [List.getElem?_take, if_pos hj] at h
  exact ⟨_, by simpa [bv] using h⟩

end Go.Proofs.YtgbcdjjnpadddaaGreatDoor




/- Walks: a Writer. -/
namespace Go.Proofs.YtgbcdjjnpadddaaGreatDoor
open Go.RowKit

/-- A Writer that NewWriter made. -/
structure Wr (w : World) (p : Nat) (v : Value) (bs : List UInt8) (e : Int) : Prop where
  blk : w.heap[p]? = some (.cells #[.pointer (some ⟨p, 0, none⟩), v, .int .i64 e] 258 (0, 0))
  own : Own w 5 v (bs.map bv)
  ne : ∀ g, v.ownBlock = some g → g ≠ p

section
variable {w : World} {p : Nat} {v : Value} {bs : List UInt8} {e : Int}
theorem Wr.c0 (h : Wr w p v bs e) : w.cell? ⟨p, 0, none⟩ = some (.pointer (some ⟨p, 0, none⟩)) := by rw [cell_of_row w p 0 _ 258 (0, 0) h.blk]; rfl
theorem Wr.c1 (h : Wr w p v bs e) : w.cell? ⟨p, 1, none⟩ = some v := by rw [cell_of_row w p 1 _ 258 (0, 0) h.blk]; rfl
theorem Wr.c2 (h : Wr w p v bs e) : w.cell? ⟨p, 2, none⟩ = some (.int .i64 e) := by rw [cell_of_row w p 2 _ 258 (0, 0) h.blk]; rfl
theorem Wr.f (h : Wr w p v bs e) (j : Nat) : w.frozen? ⟨p, j, none⟩ = false := frozen_of_row w p j _ 258 h.blk
theorem Wr.fault (h : Wr w p v bs e) : Fault w (.pointer (some ⟨p, 0, none⟩)) e := Or.inr (Or.inr ⟨p, rfl, h.c0, h.c2⟩)
theorem Wr.lt (h : Wr w p v bs e) : p < w.heap.size := lt_of_obj h.blk

/-- The blocks of a Writer. -/
def wfoot (p : Nat) (v : Value) : Nat → Prop := fun k => k = p ∨ v.ownBlock = some k

theorem Wr.turn {S : Nat → Prop} {w' : World} (h : Wr w p v bs e) (ht : Turn S w w') (hn : ∀ k, wfoot p v k → ¬ S k) : Wr w' p v bs e :=
  ⟨ht.obj h.blk (hn p (Or.inl rfl)), h.own.turn ht (fun g hg => hn g (Or.inr hg)), h.ne⟩

theorem Wr.turn_no {w' : World} (h : Wr w p v bs e) (ht : Turn no w w') : Wr w' p v bs e := h.turn ht (fun _ _ q => q)

/-- The new row is stored. -/
theorem Wr.stored {w1 : World} {v' : Value} {news : List UInt8} (h : Wr w p v bs e) (hown : Own w1 5 v' ((bs ++ news).map bv)) (hg : Grew w w1 v v') : Wr (w1.setCell ⟨p, 1, none⟩ v') p v' (bs ++ news) e := by
  have hblk : w1.heap[p]? = some (.cells #[.pointer (some ⟨p, 0, none⟩), v, .int .i64 e] 258 (0, 0)) := hg.turn.obj h.blk (fun q => h.ne p q rfl)
  have hne : ∀ g, v'.ownBlock = some g → g ≠ p := by
    intro g q
    rcases hg.blk with r | ⟨g', r, h1, _⟩
    · exact h.ne g (by rw [← r]; exact q)
    · rw [r] at q; cases q; have := h.lt; omega
  refine ⟨?_, hown.turn (S := fun k => k = p) ((Turn.refl (fun k => k = p) w1).setCell (p := ⟨p, 1, none⟩) (fun _ => rfl) v') (fun g q => hne g q), hne⟩
  have := cells_set 1 v' hblk
  simpa using this
end

def varF : Nat → Nat → List UInt8
  | 0, _ => []
  | f + 1, n => if n < 128 then [UInt8.ofNat n] else UInt8.ofNat (n % 128 + 128) :: varF f (n / 128)
/-- A number in groups of seven bits. -/
def varE (n : Nat) : List UInt8 := varF 10 n

theorem var_step {f m : Nat} {pre E : List UInt8} (h : pre ++ varF (f + 1) m = E) (hlt : 127 < m) (hf : m < 128 ^ (f + 1)) :
    ∃ f', f = f' + 1 ∧ m / 128 < 128 ^ (f' + 1) ∧ (pre ++ [UInt8.ofNat (m % 128 + 128)]) ++ varF (f' + 1) (m / 128) = E := by
  cases f with
  | zero => simp at hf; omega
  | succ f' =>
    refine ⟨f', rfl, ?_, ?_⟩
    · rw [Nat.pow_succ] at hf
      exact Nat.div_lt_of_lt_mul (by omega)
    · have e : varF (f' + 1 + 1) m = UInt8.ofNat (m % 128 + 128) :: varF (f' + 1) (m / 128) := by
        rw [varF]
        exact if_neg (by omega)
      rw [← h, e, List.append_assoc]
      rfl

theorem var_last {f m : Nat} {pre E : List UInt8} (h : pre ++ varF (f + 1) m = E) (hlt : ¬ 127 < m) : pre ++ [UInt8.ofNat m] = E := by
  rw [← h, varF, if_pos (by omega)]

theorem Own.form {w : World} {e : TypeId} {v : Value} {xs : List Value} (h : Own w e v xs) : ∃ a n cap, v = .slice a n cap := by
  rcases h.shape with ⟨rfl, rfl⟩ | ⟨g, cap, _, rfl, _⟩
  · exact ⟨none, 0, 0, rfl⟩
  · exact ⟨some ⟨g, 0, none⟩, _, cap, rfl⟩

/-- Where a Writer's row goes. -/
def Near (w : World) (v v' : Value) : Prop := v'.ownBlock = v.ownBlock ∨ ∃ g, v'.ownBlock = some g ∧ w.heap.size ≤ g

theorem Near.grew {w wa w1 : World} {v0 v v' : Value} (h : Near w v0 v) (hg : Grew wa w1 v v') (hs : w.heap.size ≤ wa.heap.size) : Near w v0 v' := by
  rcases hg.blk with q | ⟨g, q, h1, _⟩
  · unfold Near; rw [q]; exact h
  · exact Or.inr ⟨g, q, by omega⟩

/-- One append and one store: the Writer behind it. -/
theorem Wr.append {w wr wa w1 : World} {p : Nat} {v0 v v' : Value} {bs news : List UInt8} {e : Int} (h : Wr wr p v bs e) (ha : Turn no wr wa) (hown : Own w1 5 v' ((bs ++ news).map bv)) (hg : Grew wa w1 v v') (hT : Turn (wfoot p v0) w wr) (hn : Near w v0 v) :
    Wr (w1.setCell ⟨p, 1, none⟩ v') p v' (bs ++ news) e ∧ Turn (wfoot p v0) w (w1.setCell ⟨p, 1, none⟩ v') ∧ Near w v0 v' := by
  have hwa := h.turn_no ha
  refine ⟨hwa.stored hown hg, ?_, hn.grew hg (Nat.le_trans hT.size ha.size)⟩
  refine ((hT.then_no ha).grown hg.grown (fun k q hk => ?_)).setCell (fun _ => Or.inl rfl) _
  rcases hn with r | ⟨g, r, h1⟩
  · rw [r] at q; exact Or.inr q
  · rw [r] at q; cases q; omega

theorem Wr.at1 {wa w1 : World} {p : Nat} {v v' : Value} {bs : List UInt8} {e : Int} (h : Wr wa p v bs e) (hg : Grew wa w1 v v') : w1.cell? ⟨p, 1, none⟩ = some v ∧ w1.frozen? ⟨p, 1, none⟩ = false := by
  have hblk := hg.turn.obj h.blk (fun q => h.ne p q rfl)
  exact ⟨by rw [cell_of_row w1 p 1 _ 258 (0, 0) hblk]; rfl, frozen_of_row w1 p 1 _ 258 hblk⟩

set_option maxRecDepth 100000 in
set_option maxHeartbeats 1000000 in
theorem var_made (w : World) (p : Nat) (v : Value) (bs : List UInt8) (n : Nat) (hn : n < 18446744073709551616) (h : Wr w p v bs 0) (hle : bs.length + 10 ≤ 140737488355328) :
    Calls Tryz.prog 135 #[.pointer (some ⟨p, 0, none⟩), .int .u64 n] w fun e w' => e = .returned (.tuple #[]) ∧ ∃ v', Wr w' p v' (bs ++ varE n) 0 ∧ Turn (wfoot p v) w w' ∧ Near w v v' := by
  have hfault := h.fault
  go_enter Tryz.func135, Tryz.ntmps135
  go_wp2_with (go_at_call 160; refine (fault_any _ _ _ hfault).mono ?_; rintro e w' ⟨rfl, rfl⟩)
  go_loopw [1] (fun i wr => ∃ (f m : Nat) (pre : List UInt8) (v' : Value), m < 128 ^ (f + 1) ∧ pre.length + f = 9 ∧ i = .int .u64 m ∧ m < 18446744073709551616 ∧ pre ++ varF (f + 1) m = varE n ∧ Wr wr p v' (bs ++ pre) 0 ∧ Turn (wfoot p v) w wr ∧ Near w v v') (fun i _ => (intOf i).toNat)
  case atStart => exact ⟨9, n, [], v, by omega, rfl, rfl, hn, rfl, by simpa using h, Turn.refl _ _, Or.inl rfl⟩
  case round =>
    obtain ⟨f, m, pre, v', hf, hpl, rfl, hm, hpre, hwr, hT, hfr⟩ := hrel
    have c1 := hwr.c1
    have HP : Hid (pre ++ varF (f + 1) m = varE n) := hpre
    have HF : Hid (m < 128 ^ (f + 1)) := hf
    have hpl' : pre.length ≤ 9 := by omega
    have HL : Hid (pre.length + f = 9) := hpl
    clear hpre hf hpl
    by_cases hlt : 127 < m
    · have hlt' : (127 : Int) < (m : Int) := by omega
      go_wp2_with (at_builtin; refine wpList_append_src rfl (.tmp 13) (.tmp 18) rfl Tryz.underlying124 Tryz.info5q rfl _ ((bs ++ pre).map bv) rfl (hwr.own.turn_no ((Turn.refl _ _).alloc _)) _ 1 (List.map bv [UInt8.ofNat (m % 128 + 128)]) rfl ?src ?b ?m ?_)
      case src => exact src_byte Tryz.underlying124 wr _ _ (u64_low7 m hm)
      case b => first | omega | (simp; omega)
      case m => first | (unfold maxLen; omega) | (simp [maxLen]; omega)
      intro v1 w1 hown1 hgrew1 _
      have hown1 : Own w1 5 v1 (((bs ++ pre) ++ [UInt8.ofNat (m % 128 + 128)]).map bv) := by simpa using hown1
      have hA := hwr.append ((Turn.refl _ _).alloc _) hown1 hgrew1 hT hfr
      obtain ⟨a1, f1⟩ := Wr.at1 (hwr.turn_no ((Turn.refl _ _).alloc _)) hgrew1
      obtain ⟨ad, ln, cp, rfl⟩ := hown1.form
      clear hgrew1 hown1
      go_wp2_with fail
      go_roundw
      case rel =>
        obtain ⟨f', rfl, k1, k2⟩ := var_step HP.out hlt HF.out
        have hl := HL.out
        exact ⟨f', m / 128, pre ++ [UInt8.ofNat (m % 128 + 128)], _, k1, by simp; omega, by simp, by omega, k2, by rw [← List.append_assoc]; exact hA.1, hA.2.1, hA.2.2⟩
      case measure => simp [intOf]; omega
    · have hlt' : ¬ (127 : Int) < (m : Int) := by omega
      go_wp2_with (at_builtin; refine wpList_append_src rfl (.tmp 28) (.tmp 31) rfl Tryz.underlying124 Tryz.info5q rfl _ ((bs ++ pre).map bv) rfl (hwr.own.turn_no ((Turn.refl _ _).alloc _)) _ 1 (List.map bv [UInt8.ofNat m]) rfl ?src ?b ?m ?_)
      case src => exact src_byte Tryz.underlying124 wr _ _ (u64_byte m (by omega))
      case b => first | omega | (simp; omega)
      case m => first | (unfold maxLen; omega) | (simp [maxLen]; omega)
      intro v1 w1 hown1 hgrew1 _
      have hown1 : Own w1 5 v1 (((bs ++ pre) ++ [UInt8.ofNat m]).map bv) := by simpa using hown1
      have hA := hwr.append ((Turn.refl _ _).alloc _) hown1 hgrew1 hT hfr
      obtain ⟨a1, f1⟩ := Wr.at1 (hwr.turn_no ((Turn.refl _ _).alloc _)) hgrew1
      obtain ⟨ad, ln, cp, rfl⟩ := hown1.form
      clear hgrew1 hown1
      go_wp2_with fail
      go_end0
      rw [List.append_assoc, var_last HP.out hlt] at hA
      exact ⟨rfl, _, hA⟩

theorem eql25_nil (a : Option Addr) (n c : Nat) (w : World) : (binOp .eql 124 (.slice a n c) (.slice none 0 0)).run Tryz.prog w = .ok (.bool a.isNone) w := by
  have h : ∀ d : Nat, (Op.equalIn (d + 1) 124 (.slice a n c) (.slice none 0 0)).run Tryz.prog w = .ok a.isNone w := fun d => by
    cases a <;> simp [Op.equalIn, run_underlying Tryz.underlying124]
  simp only [binOp]
  simp [Op.equal, Op.maxDepth, h 9999]

attribute [local go_sem] eql25_nil

set_option maxRecDepth 100000 in
set_option maxHeartbeats 1000000 in
theorem clone_any (w : World) (v : Value) (bs : List UInt8) (hb : Bs w v bs) (hle : bs.length ≤ 140737488355328) :
    Calls Tryz.prog 165 #[v] w fun e w' => ∃ v', e = .returned v' ∧ Own w' 5 v' (bs.map bv) ∧ (∀ g, v'.ownBlock = some g → w.heap.size ≤ g) ∧ Turn no w w' := by
  have hm : maxLen = 9223372036854775807 := by unfold maxLen; omega
  rcases hb with ⟨rfl, rfl⟩ | ⟨a, c, rfl, hc⟩
  · go_enter Tryz.func165, Tryz.ntmps165
    go_wp2
    go_ret
    exact ⟨_, rfl, Own.nil _ _, fun g q => (by cases q), Turn.refl _ _⟩
  · have hb : Bs w (.slice (some a) bs.length c) bs := Or.inr ⟨a, c, rfl, hc⟩
    clear hc
    go_enter Tryz.func165, Tryz.ntmps165
    go_wp2_with (at_builtin; refine wpList_append_src rfl (.tmp 5) (.tmp 6) rfl Tryz.underlying124 Tryz.info5q rfl _ [] rfl (own_empty _ _) _ bs.length (bs.map bv) rfl ?src ?b ?m ?_)
    case src => exact Bs.src Tryz.underlying124 (hb.turn_no ((Turn.refl _ _).alloc _))
    case b => first | omega | (simp; omega)
    case m => simp [hm]; omega
    intro v1 w1 hown1 hgrew1 _
    have hown1 : Own w1 5 v1 (bs.map bv) := hown1
    have hf0 : ∀ g, (Value.slice (some ⟨w.heap.size, 0, none⟩) 0 0).ownBlock = some g → w.heap.size ≤ g := fun g q => by cases q; exact Nat.le_refl _
    have hT1 : Turn no w w1 := ((Turn.refl _ _).alloc _).fresh hgrew1 hf0
    have hf1 := hgrew1.fresh hf0 (by simp)
    obtain ⟨ad, ln, cp, rfl⟩ := hown1.form
    clear hgrew1 hf0
    go_wp2_with fail
    go_ret
    exact ⟨_, rfl, hown1, hf1, hT1⟩

set_option maxRecDepth 100000 in
set_option maxHeartbeats 1000000 in
theorem out_made (w : World) (p : Nat) (v : Value) (bs : List UInt8) (h : Wr w p v bs 0) (hle : bs.length ≤ 140737488355328) :
    Calls Tryz.prog 157 #[.pointer (some ⟨p, 0, none⟩)] w fun e w' => ∃ v', e = .returned (.tuple #[v', .int .i64 0]) ∧ Own w' 5 v' (bs.map bv) ∧ (∀ g, v'.ownBlock = some g → w.heap.size ≤ g) ∧ Turn no w w' := by
  have hfault := h.fault
  have c1 := h.c1
  have hb := h.own.bs
  obtain ⟨ad, ln, cp, hv⟩ := h.own.form
  subst hv
  go_enter Tryz.func157, Tryz.ntmps157
  go_wp2_with (first | (go_at_call 160; refine (fault_any _ _ _ hfault).mono ?_; rintro e w' ⟨rfl, rfl⟩) | (go_at_call 165; refine (clone_any _ _ bs hb hle).mono ?_; rintro e w' ⟨v', rfl, k1, k2, k3⟩; obtain ⟨ad', ln', cp', rfl⟩ := k1.form))
  go_ret2
  exact ⟨_, rfl, k1, k2, k3⟩

set_option maxRecDepth 100000 in
set_option maxHeartbeats 1000000 in
theorem out_fault (w : World) (v : Value) (e0 : Int) (h : Fault w v e0) (h0 : (e0 != 0) = true) :
    Calls Tryz.prog 157 #[v] w fun e w' => e = .returned (.tuple #[.slice none 0 0, .int .i64 e0]) ∧ w = w' := by
  go_enter Tryz.func157, Tryz.ntmps157
  go_wp2_with (first | (go_at_call 160; refine (fault_any _ _ _ h).mono ?_; rintro e w' ⟨rfl, rfl⟩))
  go_ret2
  exact ⟨rfl, rfl⟩

set_option maxRecDepth 100000 in
set_option maxHeartbeats 1000000 in
theorem newWriter_any (w : World) :
    Calls Tryz.prog 156 #[] w fun e w' => e = .returned (.pointer (some ⟨w.heap.size, 0, none⟩)) ∧ Wr w' w.heap.size (.slice none 0 0) [] 0 ∧ Turn no w w' := by
  go_enter Tryz.func156, Tryz.ntmps156
  go_wp2
  go_ret
  exact ⟨rfl, ⟨heap_alloc_new w _, Own.nil _ _, fun g q => by cases q⟩, (Turn.refl _ _).alloc _⟩

end Go.Proofs.YtgbcdjjnpadddaaGreatDoor




/- Walks: a Reader, its Var. -/
namespace Go.Proofs.YtgbcdjjnpadddaaGreatDoor
open Go.RowKit

/-- A Reader that NewReader made: its bytes, its place, its error. -/
structure Rd (w : World) (p : Nat) (v : Value) (bs : List UInt8) (i : Nat) (e : Int) : Prop where
  blk : w.heap[p]? = some (.cells #[.pointer (some ⟨p, 0, none⟩), v, .int .i64 i, .int .i64 e] 198 (0, 0))
  own : Own w 5 v (bs.map bv)
  ne : ∀ g, v.ownBlock = some g → g ≠ p
  le : i ≤ bs.length

section
variable {w : World} {p : Nat} {v : Value} {bs : List UInt8} {i : Nat} {e : Int}
theorem Rd.c0 (h : Rd w p v bs i e) : w.cell? ⟨p, 0, none⟩ = some (.pointer (some ⟨p, 0, none⟩)) := by rw [cell_of_row w p 0 _ 198 (0, 0) h.blk]; rfl
theorem Rd.c1 (h : Rd w p v bs i e) : w.cell? ⟨p, 1, none⟩ = some v := by rw [cell_of_row w p 1 _ 198 (0, 0) h.blk]; rfl
theorem Rd.c2 (h : Rd w p v bs i e) : w.cell? ⟨p, 2, none⟩ = some (.int .i64 i) := by rw [cell_of_row w p 2 _ 198 (0, 0) h.blk]; rfl
theorem Rd.c3 (h : Rd w p v bs i e) : w.cell? ⟨p, 3, none⟩ = some (.int .i64 e) := by rw [cell_of_row w p 3 _ 198 (0, 0) h.blk]; rfl
theorem Rd.f (h : Rd w p v bs i e) (j : Nat) : w.frozen? ⟨p, j, none⟩ = false := frozen_of_row w p j _ 198 h.blk
theorem Rd.errs (h : Rd w p v bs i e) : Errs w (.pointer (some ⟨p, 0, none⟩)) e := Or.inr (Or.inr ⟨p, rfl, h.c0, h.c3⟩)
theorem Rd.lt (h : Rd w p v bs i e) : p < w.heap.size := lt_of_obj h.blk

theorem Rd.turn {S : Nat → Prop} {w' : World} (h : Rd w p v bs i e) (ht : Turn S w w') (hn : ∀ k, wfoot p v k → ¬ S k) : Rd w' p v bs i e :=
  ⟨ht.obj h.blk (hn p (Or.inl rfl)), h.own.turn ht (fun g hg => hn g (Or.inr hg)), h.ne, h.le⟩
theorem Rd.turn_no {w' : World} (h : Rd w p v bs i e) (ht : Turn no w w') : Rd w' p v bs i e := h.turn ht (fun _ _ q => q)

theorem Rd.setAt (h : Rd w p v bs i e) (j : Nat) (hj : j ≤ bs.length) : Rd (w.setCell ⟨p, 2, none⟩ (.int .i64 j)) p v bs j e := by
  refine ⟨?_, h.own.turn (S := fun k => k = p) ((Turn.refl (fun k => k = p) w).setCell (p := ⟨p, 2, none⟩) (fun _ => rfl) _) (fun g q => h.ne g q), h.ne, hj⟩
  have := cells_set 2 (.int .i64 j) h.blk
  simpa using this

theorem Rd.setErr (h : Rd w p v bs i e) (e' : Int) : Rd (w.setCell ⟨p, 3, none⟩ (.int .i64 e')) p v bs i e' := by
  refine ⟨?_, h.own.turn (S := fun k => k = p) ((Turn.refl (fun k => k = p) w).setCell (p := ⟨p, 3, none⟩) (fun _ => rfl) _) (fun g q => h.ne g q), h.ne, h.le⟩
  have := cells_set 3 (.int .i64 e') h.blk
  simpa using this
end

/-- How many bytes a Var has, from number k on; and the error. -/
def vsize : Nat → List UInt8 → Nat × Int
  | _, [] => (0, 10)
  | k, c :: r => if k = 9 ∧ 1 < c.toNat then (0, 11) else if 0 < k ∧ c.toNat = 0 then (0, 11) else if c.toNat < 128 then (k + 1, 0) else vsize (k + 1) r

theorem vsize_at {bs : List UInt8} {k : Nat} (hk : k < bs.length) {r : Nat × Int} (h : vsize k (bs.drop k) = r) :
    r = if k = 9 ∧ 1 < bs[k].toNat then (0, 11) else if 0 < k ∧ bs[k].toNat = 0 then (0, 11) else if bs[k].toNat < 128 then (k + 1, 0) else vsize (k + 1) (bs.drop (k + 1)) := by
  rw [← h, List.drop_eq_getElem_cons hk]
  rfl

theorem vsize_end {bs : List UInt8} {k : Nat} (hk : ¬ k < bs.length) {r : Nat × Int} (h : vsize k (bs.drop k) = r) : r = (0, 10) := by
  rw [← h, List.drop_eq_nil_of_le (by omega)]
  rfl

theorem nz_of {c : Nat} (h : ((c : Int) == 0) = false) : c ≠ 0 := by intro q; subst q; simp at h
theorem z_of {c : Nat} (h : ((c : Int) == 0) = true) : c = 0 := by simpa using h

theorem add_add (a : Addr) (l j : Nat) (h : 0 < l ∨ a.spot = none) : (a.add l).add j = a.add (l + j) := by
  obtain ⟨b, o, s⟩ := a
  unfold Addr.add
  by_cases hl : l = 0
  · subst hl; simp
  · by_cases hj : j = 0
    · subst hj; simp [hl]
    · simp [hl, hj, Nat.add_assoc]

theorem add_block (a : Addr) (l : Nat) : (a.add l).block = a.block := by unfold Addr.add; split <;> rfl

/-- A piece of a slice of bytes: the value, and what it holds. -/
theorem piece {w : World} {a : Addr} {c : Nat} {bs : List UInt8} (h1 : bs.length ≤ c) (h2 : c ≤ maxLen) (h3 : ∀ j u, bs[j]? = some u → w.cell? (a.add j) = some (bv u)) (l h : Nat) (hl : l ≤ h) (hh : h ≤ bs.length) :
    Bs w (.slice (if c = l then some a else some (a.add l)) (h - l) (c - l)) ((bs.take h).drop l) := by
  have hlen : ((bs.take h).drop l).length = h - l := by simp; omega
  by_cases hc : c = l
  · rw [if_pos hc]
    refine Or.inr ⟨a, c - l, by rw [hlen], by omega, by omega, fun j u hu => ?_⟩
    have : j < ((bs.take h).drop l).length := (List.getElem?_eq_some_iff.1 hu).1
    omega
  · rw [if_neg hc]
    refine Or.inr ⟨a.add l, c - l, by rw [hlen], by omega, by omega, fun j u hu => ?_⟩
    have hj : j < ((bs.take h).drop l).length := (List.getElem?_eq_some_iff.1 hu).1
    rw [List.getElem?_drop, List.getElem?_take, if_pos (by omega)] at hu
    have := h3 (l + j) u hu
    by_cases hl0 : l = 0
    · subst hl0
      simpa [Addr.add] using this
    · rw [add_add a l j (Or.inl (by omega))]
      exact this

theorem slice_from {w : World} {v : Value} {bs : List UInt8} (hb : Bs w v bs) (l : Nat) (hl : l ≤ bs.length) :
    ∃ v2, (∀ w', (Instr.slice 124 v (some (.int .i64 l)) none none).run Tryz.prog w' = .ok v2 w') ∧ Bs w v2 (bs.drop l) ∧ (∀ g, v2.ownBlock = some g → v.ownBlock = some g) := by
  rcases hb with ⟨rfl, rfl⟩ | ⟨a, c, rfl, h1, h2, h3⟩
  · simp at hl
    subst hl
    refine ⟨.slice none 0 0, fun w' => ?_, Or.inl ⟨rfl, rfl⟩, fun g q => q⟩
    simp [go_sem, Tryz.underlying124]
  · refine ⟨.slice (if c = l then some a else some (a.add l)) (bs.length - l) (c - l), fun w' => ?_, ?_, fun g q => ?_⟩
    · simp [go_sem, Tryz.underlying124, hl]
    · have := piece h1 h2 h3 l bs.length hl (Nat.le_refl _)
      rwa [List.take_length] at this
    · split at q
      · exact q
      · simp only [Value.ownBlock, add_block] at q
        exact q

theorem slice_between {w : World} {v : Value} {bs : List UInt8} (hb : Bs w v bs) (l h : Nat) (hl : l ≤ h) (hh : h ≤ bs.length) :
    ∃ v2, (∀ w', (Instr.slice 124 v (some (.int .i64 l)) (some (.int .i64 h)) none).run Tryz.prog w' = .ok v2 w') ∧ Bs w v2 ((bs.take h).drop l) ∧ (∀ g, v2.ownBlock = some g → v.ownBlock = some g) := by
  rcases hb with ⟨rfl, rfl⟩ | ⟨a, c, rfl, h1, h2, h3⟩
  · simp at hh
    subst hh
    simp at hl
    subst hl
    refine ⟨.slice none 0 0, fun w' => ?_, Or.inl ⟨rfl, rfl⟩, fun g q => q⟩
    simp [go_sem, Tryz.underlying124]
  · refine ⟨.slice (if c = l then some a else some (a.add l)) (h - l) (c - l), fun w' => ?_, piece h1 h2 h3 l h hl hh, fun g q => ?_⟩
    · have : (h : Int) ≤ (c : Int) := by omega
      simp [go_sem, Tryz.underlying124, hl, this]
    · split at q
      · exact q
      · simp only [Value.ownBlock, add_block] at q
        exact q

/-- The number in the first k bytes of a Var. -/
def vsum (l : List UInt8) : Nat → Nat
  | 0 => 0
  | k + 1 => vsum l k + (l.getD k 0).toNat % 128 * 128 ^ k

theorem Turn.set1 (w : World) (p j : Nat) (u : Value) : Turn (fun k => k = p) w (w.setCell ⟨p, j, none⟩ u) := (Turn.refl (fun k => k = p) w).setCell (p := ⟨p, j, none⟩) (fun _ => rfl) u

theorem or_step (V c k : Nat) (hV : V < 128 ^ k) (hVb : V < 18446744073709551616) (hc : c < 256) (hfit : V + c % 128 * 128 ^ k < 18446744073709551616) :
    bits .or .u64 (V : Int) (IntKind.u64.wrap (IntKind.u64.wrap (bits .and .u8 (c : Int) 127) * 2 ^ (7 * k))) = ((V + c % 128 * 128 ^ k : Nat) : Int) := by
  have h1 : bits .and .u8 (c : Int) 127 = (c : Int) % 128 := bits_mask .u8 8 (by decide) wraps_u8 7 (by decide) c (by omega) (by omega)
  have e2 : (2 : Int) ^ (7 * k) = ((128 ^ k : Nat) : Int) := by
    rw [Int.pow_mul]
    simp
  have e3 : (c : Int) % 128 = ((c % 128 : Nat) : Int) := by simp
  rw [h1, e3, IntKind.wrap_u64, IntKind.wrap_u64, e2]
  have e4 : ((c % 128 : Nat) : Int) % 18446744073709551616 = ((c % 128 : Nat) : Int) := by omega
  rw [e4, ← Int.natCast_mul]
  have e5 : ((c % 128 * 128 ^ k : Nat) : Int) % 18446744073709551616 = ((c % 128 * 128 ^ k : Nat) : Int) := by omega
  rw [e5, bits_or_u64_nat _ _ hVb (by omega)]
  have e6 : V ||| c % 128 * 128 ^ k = V + c % 128 * 128 ^ k := by
    have e7 : (128 : Nat) ^ k = 2 ^ (7 * k) := by rw [Nat.pow_mul]
    rw [e7] at hV ⊢
    rw [Nat.or_comm, Nat.mul_comm, ← Nat.two_pow_add_eq_or_of_lt hV, Nat.add_comm]
  rw [e6]

theorem getD_drop (bs : List UInt8) (i k : Nat) : (bs.drop i).getD k 0 = bs[i + k]?.getD 0 := by
  simp [List.getD_eq_getElem?_getD, List.getElem?_drop]

theorem vsum_succ (bs : List UInt8) (i k : Nat) : vsum (bs.drop i) (k + 1) = vsum (bs.drop i) k + (bs[i + k]?.getD 0).toNat % 128 * 128 ^ k := by
  rw [vsum, getD_drop]

end Go.Proofs.YtgbcdjjnpadddaaGreatDoor




/- Walks: a Reader's Var whole, At, Left, End; all reads of a Reader with an error. -/
namespace Go.Proofs.YtgbcdjjnpadddaaGreatDoor
open Go.RowKit

theorem vsize_good {s : Nat} : ∀ (r : List UInt8) (k : Nat), vsize k r = (s, 0) → k ≤ 9 → k < s ∧ s ≤ 10 ∧ s ≤ k + r.length ∧ (s = 10 → (r.getD (9 - k) 0).toNat ≤ 1)
  | [], _, h, _ => by cases h
  | c :: r, k, h, hk => by
    rw [vsize] at h
    by_cases h1 : k = 9 ∧ 1 < c.toNat
    · rw [if_pos h1] at h; cases h
    · rw [if_neg h1] at h
      by_cases h2 : 0 < k ∧ c.toNat = 0
      · rw [if_pos h2] at h; cases h
      · rw [if_neg h2] at h
        by_cases h3 : c.toNat < 128
        · rw [if_pos h3] at h
          simp only [Prod.mk.injEq, and_true] at h
          subst h
          refine ⟨by omega, by omega, by simp, fun q => ?_⟩
          have : k = 9 := by omega
          subst this
          simp at h1 ⊢
          omega
        · rw [if_neg h3] at h
          have hk' : k + 1 ≤ 9 := by omega
          obtain ⟨a, b, d, e⟩ := vsize_good r (k + 1) h hk'
          refine ⟨by omega, b, by simp; omega, fun q => ?_⟩
          have := e q
          have e9 : 9 - k = (9 - (k + 1)) + 1 := by omega
          rw [e9]
          simpa using this

theorem vsum_lt (l : List UInt8) : ∀ k, vsum l k < 128 ^ k
  | 0 => by simp [vsum]
  | k + 1 => by
    have h := vsum_lt l k
    rw [vsum, Nat.pow_succ]
    have h2 : (l.getD k 0).toNat % 128 * 128 ^ k ≤ 127 * 128 ^ k := Nat.mul_le_mul_right _ (by omega)
    omega

theorem vsum_fits {l : List UInt8} {s : Nat} (h : vsize 0 l = (s, 0)) : ∀ k, k ≤ s → vsum l k < 18446744073709551616 ∧ vsum l k < 128 ^ k := by
  intro k hk
  obtain ⟨_, b, _, e⟩ := vsize_good l 0 h (by omega)
  refine ⟨?_, vsum_lt l k⟩
  by_cases h9 : k ≤ 9
  · have h1 := vsum_lt l k
    have h2 : 128 ^ k ≤ 128 ^ 9 := Nat.pow_le_pow_right (by omega) h9
    omega
  · have : k = 10 := by omega
    subst this
    have hs : s = 10 := by omega
    have h1 := vsum_lt l 9
    have h2 := e hs
    simp only [Nat.sub_zero] at h2
    rw [vsum]
    have h3 : (l.getD 9 0).toNat % 128 * 128 ^ 9 ≤ 1 * 128 ^ 9 := Nat.mul_le_mul_right _ (by omega)
    omega

/-- What Var answers: the number, the place, the error. -/
def rvar (bs : List UInt8) (i : Nat) : Nat × Nat × Int :=
  if (vsize 0 (bs.drop i)).2 = 0 then (vsum (bs.drop i) (vsize 0 (bs.drop i)).1, i + (vsize 0 (bs.drop i)).1, 0) else (0, i, (vsize 0 (bs.drop i)).2)

theorem Errs.turn {S : Nat → Prop} {w w' : World} {v : Value} {e : Int} (h : Errs w v e) (ht : Turn S w w') (hn : ∀ p, v = .pointer (some ⟨p, 0, none⟩) → ¬ S p) : Errs w' v e := by
  rcases h with q | ⟨p, rfl, h0, q⟩ | ⟨p, rfl, h0, h1⟩
  · exact Or.inl q
  · exact Or.inr (Or.inl ⟨p, rfl, ht.keep h0 (hn p rfl), q⟩)
  · exact Or.inr (Or.inr ⟨p, rfl, ht.keep h0 (hn p rfl), ht.keep h1 (hn p rfl)⟩)
theorem Errs.turn_no {w w' : World} {v : Value} {e : Int} (h : Errs w v e) (ht : Turn no w w') : Errs w' v e := h.turn ht (fun _ _ q => q)
theorem Errs.ptr {w : World} {v : Value} {e : Int} (h : Errs w v e) : ∃ a, v = .pointer a := by rcases h with ⟨rfl, _⟩ | ⟨p, rfl, _⟩ | ⟨p, rfl, _⟩ <;> exact ⟨_, rfl⟩

/-- No Reader, or one that NewReader did not make. -/
def Unmade (w : World) (v : Value) : Prop := v = .pointer none ∨ ∃ p, v = .pointer (some ⟨p, 0, none⟩) ∧ w.cell? ⟨p, 0, none⟩ = some (.pointer none)

theorem Unmade.errs {w : World} {v : Value} (h : Unmade w v) : Errs w v 1 := by
  rcases h with rfl | ⟨p, rfl, h0⟩
  · exact Or.inl ⟨rfl, rfl⟩
  · exact Or.inr (Or.inl ⟨p, rfl, h0, rfl⟩)
theorem Unmade.fault {w : World} {v : Value} (h : Unmade w v) : Fault w v 1 := by
  rcases h with rfl | ⟨p, rfl, h0⟩
  · exact Or.inl ⟨rfl, rfl⟩
  · exact Or.inr (Or.inl ⟨p, rfl, h0, rfl⟩)
theorem Unmade.turn_no {w w' : World} {v : Value} (h : Unmade w v) (ht : Turn no w w') : Unmade w' v := by
  rcases h with rfl | ⟨p, rfl, h0⟩
  · exact Or.inl rfl
  · exact Or.inr ⟨p, rfl, ht.keep h0 (fun q => q)⟩

end Go.Proofs.YtgbcdjjnpadddaaGreatDoor




/- Walks: a Writer with an error; kind; lay and read where nothing was made; alive. -/
namespace Go.Proofs.YtgbcdjjnpadddaaGreatDoor
open Go.RowKit

theorem Fault.ptr {w : World} {v : Value} {e : Int} (h : Fault w v e) : ∃ a, v = .pointer a := by rcases h with ⟨rfl, _⟩ | ⟨p, rfl, _⟩ | ⟨p, rfl, _⟩ <;> exact ⟨_, rfl⟩
theorem Fault.turn {S : Nat → Prop} {w w' : World} {v : Value} {e : Int} (h : Fault w v e) (ht : Turn S w w') (hn : ∀ p, v = .pointer (some ⟨p, 0, none⟩) → ¬ S p) : Fault w' v e := by
  rcases h with q | ⟨p, rfl, h0, q⟩ | ⟨p, rfl, h0, h1⟩
  · exact Or.inl q
  · exact Or.inr (Or.inl ⟨p, rfl, ht.keep h0 (hn p rfl), q⟩)
  · exact Or.inr (Or.inr ⟨p, rfl, ht.keep h0 (hn p rfl), ht.keep h1 (hn p rfl)⟩)

set_option maxRecDepth 100000 in
set_option maxHeartbeats 1000000 in
theorem wfixed_err (w : World) (v : Value) (n k : Int) (e0 : Int) (h : Fault w v e0) (h0 : (e0 != 0) = true) :
    Calls Tryz.prog 158 #[v, .int .u64 n, .int .i64 k] w fun e w' => e = .returned (.tuple #[]) ∧ w = w' := by
  have h1 : (e0 == 0) = false := by simpa using h0
  obtain ⟨a, rfl⟩ := h.ptr
  go_enter Tryz.func158, Tryz.ntmps158
  go_wp2_with (first | (go_at_call 160; refine (fault_any _ _ _ h).mono ?_; rintro e w' ⟨rfl, rfl⟩) | go_in)
  first | go_end0 | (simp only [Exit.inBlock, Exit.then]; refine bodyPost_ret (results_none rfl _ _ _) rfl ?_) | refine bodyPost_ret (results_none rfl _ _ _) rfl ?_
  exact ⟨rfl, rfl⟩

set_option maxRecDepth 100000 in
set_option maxHeartbeats 1000000 in
theorem wvar_err (w : World) (v : Value) (n : Int) (e0 : Int) (h : Fault w v e0) (h0 : (e0 != 0) = true) :
    Calls Tryz.prog 135 #[v, .int .u64 n] w fun e w' => e = .returned (.tuple #[]) ∧ w = w' := by
  have h1 : (e0 == 0) = false := by simpa using h0
  obtain ⟨a, rfl⟩ := h.ptr
  go_enter Tryz.func135, Tryz.ntmps135
  go_wp2_with (first | (go_at_call 160; refine (fault_any _ _ _ h).mono ?_; rintro e w' ⟨rfl, rfl⟩) | go_in)
  first | go_end0 | (simp only [Exit.inBlock, Exit.then]; refine bodyPost_ret (results_none rfl _ _ _) rfl ?_) | refine bodyPost_ret (results_none rfl _ _ _) rfl ?_
  exact ⟨rfl, rfl⟩

set_option maxRecDepth 100000 in
set_option maxHeartbeats 1000000 in
theorem wlay_err (w : World) (v : Value) (x : Value) (e0 : Int) (h : Fault w v e0) (h0 : (e0 != 0) = true) :
    Calls Tryz.prog 161 #[v, x] w fun e w' => e = .returned (.tuple #[]) ∧ w = w' := by
  have h1 : (e0 == 0) = false := by simpa using h0
  obtain ⟨a, rfl⟩ := h.ptr
  go_enter Tryz.func161, Tryz.ntmps161
  go_wp2_with (first | (go_at_call 160; refine (fault_any _ _ _ h).mono ?_; rintro e w' ⟨rfl, rfl⟩) | go_in)
  first | go_end0 | (simp only [Exit.inBlock, Exit.then]; refine bodyPost_ret (results_none rfl _ _ _) rfl ?_) | refine bodyPost_ret (results_none rfl _ _ _) rfl ?_
  exact ⟨rfl, rfl⟩

set_option maxRecDepth 100000 in
set_option maxHeartbeats 1000000 in
theorem wlays_err (w : World) (v : Value) (x : Value) (e0 : Int) (h : Fault w v e0) (h0 : (e0 != 0) = true) :
    Calls Tryz.prog 166 #[v, x] w fun e w' => e = .returned (.tuple #[]) ∧ w = w' := by
  have h1 : (e0 == 0) = false := by simpa using h0
  obtain ⟨a, rfl⟩ := h.ptr
  go_enter Tryz.func166, Tryz.ntmps166
  go_wp2_with (first | (go_at_call 160; refine (fault_any _ _ _ h).mono ?_; rintro e w' ⟨rfl, rfl⟩) | go_in)
  first | go_end0 | (simp only [Exit.inBlock, Exit.then]; refine bodyPost_ret (results_none rfl _ _ _) rfl ?_) | refine bodyPost_ret (results_none rfl _ _ _) rfl ?_
  exact ⟨rfl, rfl⟩

set_option maxRecDepth 100000 in
set_option maxHeartbeats 1000000 in
theorem wbyte_err (w : World) (v : Value) (n : Int) (e0 : Int) (h : Fault w v e0) (h0 : (e0 != 0) = true) :
    Calls Tryz.prog 132 #[v, .int .u8 n] w fun e w' => e = .returned (.tuple #[]) ∧ w = w' := by
  go_enter Tryz.func132, Tryz.ntmps132
  go_wp2_with (first | (go_at_call 158; refine (wfixed_err _ _ _ _ e0 h h0).mono ?_; rintro e w' ⟨rfl, rfl⟩) )
  all_goals
    first | go_end0 | (simp only [Exit.inBlock, Exit.then]; refine bodyPost_ret (results_none rfl _ _ _) rfl ?_) | refine bodyPost_ret (results_none rfl _ _ _) rfl ?_
    exact ⟨rfl, rfl⟩

set_option maxRecDepth 100000 in
set_option maxHeartbeats 1000000 in
theorem wraw_err (w : World) (v : Value) (x : Value) (e0 : Int) (h : Fault w v e0) (h0 : (e0 != 0) = true) :
    Calls Tryz.prog 136 #[v, x] w fun e w' => e = .returned (.tuple #[]) ∧ w = w' := by
  go_enter Tryz.func136, Tryz.ntmps136
  go_wp2_with (first | (go_at_call 161; refine (wlay_err _ _ _ e0 h h0).mono ?_; rintro e w' ⟨rfl, rfl⟩) )
  all_goals
    first | go_end0 | (simp only [Exit.inBlock, Exit.then]; refine bodyPost_ret (results_none rfl _ _ _) rfl ?_) | refine bodyPost_ret (results_none rfl _ _ _) rfl ?_
    exact ⟨rfl, rfl⟩

set_option maxRecDepth 100000 in
set_option maxHeartbeats 1000000 in
theorem wcounteds_err (w : World) (v : Value) (x : ByteArray) (e0 : Int) (h : Fault w v e0) (h0 : (e0 != 0) = true) :
    Calls Tryz.prog 159 #[v, .string x] w fun e w' => e = .returned (.tuple #[]) ∧ w = w' := by
  go_enter Tryz.func159, Tryz.ntmps159
  go_wp2_with (first | (go_at_call 135; refine (wvar_err _ _ _ e0 h h0).mono ?_; rintro e w' ⟨rfl, rfl⟩) | (go_at_call 166; refine (wlays_err _ _ _ e0 h h0).mono ?_; rintro e w' ⟨rfl, rfl⟩) )
  all_goals
    first | go_end0 | (simp only [Exit.inBlock, Exit.then]; refine bodyPost_ret (results_none rfl _ _ _) rfl ?_) | refine bodyPost_ret (results_none rfl _ _ _) rfl ?_
    exact ⟨rfl, rfl⟩

set_option maxRecDepth 100000 in
set_option maxHeartbeats 1000000 in
theorem wtext_err (w : World) (v : Value) (x : ByteArray) (e0 : Int) (h : Fault w v e0) (h0 : (e0 != 0) = true) :
    Calls Tryz.prog 133 #[v, .string x] w fun e w' => e = .returned (.tuple #[]) ∧ w = w' := by
  go_enter Tryz.func133, Tryz.ntmps133
  go_wp2_with (first | (go_at_call 159; refine (wcounteds_err _ _ _ e0 h h0).mono ?_; rintro e w' ⟨rfl, rfl⟩) )
  all_goals
    first | go_end0 | (simp only [Exit.inBlock, Exit.then]; refine bodyPost_ret (results_none rfl _ _ _) rfl ?_) | refine bodyPost_ret (results_none rfl _ _ _) rfl ?_
    exact ⟨rfl, rfl⟩

theorem tmod9 (k : Int) : (if k.tmod 9 < 0 then k.tmod 9 + 9 else k.tmod 9) = k % 9 ∧ -9 < k.tmod 9 ∧ k.tmod 9 < 9 := by
  have h1 := Int.tmod_add_mul_tdiv k 9
  have h2 : k.tmod 9 < 9 := Int.tmod_lt_of_pos k (by omega)
  have h3 : -9 < k.tmod 9 := Int.lt_tmod_of_pos k (by omega)
  refine ⟨?_, h3, h2⟩
  generalize k.tmod 9 = t at *
  generalize k.tdiv 9 = d at *
  split <;> omega

end Go.Proofs.YtgbcdjjnpadddaaGreatDoor




/- Walks: lay and read where nothing was made; alive. -/
namespace Go.Proofs.YtgbcdjjnpadddaaGreatDoor
open Go.RowKit

theorem foldl_bytesQ : ∀ (l : List UInt8) (s : ByteArray), (l.map fun b => (b.toNat : Int)).foldl (fun r n => r.push (UInt8.ofNat n.toNat)) s = ⟨s.data ++ l.toArray⟩
  | [], s => by simp
  | b :: l, s => by
    rw [List.map_cons, List.foldl_cons, foldl_bytesQ l]
    simp [ByteArray.push]

/-- A slice of bytes turned into a text. -/
theorem bytes_textQ {w : World} {v : Value} {bs : List UInt8} (hb : Bs w v bs) : (convert 124 9 v).run Tryz.prog w = .ok (.string ⟨bs.toArray⟩) w := by
  obtain ⟨a, c, hv⟩ := hb.slice
  subst hv
  rw [run_convert_bytes_string w 124 9 5 a bs.length c Tryz.underlying124 Tryz.underlying5 Tryz.underlying9]
  rcases hb with ⟨h, rfl⟩ | ⟨a', c', h, _, _, h3⟩
  · cases h
    simp [Conv.bytesToString]
    rfl
  · cases h
    have hl := run_loadCells_list (P := Tryz.prog) w a' (bs.map bv) (fun j u hu => by
      rw [List.getElem?_map] at hu
      cases hb : bs[j]? with
      | none => rw [hb] at hu; cases hu
      | some b => rw [hb] at hu; cases hu; exact h3 j b hb)
    have e1 : bs.map bv = (bs.map fun b => (b.toNat : Int)).map (Value.int .u8) := by rw [List.map_map]; rfl
    rw [List.length_map, e1] at hl
    rw [run_bytesToString w a' bs.length c (bs.map fun b => (b.toNat : Int)) hl, foldl_bytesQ]
    simp

theorem bytesWorld_turn (w : World) (e : TypeId) (s : ByteArray) : Turn no w (Lib.bytesWorld w e s) :=
  ⟨rfl, rfl, rfl, by rw [Lib.bytesWorld_size]; omega, fun k hk _ => Lib.bytesWorld_at_old w e s k hk⟩

theorem bytesWorld_bs (w : World) (s : ByteArray) (hm : s.size ≤ maxLen) : Bs (Lib.bytesWorld w 5 s) (.slice (some ⟨w.heap.size, 0, none⟩) s.size (grownCap w s.size 0 5)) s.data.toList := by
  have hl : s.data.toList.length = s.size := by rw [Array.length_toList]; rfl
  refine Or.inr ⟨⟨w.heap.size, 0, none⟩, _, by rw [hl], by rw [hl]; exact grownCap_ge w _ _ _, grownCap_le_maxLen w _ _ _ hm, fun j u hu => ?_⟩
  have hj : j < s.data.toList.length := (List.getElem?_eq_some_iff.1 hu).1
  rw [Addr.add_lit, Nat.zero_add, Lib.bytesWorld_cell w 5 s j (by omega), List.getD_eq_getElem?_getD, hu]
  rfl

end Go.Proofs.YtgbcdjjnpadddaaGreatDoor




/- Walks: a Writer's numbers of so many bytes. -/
namespace Go.Proofs.YtgbcdjjnpadddaaGreatDoor
open Go.RowKit
set_option linter.unusedVariables false

/-- append, as one step of a region that draws its order. -/
theorem step_append_src {P : Program} {ops : Array Oper} {o : Oper} {a : Act} {w : World} {K : Act → World → Prop} {Q : Exit → Act → World → Prop} {E : Prop} (hgd : o.guard = none) (s x : Operand) {t tx e : TypeId} {z : Value} {bytes : Nat}
    (ho : o.op = .call { callee := .builtin .append, args := #[s, x], argTypes := #[t, tx] })
    (ht : P.underlying t = some (.slice e)) (hinf : (P.info? e).map (fun i => (i.zero, i.size, i.bytes)) = some (some z, 1, bytes)) (hz : z.cells.size = 1)
    (v : Value) (xs : List Value) (hs : a.eval s = v) (hown : Own w e v xs) (xv : Value) (n : Nat) (news : List Value) (hx : a.eval x = xv) (hsrc : Src P 1 tx xv n news w)
    (hb : (xs.length + n) * bytes ≤ 140737488355328) (hm : xs.length + n ≤ maxLen)
    (hK : ∀ v' w', Own w' e v' (xs ++ news) → Grew w w' v v' → K (a.put o.dst v') w') :
    if Region.wanted o (yielded ops a.tmps) = true then Oper.wp P o a w K Q else E := by
  have hw : Region.wanted o (yielded ops a.tmps) = true := by simp [Region.wanted, hgd]
  rw [if_pos hw]
  obtain ⟨v', w', hr, h2, h3, h4⟩ := run_append_src (P := P) ht hinf hz o.type w v xs hown xv n news hsrc hb hm
  unfold Oper.wp
  simp [execOp, ho, resolve, invoke, builtin, hs, hx, hr, Result.andThen]
  exact hK v' w' h2 h3

/-- The lowest bytes of a number. -/
def leB (n k : Nat) : List UInt8 := (List.range k).map fun j => UInt8.ofNat (n / 256 ^ j)

theorem leB_succ (n k : Nat) : leB n (k + 1) = leB n k ++ [UInt8.ofNat (n / 256 ^ k)] := by
  unfold leB
  rw [List.range_succ, List.map_append]
  rfl
theorem leB_length (n k : Nat) : (leB n k).length = k := by simp [leB]

theorem wrap8 (k : Nat) (hk : k < 8) : IntKind.i64.wrap (8 * (k : Int)) = 8 * (k : Int) := by rw [IntKind.wrap_i64]; omega

theorem shr_byte (n k : Nat) : IntKind.u8.wrap ((n : Int) / 2 ^ (8 * (k : Int)).toNat) = ((UInt8.ofNat (n / 256 ^ k)).toNat : Int) := by
  have e1 : (8 * (k : Int)).toNat = 8 * k := by omega
  have e2 : (2 : Int) ^ (8 * k) = ((256 ^ k : Nat) : Int) := by
    rw [Int.pow_mul]
    simp
  rw [e1, e2, IntKind.wrap_u8]
  simp

set_option maxRecDepth 100000 in
set_option maxHeartbeats 2000000 in
theorem fixed_made (w : World) (p : Nat) (v : Value) (bs : List UInt8) (n wd : Nat) (hn : n < 18446744073709551616) (hwd : wd ≤ 8) (h : Wr w p v bs 0) (hle : bs.length + 10 ≤ 140737488355328) :
    Calls Tryz.prog 158 #[.pointer (some ⟨p, 0, none⟩), .int .u64 n, .int .i64 wd] w fun e w' => e = .returned (.tuple #[]) ∧ ∃ v', Wr w' p v' (bs ++ leB n wd) 0 ∧ Turn (wfoot p v) w w' ∧ Near w v v' := by
  have hfault := h.fault
  go_enter Tryz.func158, Tryz.ntmps158
  go_wp2_with (go_at_call 160; refine (fault_any _ _ _ hfault).mono ?_; rintro e w' ⟨rfl, rfl⟩)
  go_loopw [11] (fun c wr => ∃ (k : Nat) (v' : Value), k ≤ wd ∧ c = .int .i64 k ∧ Wr wr p v' (bs ++ leB n k) 0 ∧ Turn (wfoot p v) w wr ∧ Near w v v') (fun c _ => wd - (intOf c).toNat)
  case atStart => exact ⟨0, v, Nat.zero_le _, rfl, by simpa [leB] using h, Turn.refl _ _, Or.inl rfl⟩
  case round =>
    obtain ⟨k, v', hk, rfl, hwr, hT, hfr⟩ := hrel
    by_cases hlt : k < wd
    · have hlt' : (k : Int) < (wd : Int) := by omega
      have c1 := hwr.c1
      have hw1 := wrap8 k (by omega)
      have hl := leB_length n k
      have hpl := hwr.lt
      go_wp2_with fail
      go_region_law (refine step_append_src rfl (.tmp 18) (.tmp 24) rfl Tryz.underlying124 Tryz.info5q rfl v' ((bs ++ leB n k).map bv) (by simp [Act.eval]) (hwr.own.turn_no (((Turn.refl no wr).drew).alloc _)) _ 1 (List.map bv [UInt8.ofNat (n / 256 ^ k)]) (by simp [Act.eval]) (src_byte Tryz.underlying124 wr.drew _ _ (shr_byte n k)) (by simp; omega) (by simp [maxLen]; omega) ?_; intro v1 w1 hown1 hgrew1; have hown2 : Own w1 5 v1 (((bs ++ leB n k) ++ [UInt8.ofNat (n / 256 ^ k)]).map bv) := by simpa using hown1
                     have hA := hwr.append (((Turn.refl no wr).drew).alloc _) hown2 hgrew1 hT hfr
                     obtain ⟨a1, f1⟩ := Wr.at1 (hwr.turn_no (((Turn.refl no wr).drew).alloc _)) hgrew1
                     obtain ⟨ad, ln, cp, rfl⟩ := hown2.form
                     clear hgrew1 hown1)
      all_goals
        go_wp2_with fail
        go_roundw
        case rel => exact ⟨k + 1, _, by omega, by go_num, by rw [leB_succ, ← List.append_assoc]; exact hA.1, hA.2.1, hA.2.2⟩
        case measure => simp [intOf]; omega
    · have hlt' : ¬ (k : Int) < (wd : Int) := by omega
      have : k = wd := by omega
      subst this
      go_wp2_with fail
      go_end0
      exact ⟨rfl, _, hwr, hT, hfr⟩
end Go.Proofs.YtgbcdjjnpadddaaGreatDoor




/- Walks: a Writer that was made: all that it lays down. -/
namespace Go.Proofs.YtgbcdjjnpadddaaGreatDoor
open Go.RowKit
set_option linter.unusedVariables false

/-- What laying bytes down does. -/
def Laid (w : World) (p : Nat) (v : Value) (bs : List UInt8) (e : Int) (w' : World) : Prop := ∃ v', Wr w' p v' bs e ∧ Turn (wfoot p v) w w' ∧ Near w v v'

theorem Laid.refl {w : World} {p : Nat} {v : Value} {bs : List UInt8} {e : Int} (h : Wr w p v bs e) : Laid w p v bs e w := ⟨v, h, Turn.refl _ _, Or.inl rfl⟩

theorem near_turn {w w1 w2 : World} {p : Nat} {v v1 : Value} (h1 : Turn (wfoot p v) w w1) (n1 : Near w v v1) (h2 : Turn (wfoot p v1) w1 w2) : Turn (wfoot p v) w w2 :=
  h1.trans h2 (fun i hi q => by
    rcases q with q | q
    · exact Or.inl q
    · rcases n1 with r | ⟨g, r, hg⟩
      · rw [r] at q; exact Or.inr q
      · rw [r] at q; cases q; omega)

theorem near_near {w w1 : World} {v v1 v2 : Value} (hs : w.heap.size ≤ w1.heap.size) (n1 : Near w v v1) (n2 : Near w1 v1 v2) : Near w v v2 := by
  rcases n2 with r | ⟨g, r, hg⟩
  · unfold Near; rw [r]; exact n1
  · exact Or.inr ⟨g, r, by omega⟩

theorem varF_le : ∀ (f n : Nat), (varF f n).length ≤ f
  | 0, _ => by simp [varF]
  | f + 1, n => by
    unfold varF
    split
    · simp
    · have := varF_le f (n / 128)
      simp
      omega
theorem varE_le (n : Nat) : (varE n).length ≤ 10 := varF_le 10 n

/-- A source of bytes: a slice or a text. -/
theorem src_text (s : ByteArray) (w : World) : Src Tryz.prog 1 9 (.string s) s.size (s.data.toList.map bv) w := Src.ofString w Tryz.underlying9 s

set_option maxRecDepth 100000 in
set_option maxHeartbeats 1000000 in
theorem layAll96 (w : World) (p : Nat) (v : Value) (bs : List UInt8) (h : Wr w p v bs 0) (x : Value) (B : List UInt8) (hx : Bs w x B) (hle : bs.length + B.length ≤ 140737488355328) :
    Calls Tryz.prog 161 #[.pointer (some ⟨p, 0, none⟩), x] w fun e w' => e = .returned (.tuple #[]) ∧ Laid w p v (bs ++ B) 0 w' := by
  have hfault := h.fault
  have c1 := h.c1
  go_enter Tryz.func161, Tryz.ntmps161
  go_wp2_with (first | (go_at_call 160; refine (fault_any _ _ _ hfault).mono ?_; rintro e w' ⟨rfl, rfl⟩) | (at_builtin; refine wpList_append_src rfl (.tmp 11) (.tmp 12) rfl Tryz.underlying124 Tryz.info5q rfl _ (bs.map bv) rfl h.own _ B.length (B.map bv) rfl ?src ?b ?m ?_))
  case src => exact Bs.src Tryz.underlying124 hx
  case b => first | omega | (simp; omega)
  case m => first | (unfold maxLen; omega) | (simp [maxLen]; omega)
  intro v1 w1 hown1 hgrew1 _
  have hown1 : Own w1 5 v1 ((bs ++ B).map bv) := by simpa using hown1
  have hA := h.append (Turn.refl no w) hown1 hgrew1 (Turn.refl _ _) (Or.inl rfl)
  obtain ⟨a1, f1⟩ := Wr.at1 h hgrew1
  obtain ⟨ad, ln, cp, rfl⟩ := hown1.form
  clear hgrew1 hown1
  go_wp2_with fail
  go_end0
  exact ⟨rfl, _, hA⟩

set_option maxRecDepth 100000 in
set_option maxHeartbeats 1000000 in
theorem layAll106 (w : World) (p : Nat) (v : Value) (bs : List UInt8) (h : Wr w p v bs 0) (x : ByteArray) (hle : bs.length + x.size ≤ 140737488355328) :
    Calls Tryz.prog 166 #[.pointer (some ⟨p, 0, none⟩), .string x] w fun e w' => e = .returned (.tuple #[]) ∧ Laid w p v (bs ++ x.data.toList) 0 w' := by
  have hfault := h.fault
  have c1 := h.c1
  go_enter Tryz.func166, Tryz.ntmps166
  go_wp2_with (first | (go_at_call 160; refine (fault_any _ _ _ hfault).mono ?_; rintro e w' ⟨rfl, rfl⟩) | (at_builtin; refine wpList_append_src rfl (.tmp 11) (.tmp 12) rfl Tryz.underlying124 Tryz.info5q rfl _ (bs.map bv) rfl h.own _ x.size (x.data.toList.map bv) rfl ?src ?b ?m ?_))
  case src => exact src_text x _
  case b => first | omega | (simp; omega)
  case m => first | (unfold maxLen; omega) | (simp [maxLen]; omega)
  intro v1 w1 hown1 hgrew1 _
  have hown1 : Own w1 5 v1 ((bs ++ x.data.toList).map bv) := by simpa using hown1
  have hA := h.append (Turn.refl no w) hown1 hgrew1 (Turn.refl _ _) (Or.inl rfl)
  obtain ⟨a1, f1⟩ := Wr.at1 h hgrew1
  obtain ⟨ad, ln, cp, rfl⟩ := hown1.form
  clear hgrew1 hown1
  go_wp2_with fail
  go_end0
  exact ⟨rfl, _, hA⟩

set_option maxRecDepth 100000 in
set_option maxHeartbeats 1000000 in
theorem layCounted98 (w : World) (p : Nat) (v : Value) (bs : List UInt8) (h : Wr w p v bs 0) (x : ByteArray) (hne : True) (hle : bs.length + x.size + 10 ≤ 140737488355328) :
    Calls Tryz.prog 159 #[.pointer (some ⟨p, 0, none⟩), .string x] w fun e w' => e = .returned (.tuple #[]) ∧ Laid w p v (bs ++ (varE x.size ++ x.data.toList)) 0 w' := by
  have hb1 : (x.size : Int) ≤ 140737488355328 := by omega
  go_enter Tryz.func159, Tryz.ntmps159
  go_wp2_with fail
  refine (var_made _ _ _ bs x.size (by omega) h (by omega)).mono ?_
  rintro e w1 ⟨rfl, v1, h1, t1, n1⟩
  have hvl := varE_le x.size

  go_wp2_with fail
  refine (layAll106 _ _ _ (bs ++ varE x.size) h1 x (by simp; omega)).mono ?_
  rintro e w2 ⟨rfl, v2, h2, t2, n2⟩
  go_wp2_with fail
  go_end0
  rw [List.append_assoc] at h2
  exact ⟨rfl, v2, h2, near_turn t1 n1 t2, near_near t1.size n1 n2⟩

set_option maxRecDepth 100000 in
set_option maxHeartbeats 1000000 in
theorem wbyte_made (w : World) (p : Nat) (v : Value) (bs : List UInt8) (h : Wr w p v bs 0) (n : Nat) (hn : n < 256) (hle : bs.length + 10 ≤ 140737488355328) :
    Calls Tryz.prog 132 #[.pointer (some ⟨p, 0, none⟩), .int .u8 n] w fun e w' => e = .returned (.tuple #[]) ∧ Laid w p v (bs ++ leB n 1) 0 w' := by
  go_enter Tryz.func132, Tryz.ntmps132
  go_wp2_with (go_at_call 158; refine (fixed_made _ _ _ bs n 1 (by omega) (by omega) h hle).mono ?_; rintro e w' ⟨rfl, k1⟩)
  go_end0
  exact ⟨rfl, k1⟩

set_option maxRecDepth 100000 in
set_option maxHeartbeats 1000000 in
theorem wraw_made (w : World) (p : Nat) (v : Value) (bs : List UInt8) (h : Wr w p v bs 0) (x : Value) (B : List UInt8) (hx : Bs w x B) (hle : bs.length + B.length + 10 ≤ 140737488355328) :
    Calls Tryz.prog 136 #[.pointer (some ⟨p, 0, none⟩), x] w fun e w' => e = .returned (.tuple #[]) ∧ Laid w p v (bs ++ B) 0 w' := by
  go_enter Tryz.func136, Tryz.ntmps136
  go_wp2_with (go_at_call 161; refine (layAll96 _ _ _ bs h x B hx (by omega)).mono ?_; rintro e w' ⟨rfl, k1⟩)
  go_end0
  exact ⟨rfl, k1⟩

set_option maxRecDepth 100000 in
set_option maxHeartbeats 1000000 in
theorem wtext_made (w : World) (p : Nat) (v : Value) (bs : List UInt8) (h : Wr w p v bs 0) (x : ByteArray) (hle : bs.length + x.size + 10 ≤ 140737488355328) :
    Calls Tryz.prog 133 #[.pointer (some ⟨p, 0, none⟩), .string x] w fun e w' => e = .returned (.tuple #[]) ∧ Laid w p v (bs ++ (varE x.size ++ x.data.toList)) 0 w' := by
  go_enter Tryz.func133, Tryz.ntmps133
  go_wp2_with (go_at_call 159; refine (layCounted98 _ _ _ bs h x trivial hle).mono ?_; rintro e w' ⟨rfl, k1⟩)
  go_end0
  exact ⟨rfl, k1⟩

theorem Wr.setErr {w : World} {p : Nat} {v : Value} {bs : List UInt8} {e : Int} (h : Wr w p v bs e) (e' : Int) : Wr (w.setCell ⟨p, 2, none⟩ (.int .i64 e')) p v bs e' := by
  refine ⟨?_, h.own.turn (S := fun k => k = p) ((Turn.refl (fun k => k = p) w).setCell (p := ⟨p, 2, none⟩) (fun _ => rfl) _) (fun g q => h.ne g q), h.ne⟩
  have := cells_set 2 (.int .i64 e') h.blk
  simpa using this

end Go.Proofs.YtgbcdjjnpadddaaGreatDoor




/- 'lay' on a Writer that was made, with an error or without. -/
namespace Go.Proofs.YtgbcdjjnpadddaaGreatDoor
open Go.RowKit
set_option linter.unusedVariables false

/-- What a value lays down: its bytes, the error. -/
def enc (k : Int) (n : Nat) (B : List UInt8) : List UInt8 × Int :=
  if k % 9 = 0 then (leB (n % 256) 1, 0)
  else if k % 9 = 1 then (leB (n % 2) 1, 0)
  else if k % 9 = 2 then (leB (n % 4294967296) 4, 0)
  else if k % 9 = 3 then (leB n 8, 0)
  else if k % 9 = 4 then (varE n, 0)
  else if k % 9 = 5 then (B, 0)
  else if k % 9 = 6 then (varE B.length ++ B, 0)
  else if k % 9 = 7 then (varE B.length ++ B, 0)
  else if n < 9223372036854775808 then (varE n, 0) else ([], 2)

/-- A Writer's state behind a value. -/
def wput (bs : List UInt8) (e : Int) (k : Int) (n : Nat) (B : List UInt8) : List UInt8 × Int := if e = 0 then (bs ++ (enc k n B).1, (enc k n B).2) else (bs, e)

theorem Bs.turn' {S : Nat → Prop} {w w' : World} {v : Value} {bs : List UInt8} (h : Bs w v bs) (ht : Turn S w w') (hn : bs ≠ [] → ∀ g, v.ownBlock = some g → ¬ S g) : Bs w' v bs := by
  by_cases hb : bs = []
  · subst hb
    rcases h with q | ⟨a, cap, q, h1, h2, _⟩
    · exact Or.inl q
    · exact Or.inr ⟨a, cap, q, h1, h2, fun j u hu => (by simp at hu)⟩
  · exact h.turn ht (hn hb)

theorem wrap64_big (n : Nat) (h1 : 9223372036854775808 ≤ n) (h2 : n < 18446744073709551616) : wrap64 (n : Int) < 0 := by
  unfold wrap64
  omega

def Pw (w : World) (k : Int) (n : Nat) (vb : Value) : World := w.alloc (.cells #[.int .i64 k, .int .u64 n, vb] 27)

theorem laid_back {w w' : World} {p : Nat} {v : Value} {bs bs' : List UInt8} {e e' : Int} {k : Int} {n : Nat} {vb : Value} (h0 : Wr w p v bs e) (h : Laid (Pw w k n vb) p v bs' e' w') : Laid w p v bs' e' w' := by
  obtain ⟨v', h1, h2, h3⟩ := h
  refine ⟨v', h1, ((Turn.refl no w).alloc _).of_no.trans h2 (fun _ _ q => q), ?_⟩
  rcases h3 with q | ⟨g, q, r⟩
  · exact Or.inl q
  · exact Or.inr ⟨g, q, by simp [Pw] at r; omega⟩

end Go.Proofs.YtgbcdjjnpadddaaGreatDoor




/- The document's forms: fixed, Var, Bool, Bytes, Text. -/
namespace Go.Proofs.YtgbcdjjnpadddaaGreatDoor
open Go.RowKit
set_option linter.unusedVariables false

structure ShutX (p : Prop) : Prop where
  out : p
theorem shutX {p : Prop} (h : p) : ShutX p := ⟨h⟩
/-- Bytes in new memory. -/
structure Fr (w w' : World) (v : Value) (xs : List UInt8) : Prop where
  own : Own w' 5 v (xs.map bv)
  new : ∀ g, v.ownBlock = some g → w.heap.size ≤ g
  turn : Turn no w w'
theorem Fr.nil (w : World) : Fr w w (.slice none 0 0) [] := ⟨Own.nil _ _, fun g q => (by cases q), Turn.refl _ _⟩
theorem Fr.append {w wr wa w1 : World} {v v' : Value} {xs ys : List UInt8} (h : Fr w wr v xs) (ha : Turn no wr wa) (ho : Own w1 5 v' (xs.map bv ++ ys.map bv)) (hg : Grew wa w1 v v') : Fr w w1 v' (xs ++ ys) :=
  ⟨by rw [List.map_append]; exact ho, hg.fresh h.new (by have := h.turn.size; have := ha.size; omega), (h.turn.then_no ha).fresh hg h.new⟩
theorem Fr.form {w w' : World} {v : Value} {xs : List UInt8} (h : Fr w w' v xs) : ∃ a n cap, v = .slice a n cap := h.own.form
theorem Fr.pre {w w0 w' : World} {v : Value} {xs : List UInt8} (h : Fr w0 w' v xs) (t : Turn no w w0) : Fr w w' v xs :=
  ⟨h.own, fun g hg => Nat.le_trans t.size (h.new g hg), t.then_no h.turn⟩

theorem low_byte (m : Nat) : ((m : Int) % 256) % 256 = ((UInt8.ofNat m).toNat : Int) := by
  simp
theorem low_byte1 (m : Nat) : ((m : Int) % 256) = ((UInt8.ofNat m).toNat : Int) := by
  simp

set_option maxRecDepth 100000 in
theorem rvar61 (w : World) (n : Nat) (hn : n < 18446744073709551616) :
    Calls Tryz.prog 109 #[.int .u64 n] w fun e w' => ∃ v, e = .returned v ∧ Fr w w' v (varE n) := by
  go_enter Tryz.func109, Tryz.ntmps109
  go_wp2_with fail
  go_loopw [0, 3] (fun i v wr => ∃ (f m : Nat) (pre : List UInt8), m < 128 ^ (f + 1) ∧ pre.length + f = 9 ∧ i = .int .u64 m ∧ m < 18446744073709551616 ∧ pre ++ varF (f + 1) m = varE n ∧ Fr w wr v pre) (fun i _ _ => (intOf i).toNat)
  case atStart => exact ⟨9, n, [], by omega, rfl, rfl, hn, rfl, Fr.nil w⟩
  case round =>
    obtain ⟨f, m, pre, hf, hpl, rfl, hm, hpre, F⟩ := hrel
    have HP := shutX hpre
    have HF := shutX hf
    have hpl' : pre.length ≤ 9 := by omega
    have HL := shutX hpl
    clear hpre hf hpl
    by_cases hlt : 127 < m
    · have hlt' : (128 : Int) ≤ (m : Int) := by omega
      go_wp2_with (at_builtin; refine wpList_append_src rfl (.tmp 6) (.tmp 11) rfl Tryz.underlying124 Tryz.info5q rfl _ (pre.map bv) rfl (F.own.turn_no ((Turn.refl _ _).alloc _)) _ 1 (List.map bv [UInt8.ofNat (m % 128 + 128)]) rfl ?src ?b ?m ?_)
      case src => exact src_byte Tryz.underlying124 _ _ _ (by simp; omega)
      case b => simp; omega
      case m => simp [maxLen]; omega
      intro v1 w1 o1 g1 _
      have o1 : Own w1 5 v1 (pre.map bv ++ List.map bv [UInt8.ofNat (m % 128 + 128)]) := by simpa using o1
      have F1 := F.append ((Turn.refl _ _).alloc _) o1 g1
      obtain ⟨ad, ln, cp, rfl⟩ := o1.form
      clear o1 g1 F
      go_wp2_with fail
      refine ⟨?_, ?_⟩
      · obtain ⟨f', rfl, k1, k2⟩ := var_step HP.out hlt HF.out
        have hl := HL.out
        exact ⟨f', m / 128, pre ++ [UInt8.ofNat (m % 128 + 128)], k1, by simp; omega, by simp, by omega, k2, F1⟩
      · simp [intOf]; omega
    · have hlt' : ¬ (128 : Int) ≤ (m : Int) := by omega
      go_wp2_with (at_builtin; refine wpList_append_src rfl (.tmp 15) (.tmp 18) rfl Tryz.underlying124 Tryz.info5q rfl _ (pre.map bv) rfl (F.own.turn_no ((Turn.refl _ _).alloc _)) _ 1 (List.map bv [UInt8.ofNat m]) rfl ?src2 ?b2 ?m2 ?_)
      case src2 => exact src_byte Tryz.underlying124 _ _ _ (by first | exact u64_byte m (by omega) | exact low_byte1 m)
      case b2 => first | omega | (simp; omega)
      case m2 => first | (unfold maxLen; omega) | (simp [maxLen]; omega)
      intro v1 w1 o1 g1 _
      have o1 : Own w1 5 v1 (pre.map bv ++ List.map bv [UInt8.ofNat m]) := by simpa using o1
      have F1 := F.append ((Turn.refl _ _).alloc _) o1 g1
      obtain ⟨ad, ln, cp, rfl⟩ := o1.form
      clear o1 g1 F
      go_wp2_with fail
      go_ret
      rw [var_last HP.out hlt] at F1
      exact ⟨_, rfl, F1⟩

end Go.Proofs.YtgbcdjjnpadddaaGreatDoor



