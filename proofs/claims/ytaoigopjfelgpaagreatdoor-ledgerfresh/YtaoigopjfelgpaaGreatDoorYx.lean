/- Texts in one. -/
import Derived.Test.YtaoigopjfelgpaaGreatDoorCm
import Derived.Test.YtaoigopjfelgpaaGreatDoorRows
import Derived.Test.YtaoigopjfelgpaaGreatDoorBase
import Derived.Deep.RegionLaw
import Derived.Test.YtaoigopjfelgpaaGreatDoorLa
import Derived.Test.YtaoigopjfelgpaaGreatDoorDa
import Derived.Deep.Cut
import Derived.Deep.RegionHeld3
import Derived.Deep.MidRow
import Derived.Laws.Rows
/- Texts in one. -/
/- Walks: pointers held against each other, fault, made, Err and the other small ones; same, lent, left. -/
namespace Go.Proofs.YtaoigopjfelgpaaGreatDoor
open Go.RowKit

theorem some65 : (Tryz.prog.info? 134).isSome = true := by kernel_rfl
theorem neq50_same (a : Addr) (w : World) : (binOp .neq 110 (.pointer (some a)) (.pointer (some a))).run Tryz.prog w = .ok (.bool false) w := by
  obtain ⟨j, hj⟩ := Option.isSome_iff_exists.1 some65
  exact Lib.run_neq_ptr_same w a Tryz.underlying110 hj
theorem neq50_nil (a : Addr) (w : World) : (binOp .neq 110 (.pointer none) (.pointer (some a))).run Tryz.prog w = .ok (.bool true) w := by
  have h : ∀ d : Nat, (Op.equalIn (d + 1) 110 (.pointer none) (.pointer (some a))).run Tryz.prog w = .ok false w := fun d => by
    simp [Op.equalIn, run_underlying Tryz.underlying110]
  simp only [binOp]
  simp [Op.equal, Op.maxDepth, h 9999]
attribute [local go_sem] neq50_same neq50_nil

/-- What 'fault' answers of a Writer: no Writer, one that was not made, one with this error. -/
def Fault (w : World) (v : Value) (e : Int) : Prop :=
  (v = .pointer none ∧ e = 1) ∨ (∃ p, v = .pointer (some ⟨p, 0, none⟩) ∧ w.cell? ⟨p, 0, none⟩ = some (.pointer none) ∧ e = 1) ∨
  (∃ p, v = .pointer (some ⟨p, 0, none⟩) ∧ w.cell? ⟨p, 0, none⟩ = some (.pointer (some ⟨p, 0, none⟩)) ∧ w.cell? ⟨p, 2, none⟩ = some (.int .i64 e))

set_option maxRecDepth 100000 in
set_option maxHeartbeats 400000 in
theorem fault_any (w : World) (v : Value) (e0 : Int) (h : Fault w v e0) :
    Calls Tryz.prog 91 #[v] w fun e w' => e = .returned (.int .i64 e0) ∧ w = w' := by
  rcases h with ⟨rfl, rfl⟩ | ⟨p, rfl, h0, rfl⟩ | ⟨p, rfl, h0, h2⟩
  all_goals
    go_enter Tryz.func91, Tryz.ntmps91
    go_wp2
    go_ret
    exact ⟨rfl, rfl⟩

/-- What 'Err' answers of a Reader, likewise; and whether it was made. -/
def Errs (w : World) (v : Value) (e : Int) : Prop :=
  (v = .pointer none ∧ e = 1) ∨ (∃ p, v = .pointer (some ⟨p, 0, none⟩) ∧ w.cell? ⟨p, 0, none⟩ = some (.pointer none) ∧ e = 1) ∨
  (∃ p, v = .pointer (some ⟨p, 0, none⟩) ∧ w.cell? ⟨p, 0, none⟩ = some (.pointer (some ⟨p, 0, none⟩)) ∧ w.cell? ⟨p, 3, none⟩ = some (.int .i64 e))

theorem beq_take_succ {xs bs : List UInt8} {k : Nat} (hl : xs.length = bs.length) (hk : k < xs.length) (h : xs.take k = bs.take k) (he : xs.getD k 0 = bs.getD k 0) : xs.take (k + 1) = bs.take (k + 1) := by
  rw [List.take_succ_eq_append_getElem hk, List.take_succ_eq_append_getElem (by omega), h]
  have e1 : xs[k] = xs.getD k 0 := by simp [hk]
  have e2 : bs[k] = bs.getD k 0 := by simp [show k < bs.length by omega]
  rw [e1, e2, he]

theorem ne_of_getD {xs bs : List UInt8} {k : Nat} (he : xs.getD k 0 ≠ bs.getD k 0) : (xs == bs) = false := by
  apply beq_eq_false_iff_ne.2
  intro h
  exact he (by rw [h])

theorem u8_ne {a b : UInt8} (h : ((a.toNat : Int) != (b.toNat : Int)) = true) : a ≠ b := by
  intro q
  subst q
  simp at h

theorem u8_eq {a b : UInt8} (h : ((a.toNat : Int) != (b.toNat : Int)) = false) : a = b := by
  simp at h
  exact UInt8.toNat_inj.1 (by omega)

theorem own_empty (w : World) (e : TypeId) : Own (w.alloc (.cells #[] e)) e (.slice (some ⟨w.heap.size, 0, none⟩) 0 0) [] :=
  Own.of (xs := []) (heap_alloc_new w _) (Nat.le_refl _) (Nat.zero_le _) rfl rfl

/-- What 'lent' hands out: a row of its own with three marks behind. -/
def Lent (w : World) (v : Value) (bs : List UInt8) : Prop :=
  ∃ g cap cur, v = .slice (some ⟨g, 0, none⟩) bs.length cap ∧ w.heap[g]? = some (.cells cur 5 (0, 0)) ∧ bs.length + 3 ≤ cap ∧ cap ≤ maxLen ∧ cur.size = cap ∧ cur.toList.take (bs.length + 3) = (bs ++ [161, 162, 163]).map bv

theorem cells_set {w : World} {g : Nat} {cur : Array Value} {e : TypeId} (k : Nat) (u : Value) (hg : w.heap[g]? = some (.cells cur e (0, 0))) : (w.setCell ⟨g, k, none⟩ u).heap[g]? = some (.cells (cur.setIfInBounds k u) e (0, 0)) :=
  heap_setCell_same w g k cur e u hg

theorem Lent.bs {w : World} {v : Value} {bs : List UInt8} (h : Lent w v bs) : Bs w v bs := by
  obtain ⟨g, cap, cur, rfl, hg, h1, h2, h3, h4⟩ := h
  refine Or.inr ⟨⟨g, 0, none⟩, cap, rfl, by omega, h2, fun j u hu => ?_⟩
  rw [Addr.add_lit, cell_of_row w g (0 + j) cur 5 (0, 0) hg, Nat.zero_add]
  have hj : j < bs.length := (List.getElem?_eq_some_iff.1 hu).1
  have : (cur.toList.take (bs.length + 3))[j]? = some (bv u) := by
    rw [h4, List.getElem?_map, List.getElem?_append_left hj, hu]; rfl
  rw [List.getElem?_take, if_pos (by omega)] at this
  simpa using this

theorem Lent.mark {w : World} {g : Nat} {cur : Array Value} {bs : List UInt8} (hg : w.heap[g]? = some (.cells cur 5 (0, 0))) (h4 : cur.toList.take (bs.length + 3) = (bs ++ [161, 162, 163]).map bv) (j : Nat) (hj : j < 3) : w.cell? ⟨g, bs.length + j, none⟩ = some (bv ([161, 162, 163].getD j 0)) := by
  rw [cell_of_row w g _ cur 5 (0, 0) hg]
  have : (cur.toList.take (bs.length + 3))[bs.length + j]? = some (bv ([161, 162, 163].getD j 0)) := by
    rw [h4, List.getElem?_map, List.getElem?_append_right (by omega)]
    have : bs.length + j - bs.length = j := by omega
    rw [this]
    match j, hj with
    | 0, _ => rfl
    | 1, _ => rfl
    | 2, _ => rfl
  rw [List.getElem?_take, if_pos (by omega)] at this
  simpa using this

/-- The first m cells of a row are bytes. -/
def AllU8 (cur : Array Value) (m : Nat) : Prop := ∀ j, j < m → ∃ b : Int, cur[j]? = some (.int .u8 b)

theorem AllU8.set {cur : Array Value} {m : Nat} (h : AllU8 cur m) (k : Nat) (b : Int) (hk : k < cur.size) : AllU8 (cur.setIfInBounds k (.int .u8 b)) m := by
  intro j hj
  by_cases q : k = j
  · subst q; exact ⟨b, by simp [hk]⟩
  · obtain ⟨b', hb'⟩ := h j hj
    exact ⟨b', by rw [Array.getElem?_setIfInBounds_ne q]; exact hb'⟩

theorem allU8_of {cur : Array Value} {bs : List UInt8} {m : Nat} (h4 : cur.toList.take m = bs.map bv) (hm : m ≤ cur.size) : AllU8 cur m := by
  intro j hj
  have hl : bs.length = m := by have := congrArg List.length h4; simp at this; omega
  have hb : bs[j]? = some bs[j] := List.getElem?_eq_getElem (by omega)
  have h : (cur.toList.take m)[j]? = some (bv bs[j]) := by rw [h4, List.getElem?_map, hb]; rfl
  rw [List.getElem?_take, if_pos hj] at h
  exact ⟨_, by simpa [bv] using h⟩

end Go.Proofs.YtaoigopjfelgpaaGreatDoor




/- Walks: a Writer. -/
namespace Go.Proofs.YtaoigopjfelgpaaGreatDoor
open Go.RowKit

/-- A Writer that NewWriter made. -/
structure Wr (w : World) (p : Nat) (v : Value) (bs : List UInt8) (e : Int) : Prop where
  blk : w.heap[p]? = some (.cells #[.pointer (some ⟨p, 0, none⟩), v, .int .i64 e] 134 (0, 0))
  own : Own w 5 v (bs.map bv)
  ne : ∀ g, v.ownBlock = some g → g ≠ p

section
variable {w : World} {p : Nat} {v : Value} {bs : List UInt8} {e : Int}
theorem Wr.c0 (h : Wr w p v bs e) : w.cell? ⟨p, 0, none⟩ = some (.pointer (some ⟨p, 0, none⟩)) := by rw [cell_of_row w p 0 _ 134 (0, 0) h.blk]; rfl
theorem Wr.c1 (h : Wr w p v bs e) : w.cell? ⟨p, 1, none⟩ = some v := by rw [cell_of_row w p 1 _ 134 (0, 0) h.blk]; rfl
theorem Wr.c2 (h : Wr w p v bs e) : w.cell? ⟨p, 2, none⟩ = some (.int .i64 e) := by rw [cell_of_row w p 2 _ 134 (0, 0) h.blk]; rfl
theorem Wr.f (h : Wr w p v bs e) (j : Nat) : w.frozen? ⟨p, j, none⟩ = false := frozen_of_row w p j _ 134 h.blk
theorem Wr.fault (h : Wr w p v bs e) : Fault w (.pointer (some ⟨p, 0, none⟩)) e := Or.inr (Or.inr ⟨p, rfl, h.c0, h.c2⟩)
theorem Wr.lt (h : Wr w p v bs e) : p < w.heap.size := lt_of_obj h.blk

/-- The blocks of a Writer. -/
def wfoot (p : Nat) (v : Value) : Nat → Prop := fun k => k = p ∨ v.ownBlock = some k

theorem Wr.turn {S : Nat → Prop} {w' : World} (h : Wr w p v bs e) (ht : Turn S w w') (hn : ∀ k, wfoot p v k → ¬ S k) : Wr w' p v bs e :=
  ⟨ht.obj h.blk (hn p (Or.inl rfl)), h.own.turn ht (fun g hg => hn g (Or.inr hg)), h.ne⟩

theorem Wr.turn_no {w' : World} (h : Wr w p v bs e) (ht : Turn no w w') : Wr w' p v bs e := h.turn ht (fun _ _ q => q)

/-- The new row is stored. -/
theorem Wr.stored {w1 : World} {v' : Value} {news : List UInt8} (h : Wr w p v bs e) (hown : Own w1 5 v' ((bs ++ news).map bv)) (hg : Grew w w1 v v') : Wr (w1.setCell ⟨p, 1, none⟩ v') p v' (bs ++ news) e := by
  have hblk : w1.heap[p]? = some (.cells #[.pointer (some ⟨p, 0, none⟩), v, .int .i64 e] 134 (0, 0)) := hg.turn.obj h.blk (fun q => h.ne p q rfl)
  have hne : ∀ g, v'.ownBlock = some g → g ≠ p := by
    intro g q
    rcases hg.blk with r | ⟨g', r, h1, _⟩
    · exact h.ne g (by rw [← r]; exact q)
    · rw [r] at q; cases q; have := h.lt; omega
  refine ⟨?_, hown.turn (S := fun k => k = p) ((Turn.refl (fun k => k = p) w1).setCell (p := ⟨p, 1, none⟩) (fun _ => rfl) v') (fun g q => hne g q), hne⟩
  have := cells_set 1 v' hblk
  simpa using this
end

def varF : Nat → Nat → List UInt8
  | 0, _ => []
  | f + 1, n => if n < 128 then [UInt8.ofNat n] else UInt8.ofNat (n % 128 + 128) :: varF f (n / 128)
/-- A number in groups of seven bits. -/
def varE (n : Nat) : List UInt8 := varF 10 n

theorem var_step {f m : Nat} {pre E : List UInt8} (h : pre ++ varF (f + 1) m = E) (hlt : 127 < m) (hf : m < 128 ^ (f + 1)) :
    ∃ f', f = f' + 1 ∧ m / 128 < 128 ^ (f' + 1) ∧ (pre ++ [UInt8.ofNat (m % 128 + 128)]) ++ varF (f' + 1) (m / 128) = E := by
  cases f with
  | zero => simp at hf; omega
  | succ f' =>
    refine ⟨f', rfl, ?_, ?_⟩
    · rw [Nat.pow_succ] at hf
      exact Nat.div_lt_of_lt_mul (by omega)
    · have e : varF (f' + 1 + 1) m = UInt8.ofNat (m % 128 + 128) :: varF (f' + 1) (m / 128) := by
        rw [varF]
        exact if_neg (by omega)
      rw [← h, e, List.append_assoc]
      rfl

theorem var_last {f m : Nat} {pre E : List UInt8} (h : pre ++ varF (f + 1) m = E) (hlt : ¬ 127 < m) : pre ++ [UInt8.ofNat m] = E := by
  rw [← h, varF, if_pos (by omega)]


/-- Where a Writer's row goes. -/
def Near (w : World) (v v' : Value) : Prop := v'.ownBlock = v.ownBlock ∨ ∃ g, v'.ownBlock = some g ∧ w.heap.size ≤ g

theorem Near.grew {w wa w1 : World} {v0 v v' : Value} (h : Near w v0 v) (hg : Grew wa w1 v v') (hs : w.heap.size ≤ wa.heap.size) : Near w v0 v' := by
  rcases hg.blk with q | ⟨g, q, h1, _⟩
  · unfold Near; rw [q]; exact h
  · exact Or.inr ⟨g, q, by omega⟩

/-- One append and one store: the Writer behind it. -/
theorem Wr.append {w wr wa w1 : World} {p : Nat} {v0 v v' : Value} {bs news : List UInt8} {e : Int} (h : Wr wr p v bs e) (ha : Turn no wr wa) (hown : Own w1 5 v' ((bs ++ news).map bv)) (hg : Grew wa w1 v v') (hT : Turn (wfoot p v0) w wr) (hn : Near w v0 v) :
    Wr (w1.setCell ⟨p, 1, none⟩ v') p v' (bs ++ news) e ∧ Turn (wfoot p v0) w (w1.setCell ⟨p, 1, none⟩ v') ∧ Near w v0 v' := by
  have hwa := h.turn_no ha
  refine ⟨hwa.stored hown hg, ?_, hn.grew hg (Nat.le_trans hT.size ha.size)⟩
  refine ((hT.then_no ha).grown hg.grown (fun k q hk => ?_)).setCell (fun _ => Or.inl rfl) _
  rcases hn with r | ⟨g, r, h1⟩
  · rw [r] at q; exact Or.inr q
  · rw [r] at q; cases q; omega

theorem Wr.at1 {wa w1 : World} {p : Nat} {v v' : Value} {bs : List UInt8} {e : Int} (h : Wr wa p v bs e) (hg : Grew wa w1 v v') : w1.cell? ⟨p, 1, none⟩ = some v ∧ w1.frozen? ⟨p, 1, none⟩ = false := by
  have hblk := hg.turn.obj h.blk (fun q => h.ne p q rfl)
  exact ⟨by rw [cell_of_row w1 p 1 _ 134 (0, 0) hblk]; rfl, frozen_of_row w1 p 1 _ 134 hblk⟩

theorem eql25_nil (a : Option Addr) (n c : Nat) (w : World) : (binOp .eql 94 (.slice a n c) (.slice none 0 0)).run Tryz.prog w = .ok (.bool a.isNone) w := by
  have h : ∀ d : Nat, (Op.equalIn (d + 1) 94 (.slice a n c) (.slice none 0 0)).run Tryz.prog w = .ok a.isNone w := fun d => by
    cases a <;> simp [Op.equalIn, run_underlying Tryz.underlying94]
  simp only [binOp]
  simp [Op.equal, Op.maxDepth, h 9999]

attribute [local go_sem] eql25_nil

set_option maxRecDepth 100000 in
set_option maxHeartbeats 1000000 in
theorem clone_any (w : World) (v : Value) (bs : List UInt8) (hb : Bs w v bs) (hle : bs.length ≤ 140737488355328) :
    Calls Tryz.prog 92 #[v] w fun e w' => ∃ v', e = .returned v' ∧ Own w' 5 v' (bs.map bv) ∧ (∀ g, v'.ownBlock = some g → w.heap.size ≤ g) ∧ Turn no w w' := by
  have hm : maxLen = 9223372036854775807 := by unfold maxLen; omega
  rcases hb with ⟨rfl, rfl⟩ | ⟨a, c, rfl, hc⟩
  · go_enter Tryz.func92, Tryz.ntmps92
    go_wp2
    go_ret
    exact ⟨_, rfl, Own.nil _ _, fun g q => (by cases q), Turn.refl _ _⟩
  · have hb : Bs w (.slice (some a) bs.length c) bs := Or.inr ⟨a, c, rfl, hc⟩
    clear hc
    go_enter Tryz.func92, Tryz.ntmps92
    go_wp2_with (at_builtin; refine wpList_append_src rfl (.tmp 5) (.tmp 6) rfl Tryz.underlying94 Tryz.info5 rfl _ [] rfl (own_empty _ _) _ bs.length (bs.map bv) rfl ?src ?b ?m ?_)
    case src => exact Bs.src Tryz.underlying94 (hb.turn_no ((Turn.refl _ _).alloc _))
    case b => first | omega | (simp; omega)
    case m => simp [hm]; omega
    intro v1 w1 hown1 hgrew1 _
    have hown1 : Own w1 5 v1 (bs.map bv) := hown1
    have hf0 : ∀ g, (Value.slice (some ⟨w.heap.size, 0, none⟩) 0 0).ownBlock = some g → w.heap.size ≤ g := fun g q => by cases q; exact Nat.le_refl _
    have hT1 : Turn no w w1 := ((Turn.refl _ _).alloc _).fresh hgrew1 hf0
    have hf1 := hgrew1.fresh hf0 (by simp)
    obtain ⟨ad, ln, cp, rfl⟩ := hown1.form
    clear hgrew1 hf0
    go_wp2_with fail
    go_ret
    exact ⟨_, rfl, hown1, hf1, hT1⟩

set_option maxRecDepth 100000 in
set_option maxHeartbeats 1000000 in
theorem out_made (w : World) (p : Nat) (v : Value) (bs : List UInt8) (h : Wr w p v bs 0) (hle : bs.length ≤ 140737488355328) :
    Calls Tryz.prog 66 #[.pointer (some ⟨p, 0, none⟩)] w fun e w' => ∃ v', e = .returned (.tuple #[v', .int .i64 0]) ∧ Own w' 5 v' (bs.map bv) ∧ (∀ g, v'.ownBlock = some g → w.heap.size ≤ g) ∧ Turn no w w' := by
  have hfault := h.fault
  have c1 := h.c1
  have hb := h.own.bs
  obtain ⟨ad, ln, cp, hv⟩ := h.own.form
  subst hv
  go_enter Tryz.func66, Tryz.ntmps66
  go_wp2_with (first | (go_at_call 91; refine (fault_any _ _ _ hfault).mono ?_; rintro e w' ⟨rfl, rfl⟩) | (go_at_call 92; refine (clone_any _ _ bs hb hle).mono ?_; rintro e w' ⟨v', rfl, k1, k2, k3⟩; obtain ⟨ad', ln', cp', rfl⟩ := k1.form))
  go_ret2
  exact ⟨_, rfl, k1, k2, k3⟩

set_option maxRecDepth 100000 in
set_option maxHeartbeats 1000000 in
theorem out_fault (w : World) (v : Value) (e0 : Int) (h : Fault w v e0) (h0 : (e0 != 0) = true) :
    Calls Tryz.prog 66 #[v] w fun e w' => e = .returned (.tuple #[.slice none 0 0, .int .i64 e0]) ∧ w = w' := by
  go_enter Tryz.func66, Tryz.ntmps66
  go_wp2_with (first | (go_at_call 91; refine (fault_any _ _ _ h).mono ?_; rintro e w' ⟨rfl, rfl⟩))
  go_ret2
  exact ⟨rfl, rfl⟩

set_option maxRecDepth 100000 in
set_option maxHeartbeats 1000000 in
theorem newWriter_any (w : World) :
    Calls Tryz.prog 64 #[] w fun e w' => e = .returned (.pointer (some ⟨w.heap.size, 0, none⟩)) ∧ Wr w' w.heap.size (.slice none 0 0) [] 0 ∧ Turn no w w' := by
  go_enter Tryz.func64, Tryz.ntmps64
  go_wp2
  go_ret
  exact ⟨rfl, ⟨heap_alloc_new w _, Own.nil _ _, fun g q => by cases q⟩, (Turn.refl _ _).alloc _⟩

end Go.Proofs.YtaoigopjfelgpaaGreatDoor




/- Walks: a Writer's numbers of so many bytes. -/
namespace Go.Proofs.YtaoigopjfelgpaaGreatDoor
open Go.RowKit
set_option linter.unusedVariables false

/-- append, as one step of a region that draws its order. -/
theorem step_append_src {P : Program} {ops : Array Oper} {o : Oper} {a : Act} {w : World} {K : Act → World → Prop} {Q : Exit → Act → World → Prop} {E : Prop} (hgd : o.guard = none) (s x : Operand) {t tx e : TypeId} {z : Value} {bytes : Nat}
    (ho : o.op = .call { callee := .builtin .append, args := #[s, x], argTypes := #[t, tx] })
    (ht : P.underlying t = some (.slice e)) (hinf : (P.info? e).map (fun i => (i.zero, i.size, i.bytes)) = some (some z, 1, bytes)) (hz : z.cells.size = 1)
    (v : Value) (xs : List Value) (hs : a.eval s = v) (hown : Own w e v xs) (xv : Value) (n : Nat) (news : List Value) (hx : a.eval x = xv) (hsrc : Src P 1 tx xv n news w)
    (hb : (xs.length + n) * bytes ≤ 140737488355328) (hm : xs.length + n ≤ maxLen)
    (hK : ∀ v' w', Own w' e v' (xs ++ news) → Grew w w' v v' → K (a.put o.dst v') w') :
    if Region.wanted o (yielded ops a.tmps) = true then Oper.wp P o a w K Q else E := by
  have hw : Region.wanted o (yielded ops a.tmps) = true := by simp [Region.wanted, hgd]
  rw [if_pos hw]
  obtain ⟨v', w', hr, h2, h3, h4⟩ := run_append_src (P := P) ht hinf hz o.type w v xs hown xv n news hsrc hb hm
  unfold Oper.wp
  simp [execOp, ho, resolve, invoke, builtin, hs, hx, hr, Result.andThen]
  exact hK v' w' h2 h3

/-- The lowest bytes of a number. -/
def leB (n k : Nat) : List UInt8 := (List.range k).map fun j => UInt8.ofNat (n / 256 ^ j)

theorem leB_succ (n k : Nat) : leB n (k + 1) = leB n k ++ [UInt8.ofNat (n / 256 ^ k)] := by
  unfold leB
  rw [List.range_succ, List.map_append]
  rfl
theorem leB_length (n k : Nat) : (leB n k).length = k := by simp [leB]

theorem wrap8 (k : Nat) (hk : k < 8) : IntKind.i64.wrap (8 * (k : Int)) = 8 * (k : Int) := by rw [IntKind.wrap_i64]; omega

theorem shr_byte (n k : Nat) : IntKind.u8.wrap ((n : Int) / 2 ^ (8 * (k : Int)).toNat) = ((UInt8.ofNat (n / 256 ^ k)).toNat : Int) := by
  have e1 : (8 * (k : Int)).toNat = 8 * k := by omega
  have e2 : (2 : Int) ^ (8 * k) = ((256 ^ k : Nat) : Int) := by
    rw [Int.pow_mul]
    simp
  rw [e1, e2, IntKind.wrap_u8]
  simp

set_option maxRecDepth 100000 in
set_option maxHeartbeats 2000000 in
theorem fixed_made (w : World) (p : Nat) (v : Value) (bs : List UInt8) (n wd : Nat) (hn : n < 18446744073709551616) (hwd : wd ≤ 8) (h : Wr w p v bs 0) (hle : bs.length + 10 ≤ 140737488355328) :
    Calls Tryz.prog 90 #[.pointer (some ⟨p, 0, none⟩), .int .u64 n, .int .i64 wd] w fun e w' => e = .returned (.tuple #[]) ∧ ∃ v', Wr w' p v' (bs ++ leB n wd) 0 ∧ Turn (wfoot p v) w w' ∧ Near w v v' := by
  have hfault := h.fault
  go_enter Tryz.func90, Tryz.ntmps90
  go_wp2_with (go_at_call 91; refine (fault_any _ _ _ hfault).mono ?_; rintro e w' ⟨rfl, rfl⟩)
  go_loopw [11] (fun c wr => ∃ (k : Nat) (v' : Value), k ≤ wd ∧ c = .int .i64 k ∧ Wr wr p v' (bs ++ leB n k) 0 ∧ Turn (wfoot p v) w wr ∧ Near w v v') (fun c _ => wd - (intOf c).toNat)
  case atStart => exact ⟨0, v, Nat.zero_le _, rfl, by simpa [leB] using h, Turn.refl _ _, Or.inl rfl⟩
  case round =>
    obtain ⟨k, v', hk, rfl, hwr, hT, hfr⟩ := hrel
    by_cases hlt : k < wd
    · have hlt' : (k : Int) < (wd : Int) := by omega
      have c1 := hwr.c1
      have hw1 := wrap8 k (by omega)
      have hl := leB_length n k
      have hpl := hwr.lt
      go_wp2_with fail
      go_region_law (refine step_append_src rfl (.tmp 18) (.tmp 24) rfl Tryz.underlying94 Tryz.info5 rfl v' ((bs ++ leB n k).map bv) (by simp [Act.eval]) (hwr.own.turn_no (((Turn.refl no wr).drew).alloc _)) _ 1 (List.map bv [UInt8.ofNat (n / 256 ^ k)]) (by simp [Act.eval]) (src_byte Tryz.underlying94 wr.drew _ _ (shr_byte n k)) (by simp; omega) (by simp [maxLen]; omega) ?_; intro v1 w1 hown1 hgrew1; have hown2 : Own w1 5 v1 (((bs ++ leB n k) ++ [UInt8.ofNat (n / 256 ^ k)]).map bv) := by simpa using hown1
                     have hA := hwr.append (((Turn.refl no wr).drew).alloc _) hown2 hgrew1 hT hfr
                     obtain ⟨a1, f1⟩ := Wr.at1 (hwr.turn_no (((Turn.refl no wr).drew).alloc _)) hgrew1
                     obtain ⟨ad, ln, cp, rfl⟩ := hown2.form
                     clear hgrew1 hown1)
      all_goals
        go_wp2_with fail
        go_roundw
        case rel => exact ⟨k + 1, _, by omega, by go_num, by rw [leB_succ, ← List.append_assoc]; exact hA.1, hA.2.1, hA.2.2⟩
        case measure => simp [intOf]; omega
    · have hlt' : ¬ (k : Int) < (wd : Int) := by omega
      have : k = wd := by omega
      subst this
      go_wp2_with fail
      go_end0
      exact ⟨rfl, _, hwr, hT, hfr⟩
end Go.Proofs.YtaoigopjfelgpaaGreatDoor




/- Walks: a Writer that was made: all that it lays down. -/

namespace Go.Proofs.YtaoigopjfelgpaaGreatDoor
open Go.RowKit
set_option linter.unusedVariables false

/-- What laying bytes down does. -/
def Laid (w : World) (p : Nat) (v : Value) (bs : List UInt8) (e : Int) (w' : World) : Prop := ∃ v', Wr w' p v' bs e ∧ Turn (wfoot p v) w w' ∧ Near w v v'

theorem Laid.refl {w : World} {p : Nat} {v : Value} {bs : List UInt8} {e : Int} (h : Wr w p v bs e) : Laid w p v bs e w := ⟨v, h, Turn.refl _ _, Or.inl rfl⟩

theorem near_turn {w w1 w2 : World} {p : Nat} {v v1 : Value} (h1 : Turn (wfoot p v) w w1) (n1 : Near w v v1) (h2 : Turn (wfoot p v1) w1 w2) : Turn (wfoot p v) w w2 :=
  h1.trans h2 (fun i hi q => by
    rcases q with q | q
    · exact Or.inl q
    · rcases n1 with r | ⟨g, r, hg⟩
      · rw [r] at q; exact Or.inr q
      · rw [r] at q; cases q; omega)

theorem near_near {w w1 : World} {v v1 v2 : Value} (hs : w.heap.size ≤ w1.heap.size) (n1 : Near w v v1) (n2 : Near w1 v1 v2) : Near w v v2 := by
  rcases n2 with r | ⟨g, r, hg⟩
  · unfold Near; rw [r]; exact n1
  · exact Or.inr ⟨g, r, by omega⟩

theorem varF_le : ∀ (f n : Nat), (varF f n).length ≤ f
  | 0, _ => by simp [varF]
  | f + 1, n => by
    unfold varF
    split
    · simp
    · have := varF_le f (n / 128)
      simp
      omega
theorem varE_le (n : Nat) : (varE n).length ≤ 10 := varF_le 10 n

/-- A source of bytes: a slice or a text. -/
theorem src_text (s : ByteArray) (w : World) : Src Tryz.prog 1 9 (.string s) s.size (s.data.toList.map bv) w := Src.ofString w Tryz.underlying9 s

set_option maxRecDepth 100000 in
set_option maxHeartbeats 1000000 in
theorem wbyte_made (w : World) (p : Nat) (v : Value) (bs : List UInt8) (h : Wr w p v bs 0) (n : Nat) (hn : n < 256) (hle : bs.length + 10 ≤ 140737488355328) :
    Calls Tryz.prog 111 #[.pointer (some ⟨p, 0, none⟩), .int .u8 n] w fun e w' => e = .returned (.tuple #[]) ∧ Laid w p v (bs ++ leB n 1) 0 w' := by
  go_enter Tryz.func111, Tryz.ntmps111
  go_wp2_with (go_at_call 90; refine (fixed_made _ _ _ bs n 1 (by omega) (by omega) h hle).mono ?_; rintro e w' ⟨rfl, k1⟩)
  go_end0
  exact ⟨rfl, k1⟩

theorem Wr.setErr {w : World} {p : Nat} {v : Value} {bs : List UInt8} {e : Int} (h : Wr w p v bs e) (e' : Int) : Wr (w.setCell ⟨p, 2, none⟩ (.int .i64 e')) p v bs e' := by
  refine ⟨?_, h.own.turn (S := fun k => k = p) ((Turn.refl (fun k => k = p) w).setCell (p := ⟨p, 2, none⟩) (fun _ => rfl) _) (fun g q => h.ne g q), h.ne⟩
  have := cells_set 2 (.int .i64 e') h.blk
  simpa using this

end Go.Proofs.YtaoigopjfelgpaaGreatDoor




/- The document's forms: fixed, Bool, U64; the program's U64, Bool. -/
namespace Go.Proofs.YtaoigopjfelgpaaGreatDoor
open Go.RowKit
set_option linter.unusedVariables false

/-- Bytes in new memory. -/
structure Fr (w w' : World) (v : Value) (xs : List UInt8) : Prop where
  own : Own w' 5 v (xs.map bv)
  new : ∀ g, v.ownBlock = some g → w.heap.size ≤ g
  turn : Turn no w w'
theorem Fr.nil (w : World) : Fr w w (.slice none 0 0) [] := ⟨Own.nil _ _, fun g q => (by cases q), Turn.refl _ _⟩
theorem Fr.append {w wr wa w1 : World} {v v' : Value} {xs ys : List UInt8} (h : Fr w wr v xs) (ha : Turn no wr wa) (ho : Own w1 5 v' (xs.map bv ++ ys.map bv)) (hg : Grew wa w1 v v') : Fr w w1 v' (xs ++ ys) :=
  ⟨by rw [List.map_append]; exact ho, hg.fresh h.new (by have := h.turn.size; have := ha.size; omega), (h.turn.then_no ha).fresh hg h.new⟩
theorem Fr.form {w w' : World} {v : Value} {xs : List UInt8} (h : Fr w w' v xs) : ∃ a n cap, v = .slice a n cap := h.own.form
theorem Fr.pre {w w0 w' : World} {v : Value} {xs : List UInt8} (h : Fr w0 w' v xs) (t : Turn no w w0) : Fr w w' v xs :=
  ⟨h.own, fun g hg => Nat.le_trans t.size (h.new g hg), t.then_no h.turn⟩

theorem low_byte (m : Nat) : ((m : Int) % 256) % 256 = ((UInt8.ofNat m).toNat : Int) := by
  simp
theorem low_byte1 (m : Nat) : ((m : Int) % 256) = ((UInt8.ofNat m).toNat : Int) := by
  simp

set_option maxRecDepth 100000 in
theorem rfixed99 (w : World) (n k : Nat) (hn : n < 18446744073709551616) (hk : k ≤ 8) :
    Calls Tryz.prog 99 #[.int .u64 n, .int .i64 k] w fun e w' => ∃ v, e = .returned v ∧ Fr w w' v (leB n k) := by
  go_enter Tryz.func99, Tryz.ntmps99
  go_wp2_with fail
  go_loopw [0, 5, 6] (fun m v i wr => ∃ (j x : Nat), j ≤ k ∧ x = n / 256 ^ j ∧ m = .int .u64 x ∧ i = .int .i64 j ∧ Fr w wr v (leB n j)) (fun _ _ i _ => k - (intOf i).toNat)
  case atStart => exact ⟨0, n, by omega, by simp, rfl, rfl, Fr.nil w⟩
  case round =>
    obtain ⟨j, x, hj, hx, rfl, rfl, F⟩ := hrel
    have hx2 : x < 18446744073709551616 := by rw [hx]; exact Nat.lt_of_le_of_lt (Nat.div_le_self _ _) hn
    have Hx := shut hx
    clear hx
    by_cases hlt : j < k
    · have hlt' : (j : Int) < (k : Int) := by omega
      have hbl : (leB n j).length = j := leB_length n j
      obtain ⟨L, hL⟩ : ∃ L, leB n j = L := ⟨_, rfl⟩
      rw [hL] at F hbl
      go_wp2_with (at_builtin; refine wpList_append_src rfl (.tmp 12) (.tmp 16) rfl Tryz.underlying94 Tryz.info5 rfl _ (L.map bv) rfl (F.own.turn_no ((Turn.refl _ _).alloc _)) _ 1 (List.map bv [UInt8.ofNat x]) rfl ?src ?b ?m ?_)
      case src => exact src_byte Tryz.underlying94 _ _ _ (by first | exact low_byte x | exact low_byte1 x)
      case b => simp; omega
      case m => simp [maxLen]; omega
      intro v1 w1 o1 g1 _
      have o1 : Own w1 5 v1 (L.map bv ++ List.map bv [UInt8.ofNat x]) := by simpa using o1
      have F1 := F.append ((Turn.refl _ _).alloc _) o1 g1
      obtain ⟨ad, ln, cp, rfl⟩ := o1.form
      clear o1 g1 F
      go_wp2_with fail
      refine ⟨⟨j + 1, x / 256, by omega, ?_, by simp, by simp, ?_⟩, ?_⟩
      · rw [Hx.out, Nat.pow_succ, Nat.div_div_eq_div_mul]
      · rw [leB_succ, ← Hx.out, hL]
        exact F1
      · simp only [intOf]; omega
    · obtain rfl : j = k := by omega
      have hlt' : ¬ (j : Int) < (j : Int) := by omega
      obtain ⟨ad, ln, cp, rfl⟩ := F.form
      go_wp2_with fail
      go_ret
      exact ⟨_, rfl, F⟩

theorem rbool_t (w : World) : Calls Tryz.prog 100 #[.bool true] w fun e w' => ∃ v, e = .returned v ∧ Fr w w' v (leB 1 1) := by
  go_enter Tryz.func100, Tryz.ntmps100
  go_wp2_with fail
  go_ret
  exact ⟨_, rfl, Own.of (xs := [bv 1]) (cap := 1) (heap_alloc_new w _) (by simp) (by simp [maxLen]) (by simp) (by simp [bv]), fun g q => (by simp [Value.ownBlock] at q; omega), (Turn.refl _ _).alloc _⟩
theorem rbool_f (w : World) : Calls Tryz.prog 100 #[.bool false] w fun e w' => ∃ v, e = .returned v ∧ Fr w w' v (leB 0 1) := by
  go_enter Tryz.func100, Tryz.ntmps100
  go_wp2_with fail
  go_ret
  exact ⟨_, rfl, Own.of (xs := [bv 0]) (cap := 1) (heap_alloc_new w _) (by simp) (by simp [maxLen]) (by simp) (by simp [bv]), fun g q => (by simp [Value.ownBlock] at q; omega), (Turn.refl _ _).alloc _⟩
theorem ru64 (w : World) (n : Nat) (hn : n < 18446744073709551616) : Calls Tryz.prog 73 #[.int .u64 n] w fun e w' => ∃ v, e = .returned v ∧ Fr w w' v (leB n 8) := by
  have c := rfixed99 w n 8 (by omega) (by omega)
  go_enter Tryz.func73, Tryz.ntmps73
  go_wp2_with (go_at_call 99; refine c.mono ?_; rintro e w1 ⟨v, rfl, F⟩; obtain ⟨ad, ln, cp, rfl⟩ := F.form)
  go_ret
  exact ⟨_, rfl, F⟩
theorem wu64_made (w : World) (p : Nat) (v : Value) (bs : List UInt8) (h : Wr w p v bs 0) (n : Nat) (hn : n < 18446744073709551616) (hle : bs.length + 10 ≤ 140737488355328) :
    Calls Tryz.prog 65 #[.pointer (some ⟨p, 0, none⟩), .int .u64 n] w fun e w' => e = .returned (.tuple #[]) ∧ Laid w p v (bs ++ leB n 8) 0 w' := by
  go_enter Tryz.func65, Tryz.ntmps65
  go_wp2_with (go_at_call 90; refine (fixed_made _ _ _ bs n 8 hn (by omega) h hle).mono ?_; rintro e w' ⟨rfl, k1⟩)
  go_end0
  exact ⟨rfl, k1⟩
def jB (b : Bool) : Nat := if b then 1 else 0
theorem wbool_made (w : World) (p : Nat) (v : Value) (bs : List UInt8) (h : Wr w p v bs 0) (b : Bool) (hle : bs.length + 10 ≤ 140737488355328) :
    Calls Tryz.prog 94 #[.pointer (some ⟨p, 0, none⟩), .bool b] w fun e w' => e = .returned (.tuple #[]) ∧ Laid w p v (bs ++ leB (jB b) 1) 0 w' := by
  have C0 := wbyte_made w p v bs h 0 (by omega) hle
  have C1 := wbyte_made w p v bs h 1 (by omega) hle
  cases b
  · go_enter Tryz.func94, Tryz.ntmps94
    go_wp2_with (go_at_call 111; refine C0.mono ?_; rintro e w' ⟨rfl, k1⟩)
    go_end0
    exact ⟨rfl, k1⟩
  · go_enter Tryz.func94, Tryz.ntmps94
    go_wp2_with (go_at_call 111; refine C1.mono ?_; rintro e w' ⟨rfl, k1⟩)
    go_end0
    exact ⟨rfl, k1⟩
end Go.Proofs.YtaoigopjfelgpaaGreatDoor



/- An account's form, of both sides. -/
namespace Go.Proofs.YtaoigopjfelgpaaGreatDoor
open Go.RowKit
set_option linter.unusedVariables false

/-- An account's cells. -/
def acs (m : Ac) : List Value := [.int .u64 m.ad, .int .u64 m.bal, .int .u64 m.bond, .int .u64 m.nonce, .bool m.jail]
/-- An account's form. -/
def formB (m : Ac) : List UInt8 := leB m.ad 8 ++ leB m.bal 8 ++ leB m.bond 8 ++ leB m.nonce 8 ++ leB (jB m.jail) 1
theorem formB_len (m : Ac) : (formB m).length = 33 := by simp [formB, leB_length]
theorem Laid.cell {w W : World} {p : Nat} {v : Value} {bs : List UInt8} {e : Int} (L : Laid w p v bs e W) {b o : Nat} {u : Value} (hb : ¬ wfoot p v b) (hc : w.cell? ⟨b, o, none⟩ = some u) : W.cell? ⟨b, o, none⟩ = some u := by
  obtain ⟨v1, W1, t1, n1⟩ := L
  exact t1.keep hc hb
theorem stepU {w0 W : World} {p : Nat} {v : Value} {bs : List UInt8} (L : Laid w0 p v bs 0 W) (n : Nat) (hn : n < 18446744073709551616) (hle : bs.length + 10 ≤ 140737488355328) :
    Calls Tryz.prog 65 #[.pointer (some ⟨p, 0, none⟩), .int .u64 n] W fun e w' => e = .returned (.tuple #[]) ∧ Laid w0 p v (bs ++ leB n 8) 0 w' := by
  obtain ⟨v1, W1, t1, n1⟩ := L
  refine (wu64_made W p v1 bs W1 n hn hle).mono ?_
  rintro e w' ⟨rfl, v2, W2, t2, n2⟩
  exact ⟨rfl, v2, W2, near_turn t1 n1 t2, near_near t1.size n1 n2⟩
theorem stepB {w0 W : World} {p : Nat} {v : Value} {bs : List UInt8} (L : Laid w0 p v bs 0 W) (b : Bool) (hle : bs.length + 10 ≤ 140737488355328) :
    Calls Tryz.prog 94 #[.pointer (some ⟨p, 0, none⟩), .bool b] W fun e w' => e = .returned (.tuple #[]) ∧ Laid w0 p v (bs ++ leB (jB b) 1) 0 w' := by
  obtain ⟨v1, W1, t1, n1⟩ := L
  refine (wbool_made W p v1 bs W1 b hle).mono ?_
  rintro e w' ⟨rfl, v2, W2, t2, n2⟩
  exact ⟨rfl, v2, W2, near_turn t1 n1 t2, near_near t1.size n1 n2⟩
theorem stepO {w0 W : World} {p : Nat} {v : Value} {bs : List UInt8} (L : Laid w0 p v bs 0 W) (hle : bs.length ≤ 140737488355328) :
    Calls Tryz.prog 66 #[.pointer (some ⟨p, 0, none⟩)] W fun e w' => ∃ v', e = .returned (.tuple #[v', .int .i64 0]) ∧ Own w' 5 v' (bs.map bv) ∧ (∀ g, v'.ownBlock = some g → W.heap.size ≤ g) ∧ Turn (wfoot p v) w0 w' := by
  obtain ⟨v1, W1, t1, n1⟩ := L
  refine (out_made W p v1 bs W1 hle).mono ?_
  rintro e w' ⟨v', rfl, o, n, t⟩
  exact ⟨v', rfl, o, n, t1.then_no t⟩
set_option maxRecDepth 100000 in
set_option maxHeartbeats 4000000 in
theorem form31 (w : World) (m : Ac) (ho : m.ok) : Calls Tryz.prog 68 #[.agg (acs m).toArray] w fun e w' => ∃ v, e = .returned v ∧ Fr w w' v (formB m) := by
  obtain ⟨w0, hw0⟩ : ∃ w0, w.alloc (.cells (acs m).toArray 50) = w0 := ⟨_, rfl⟩
  have T0 : Turn no w w0 := by rw [← hw0]; exact (Turn.refl no w).alloc _
  have R0 : Row w0 w.heap.size (acs m).toArray 50 := by rw [← hw0]; exact Row.new w _ 50
  have x0 := R0.cell 0 _ (show (acs m).toArray[(0 : Nat)]? = some (.int .u64 m.ad) from rfl)
  have x1 := R0.cell 1 _ (show (acs m).toArray[(1 : Nat)]? = some (.int .u64 m.bal) from rfl)
  have x2 := R0.cell 2 _ (show (acs m).toArray[(2 : Nat)]? = some (.int .u64 m.bond) from rfl)
  have x3 := R0.cell 3 _ (show (acs m).toArray[(3 : Nat)]? = some (.int .u64 m.nonce) from rfl)
  have x4 := R0.cell 4 _ (show (acs m).toArray[(4 : Nat)]? = some (.bool m.jail) from rfl)
  have lp := R0.lt
  have HN := newWriter_any w0
  have HT0 := shut T0
  have HX0 := shut (And.intro x0 (And.intro x1 (And.intro x2 (And.intro x3 x4))))
  have HM : Shut m.ok := ho
  have HF : Shut (formB m = [] ++ leB m.ad 8 ++ leB m.bal 8 ++ leB m.bond 8 ++ leB m.nonce 8 ++ leB (jB m.jail) 1) := by show _ = _; simp [formB]
  have HB : Shut (([] ++ leB m.ad 8 ++ leB m.bal 8 ++ leB m.bond 8 ++ leB m.nonce 8 ++ leB (jB m.jail) 1 : List UInt8).length ≤ 100) := by show _ ≤ _; simp [leB_length]
  rw [HF.out]
  clear ho T0 R0 x0 x1 x2 x3 x4
  go_enter Tryz.func68, Tryz.ntmps68
  go_upto_region 1 with fail
  try rw [hw0]
  clear hw0
  go_upto_region 2 with (go_at_call 64; refine HN.mono ?_; clear HN; rintro e w1 ⟨rfl, W1, t1⟩)
  obtain ⟨p, hp⟩ : ∃ p, w0.heap.size = p := ⟨_, rfl⟩
  rw [hp] at W1 lp ⊢
  have HS : Shut (w.heap.size < p ∧ p ≤ w1.heap.size) := ⟨lp, by have := W1.lt; omega⟩
  have hp' := shut hp
  have L1 := Laid.refl W1
  have HC : Shut (∀ B W, Laid w1 p (.slice none 0 0) B 0 W → W.cell? ⟨w.heap.size, 0, none⟩ = some (.int .u64 m.ad) ∧ W.cell? ⟨w.heap.size, 1, none⟩ = some (.int .u64 m.bal) ∧ W.cell? ⟨w.heap.size, 2, none⟩ = some (.int .u64 m.bond) ∧ W.cell? ⟨w.heap.size, 3, none⟩ = some (.int .u64 m.nonce) ∧ W.cell? ⟨w.heap.size, 4, none⟩ = some (.bool m.jail)) := fun B W L => by
    have hb : ¬ wfoot p (.slice none 0 0) w.heap.size := by
      rintro (q | q)
      · have q2 : w.heap.size = p := q
        have := HS.out.1
        omega
      · cases q
    obtain ⟨x0, x1, x2, x3, x4⟩ := HX0.out
    exact ⟨L.cell hb (t1.keep x0 (fun q => q)), L.cell hb (t1.keep x1 (fun q => q)), L.cell hb (t1.keep x2 (fun q => q)), L.cell hb (t1.keep x3 (fun q => q)), L.cell hb (t1.keep x4 (fun q => q))⟩
  have HT1 := shut (HT0.out.then_no t1)
  clear t1 W1 lp hp HX0
  have LL := shut L1
  clear L1
  obtain ⟨c0, -⟩ := HC.out _ _ LL.out
  have K := stepU LL.out m.ad HM.out.1 (by simp)
  go_upto_region 3 with (go_at_call 65; refine K.mono ?_; rintro e w2 ⟨rfl, L2⟩)
  have L2 := shut L2
  clear K c0
  obtain ⟨-, c0, -⟩ := HC.out _ _ L2.out
  have K := stepU L2.out m.bal HM.out.2.1 (by simp [leB_length])
  go_upto_region 4 with (go_at_call 65; refine K.mono ?_; rintro e w3 ⟨rfl, L3⟩)
  have L3 := shut L3
  clear K c0
  obtain ⟨-, -, c0, -⟩ := HC.out _ _ L3.out
  have K := stepU L3.out m.bond HM.out.2.2.1 (by simp [leB_length])
  go_upto_region 5 with (go_at_call 65; refine K.mono ?_; rintro e w4 ⟨rfl, L4⟩)
  have L4 := shut L4
  clear K c0
  obtain ⟨-, -, -, c0, -⟩ := HC.out _ _ L4.out
  have K := stepU L4.out m.nonce HM.out.2.2.2 (by simp [leB_length])
  go_upto_region 6 with (go_at_call 65; refine K.mono ?_; rintro e w5 ⟨rfl, L5⟩)
  have L5 := shut L5
  clear K c0
  obtain ⟨-, -, -, -, c0⟩ := HC.out _ _ L5.out
  have K := stepB L5.out m.jail (by simp [leB_length])
  go_upto_region 7 with (go_at_call 94; refine K.mono ?_; rintro e w6 ⟨rfl, L6⟩)
  have L6 := shut L6
  clear K c0
  have K := stepO L6.out (Nat.le_trans HB.out (by omega))
  have hsz : Shut (w1.heap.size ≤ w6.heap.size) := by
    obtain ⟨_, _, t, _⟩ := L6.out
    exact t.size
  generalize hFB : ([] ++ leB m.ad 8 ++ leB m.bal 8 ++ leB m.bond 8 ++ leB m.nonce 8 ++ leB (jB m.jail) 1 : List UInt8) = FB at K
  have HFB := shut hFB
  clear hFB
  clear L6 L5 L4 L3 L2 LL HC
  go_wp2_with (go_at_call 66; refine K.mono ?_; clear K; rintro e w7 ⟨v7, rfl, o7, n7, t7⟩; obtain ⟨a7, l7, c7, rfl⟩ := o7.form)
  go_ret
  refine ⟨.slice a7 l7 c7, rfl, by have q7 := o7; rw [← HFB.out] at q7; simpa only [List.nil_append] using q7, fun g hg => ?_, HT1.out.trans t7 (fun i hi q => ?_)⟩
  · have := n7 g hg
    have := hsz.out
    have := HT1.out.size
    omega
  · rcases q with q | q
    · have q2 : i = p := q
      have := HS.out.1
      omega
    · cases q
set_option maxRecDepth 100000 in
set_option maxHeartbeats 8000000 in
theorem rform17 (w : World) (m : Ac) (ho : m.ok) : Calls Tryz.prog 74 #[.agg (acs m).toArray] w fun e w' => ∃ v, e = .returned v ∧ Fr w w' v (formB m) := by
  obtain ⟨w0, hw0⟩ : ∃ w0, w.alloc (.cells (acs m).toArray 50) = w0 := ⟨_, rfl⟩
  have T0 : Turn no w w0 := by rw [← hw0]; exact (Turn.refl no w).alloc _
  have R0 : Row w0 w.heap.size (acs m).toArray 50 := by rw [← hw0]; exact Row.new w _ 50
  have HC : Shut (∀ W, Turn no w0 W → W.cell? ⟨w.heap.size, 0, none⟩ = some (.int .u64 m.ad) ∧ W.cell? ⟨w.heap.size, 1, none⟩ = some (.int .u64 m.bal) ∧ W.cell? ⟨w.heap.size, 2, none⟩ = some (.int .u64 m.bond) ∧ W.cell? ⟨w.heap.size, 3, none⟩ = some (.int .u64 m.nonce) ∧ W.cell? ⟨w.heap.size, 4, none⟩ = some (.bool m.jail)) := fun W t =>
    ⟨t.keep (R0.cell 0 _ (show (acs m).toArray[(0 : Nat)]? = some (.int .u64 m.ad) from rfl)) (fun q => q), t.keep (R0.cell 1 _ (show (acs m).toArray[(1 : Nat)]? = some (.int .u64 m.bal) from rfl)) (fun q => q), t.keep (R0.cell 2 _ (show (acs m).toArray[(2 : Nat)]? = some (.int .u64 m.bond) from rfl)) (fun q => q), t.keep (R0.cell 3 _ (show (acs m).toArray[(3 : Nat)]? = some (.int .u64 m.nonce) from rfl)) (fun q => q), t.keep (R0.cell 4 _ (show (acs m).toArray[(4 : Nat)]? = some (.bool m.jail) from rfl)) (fun q => q)⟩
  have HT0 := shut T0
  have HM : Shut m.ok := ho
  obtain ⟨c0, -⟩ := HC.out w0 (Turn.refl no w0)
  have K := ru64 w0 m.ad HM.out.1
  clear ho T0 R0
  go_enter Tryz.func74, Tryz.ntmps74
  go_upto_region 1 with fail
  try rw [hw0]
  clear hw0
  go_upto_region 2 with (go_at_call 73; refine K.mono ?_; rintro e w1 ⟨v1, rfl, F1⟩; obtain ⟨a1, l1, p1, rfl⟩ := F1.form)
  have F1 := shut F1
  clear K c0
  obtain ⟨-, c0, -⟩ := HC.out w1 F1.out.turn
  have K := ru64 w1 m.bal HM.out.2.1
  go_upto_region 3 with (first | (go_at_call 73; refine K.mono ?_; clear K; rintro e u2 ⟨y2, rfl, G2⟩; have hq := G2.own.bs; obtain ⟨b2, k2, q2, rfl⟩ := G2.form; (obtain ⟨v2, w2, hr2, O2, E2, -⟩ := run_append_src (P := Tryz.prog) (t := 94) (tx := 94) Tryz.underlying94 Tryz.info5 rfl 94 u2 _ _ (F1.out.own.turn_no G2.turn) _ _ _ (hq.src (tx := 94) Tryz.underlying94) (by simp [leB_length]) (by simp [leB_length, maxLen]))) | (guard_target =~ wpList _ _ _ ({ dst := some 11, .. } :: _) _ _; (refine wpList_append_run rfl (.tmp 7) (.tmp 10) rfl _ _ rfl rfl hr2 ?_); (obtain ⟨a2, l2, p2, rfl⟩ := O2.form)))
  have F2 : Shut (Fr w0 w2 (.slice a2 l2 p2) ((leB m.ad 8) ++ leB m.bal 8)) := F1.out.append G2.turn O2 E2
  clear O2 E2 hq hr2 G2 c0
  obtain ⟨-, -, c0, -⟩ := HC.out w2 F2.out.turn
  have K := ru64 w2 m.bond HM.out.2.2.1
  go_upto_region 4 with (first | (go_at_call 73; refine K.mono ?_; clear K; rintro e u3 ⟨y3, rfl, G3⟩; have hq := G3.own.bs; obtain ⟨b3, k3, q3, rfl⟩ := G3.form; (obtain ⟨v3, w3, hr3, O3, E3, -⟩ := run_append_src (P := Tryz.prog) (t := 94) (tx := 94) Tryz.underlying94 Tryz.info5 rfl 94 u3 _ _ (F2.out.own.turn_no G3.turn) _ _ _ (hq.src (tx := 94) Tryz.underlying94) (by simp [leB_length]) (by simp [leB_length, maxLen]))) | (guard_target =~ wpList _ _ _ ({ dst := some 16, .. } :: _) _ _; (refine wpList_append_run rfl (.tmp 12) (.tmp 15) rfl _ _ rfl rfl hr3 ?_); (obtain ⟨a3, l3, p3, rfl⟩ := O3.form)))
  have F3 : Shut (Fr w0 w3 (.slice a3 l3 p3) (((leB m.ad 8) ++ leB m.bal 8) ++ leB m.bond 8)) := F2.out.append G3.turn O3 E3
  clear O3 E3 hq hr3 G3 c0
  obtain ⟨-, -, -, c0, -⟩ := HC.out w3 F3.out.turn
  have K := ru64 w3 m.nonce HM.out.2.2.2
  go_upto_region 5 with (first | (go_at_call 73; refine K.mono ?_; clear K; rintro e u4 ⟨y4, rfl, G4⟩; have hq := G4.own.bs; obtain ⟨b4, k4, q4, rfl⟩ := G4.form; (obtain ⟨v4, w4, hr4, O4, E4, -⟩ := run_append_src (P := Tryz.prog) (t := 94) (tx := 94) Tryz.underlying94 Tryz.info5 rfl 94 u4 _ _ (F3.out.own.turn_no G4.turn) _ _ _ (hq.src (tx := 94) Tryz.underlying94) (by simp [leB_length]) (by simp [leB_length, maxLen]))) | (guard_target =~ wpList _ _ _ ({ dst := some 21, .. } :: _) _ _; (refine wpList_append_run rfl (.tmp 17) (.tmp 20) rfl _ _ rfl rfl hr4 ?_); (obtain ⟨a4, l4, p4, rfl⟩ := O4.form)))
  have F4 : Shut (Fr w0 w4 (.slice a4 l4 p4) ((((leB m.ad 8) ++ leB m.bal 8) ++ leB m.bond 8) ++ leB m.nonce 8)) := F3.out.append G4.turn O4 E4
  clear O4 E4 hq hr4 G4 c0
  obtain ⟨-, -, -, -, c0⟩ := HC.out w4 F4.out.turn
  have K : Calls Tryz.prog 100 #[.bool m.jail] w4 fun e w' => ∃ v, e = .returned v ∧ Fr w4 w' v (leB (jB m.jail) 1) := by
    cases m.jail
    · exact rbool_f w4
    · exact rbool_t w4
  go_wp2_with (first | (go_at_call 100; refine K.mono ?_; clear K; rintro e u5 ⟨y5, rfl, G5⟩; have hq := G5.own.bs; obtain ⟨b5, k5, q5, rfl⟩ := G5.form; (obtain ⟨v5, w5, hr5, O5, E5, -⟩ := run_append_src (P := Tryz.prog) (t := 94) (tx := 94) Tryz.underlying94 Tryz.info5 rfl 94 u5 _ _ (F4.out.own.turn_no G5.turn) _ _ _ (hq.src (tx := 94) Tryz.underlying94) (by simp [leB_length]) (by simp [leB_length, maxLen]))) | (guard_target =~ wpList _ _ _ ({ dst := some 26, .. } :: _) _ _; (refine wpList_append_run rfl (.tmp 22) (.tmp 25) rfl _ _ rfl rfl hr5 ?_); (obtain ⟨a5, l5, p5, rfl⟩ := O5.form)))
  have F5 := F4.out.append G5.turn O5 E5
  go_ret
  exact ⟨_, rfl, by rw [show formB m = ((((leB m.ad 8) ++ leB m.bal 8) ++ leB m.bond 8) ++ leB m.nonce 8) ++ leB (jB m.jail) 1 by simp [formB]]; exact F5.pre HT0.out⟩
end Go.Proofs.YtaoigopjfelgpaaGreatDoor


