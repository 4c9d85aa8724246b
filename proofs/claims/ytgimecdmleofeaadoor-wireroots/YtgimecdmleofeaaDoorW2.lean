/- Walks: a Writer. -/
import Derived.Test.YtgimecdmleofeaaDoorW1
namespace Go.Proofs.YtgimecdmleofeaaDoor
open Go.RowKit

/-- A Writer that NewWriter made. -/
structure Wr (w : World) (p : Nat) (v : Value) (bs : List UInt8) (e : Int) : Prop where
  blk : w.heap[p]? = some (.cells #[.pointer (some ⟨p, 0, none⟩), v, .int .i64 e] 138 (0, 0))
  own : Own w 5 v (bs.map bv)
  ne : ∀ g, v.ownBlock = some g → g ≠ p

section
variable {w : World} {p : Nat} {v : Value} {bs : List UInt8} {e : Int}
theorem Wr.c0 (h : Wr w p v bs e) : w.cell? ⟨p, 0, none⟩ = some (.pointer (some ⟨p, 0, none⟩)) := by rw [cell_of_row w p 0 _ 138 (0, 0) h.blk]; rfl
theorem Wr.c1 (h : Wr w p v bs e) : w.cell? ⟨p, 1, none⟩ = some v := by rw [cell_of_row w p 1 _ 138 (0, 0) h.blk]; rfl
theorem Wr.c2 (h : Wr w p v bs e) : w.cell? ⟨p, 2, none⟩ = some (.int .i64 e) := by rw [cell_of_row w p 2 _ 138 (0, 0) h.blk]; rfl
theorem Wr.f (h : Wr w p v bs e) (j : Nat) : w.frozen? ⟨p, j, none⟩ = false := frozen_of_row w p j _ 138 h.blk
theorem Wr.fault (h : Wr w p v bs e) : Fault w (.pointer (some ⟨p, 0, none⟩)) e := Or.inr (Or.inr ⟨p, rfl, h.c0, h.c2⟩)
theorem Wr.lt (h : Wr w p v bs e) : p < w.heap.size := lt_of_obj h.blk

/-- The blocks of a Writer. -/
def wfoot (p : Nat) (v : Value) : Nat → Prop := fun k => k = p ∨ v.ownBlock = some k

theorem Wr.turn {S : Nat → Prop} {w' : World} (h : Wr w p v bs e) (ht : Turn S w w') (hn : ∀ k, wfoot p v k → ¬ S k) : Wr w' p v bs e :=
  ⟨ht.obj h.blk (hn p (Or.inl rfl)), h.own.turn ht (fun g hg => hn g (Or.inr hg)), h.ne⟩

theorem Wr.turn_no {w' : World} (h : Wr w p v bs e) (ht : Turn no w w') : Wr w' p v bs e := h.turn ht (fun _ _ q => q)

/-- The new row is stored. -/
theorem Wr.stored {w1 : World} {v' : Value} {news : List UInt8} (h : Wr w p v bs e) (hown : Own w1 5 v' ((bs ++ news).map bv)) (hg : Grew w w1 v v') : Wr (w1.setCell ⟨p, 1, none⟩ v') p v' (bs ++ news) e := by
  have hblk : w1.heap[p]? = some (.cells #[.pointer (some ⟨p, 0, none⟩), v, .int .i64 e] 138 (0, 0)) := hg.turn.obj h.blk (fun q => h.ne p q rfl)
  have hne : ∀ g, v'.ownBlock = some g → g ≠ p := by
    intro g q
    rcases hg.blk with r | ⟨g', r, h1, _⟩
    · exact h.ne g (by rw [← r]; exact q)
    · rw [r] at q; cases q; have := h.lt; omega
  refine ⟨?_, hown.turn (S := fun k => k = p) ((Turn.refl (fun k => k = p) w1).setCell (p := ⟨p, 1, none⟩) (fun _ => rfl) v') (fun g q => hne g q), hne⟩
  have := cells_set 1 v' hblk
  simpa using this
end

def varF : Nat → Nat → List UInt8
  | 0, _ => []
  | f + 1, n => if n < 128 then [UInt8.ofNat n] else UInt8.ofNat (n % 128 + 128) :: varF f (n / 128)
/-- A number in groups of seven bits. -/
def varE (n : Nat) : List UInt8 := varF 10 n

theorem var_step {f m : Nat} {pre E : List UInt8} (h : pre ++ varF (f + 1) m = E) (hlt : 127 < m) (hf : m < 128 ^ (f + 1)) :
    ∃ f', f = f' + 1 ∧ m / 128 < 128 ^ (f' + 1) ∧ (pre ++ [UInt8.ofNat (m % 128 + 128)]) ++ varF (f' + 1) (m / 128) = E := by
  cases f with
  | zero => simp at hf; omega
  | succ f' =>
    refine ⟨f', rfl, ?_, ?_⟩
    · rw [Nat.pow_succ] at hf
      exact Nat.div_lt_of_lt_mul (by omega)
    · have e : varF (f' + 1 + 1) m = UInt8.ofNat (m % 128 + 128) :: varF (f' + 1) (m / 128) := by
        rw [varF]
        exact if_neg (by omega)
      rw [← h, e, List.append_assoc]
      rfl

theorem var_last {f m : Nat} {pre E : List UInt8} (h : pre ++ varF (f + 1) m = E) (hlt : ¬ 127 < m) : pre ++ [UInt8.ofNat m] = E := by
  rw [← h, varF, if_pos (by omega)]

theorem Own.form {w : World} {e : TypeId} {v : Value} {xs : List Value} (h : Own w e v xs) : ∃ a n cap, v = .slice a n cap := by
  rcases h.shape with ⟨rfl, rfl⟩ | ⟨g, cap, _, rfl, _⟩
  · exact ⟨none, 0, 0, rfl⟩
  · exact ⟨some ⟨g, 0, none⟩, _, cap, rfl⟩

/-- Where a Writer's row goes. -/
def Near (w : World) (v v' : Value) : Prop := v'.ownBlock = v.ownBlock ∨ ∃ g, v'.ownBlock = some g ∧ w.heap.size ≤ g

theorem Near.grew {w wa w1 : World} {v0 v v' : Value} (h : Near w v0 v) (hg : Grew wa w1 v v') (hs : w.heap.size ≤ wa.heap.size) : Near w v0 v' := by
  rcases hg.blk with q | ⟨g, q, h1, _⟩
  · unfold Near; rw [q]; exact h
  · exact Or.inr ⟨g, q, by omega⟩

/-- One append and one store: the Writer behind it. -/
theorem Wr.append {w wr wa w1 : World} {p : Nat} {v0 v v' : Value} {bs news : List UInt8} {e : Int} (h : Wr wr p v bs e) (ha : Turn no wr wa) (hown : Own w1 5 v' ((bs ++ news).map bv)) (hg : Grew wa w1 v v') (hT : Turn (wfoot p v0) w wr) (hn : Near w v0 v) :
    Wr (w1.setCell ⟨p, 1, none⟩ v') p v' (bs ++ news) e ∧ Turn (wfoot p v0) w (w1.setCell ⟨p, 1, none⟩ v') ∧ Near w v0 v' := by
  have hwa := h.turn_no ha
  refine ⟨hwa.stored hown hg, ?_, hn.grew hg (Nat.le_trans hT.size ha.size)⟩
  refine ((hT.then_no ha).grown hg.grown (fun k q hk => ?_)).setCell (fun _ => Or.inl rfl) _
  rcases hn with r | ⟨g, r, h1⟩
  · rw [r] at q; exact Or.inr q
  · rw [r] at q; cases q; omega

theorem Wr.at1 {wa w1 : World} {p : Nat} {v v' : Value} {bs : List UInt8} {e : Int} (h : Wr wa p v bs e) (hg : Grew wa w1 v v') : w1.cell? ⟨p, 1, none⟩ = some v ∧ w1.frozen? ⟨p, 1, none⟩ = false := by
  have hblk := hg.turn.obj h.blk (fun q => h.ne p q rfl)
  exact ⟨by rw [cell_of_row w1 p 1 _ 138 (0, 0) hblk]; rfl, frozen_of_row w1 p 1 _ 138 hblk⟩

set_option maxRecDepth 100000 in
set_option maxHeartbeats 1000000 in
theorem var_made (w : World) (p : Nat) (v : Value) (bs : List UInt8) (n : Nat) (hn : n < 18446744073709551616) (h : Wr w p v bs 0) (hle : bs.length + 10 ≤ 140737488355328) :
    Calls Tryd.prog 63 #[.pointer (some ⟨p, 0, none⟩), .int .u64 n] w fun e w' => e = .returned (.tuple #[]) ∧ ∃ v', Wr w' p v' (bs ++ varE n) 0 ∧ Turn (wfoot p v) w w' ∧ Near w v v' := by
  have hfault := h.fault
  go_enter Tryd.func63, Tryd.ntmps63
  go_wp2_with (go_at_call 96; refine (fault_any _ _ _ hfault).mono ?_; rintro e w' ⟨rfl, rfl⟩)
  go_loopw [1] (fun i wr => ∃ (f m : Nat) (pre : List UInt8) (v' : Value), m < 128 ^ (f + 1) ∧ pre.length + f = 9 ∧ i = .int .u64 m ∧ m < 18446744073709551616 ∧ pre ++ varF (f + 1) m = varE n ∧ Wr wr p v' (bs ++ pre) 0 ∧ Turn (wfoot p v) w wr ∧ Near w v v') (fun i _ => (intOf i).toNat)
  case atStart => exact ⟨9, n, [], v, by omega, rfl, rfl, hn, rfl, by simpa using h, Turn.refl _ _, Or.inl rfl⟩
  case round =>
    obtain ⟨f, m, pre, v', hf, hpl, rfl, hm, hpre, hwr, hT, hfr⟩ := hrel
    have c1 := hwr.c1
    have HP : Hid (pre ++ varF (f + 1) m = varE n) := hpre
    have HF : Hid (m < 128 ^ (f + 1)) := hf
    have hpl' : pre.length ≤ 9 := by omega
    have HL : Hid (pre.length + f = 9) := hpl
    clear hpre hf hpl
    by_cases hlt : 127 < m
    · have hlt' : (127 : Int) < (m : Int) := by omega
      go_wp2_with (at_builtin; refine wpList_append_src rfl (.tmp 13) (.tmp 18) rfl Tryd.underlying70 Tryd.info5 rfl _ ((bs ++ pre).map bv) rfl (hwr.own.turn_no ((Turn.refl _ _).alloc _)) _ 1 (List.map bv [UInt8.ofNat (m % 128 + 128)]) rfl ?src ?b ?m ?_)
      case src => exact src_byte Tryd.underlying70 wr _ _ (u64_low7 m hm)
      case b => first | omega | (simp; omega)
      case m => first | (unfold maxLen; omega) | (simp [maxLen]; omega)
      intro v1 w1 hown1 hgrew1 _
      have hown1 : Own w1 5 v1 (((bs ++ pre) ++ [UInt8.ofNat (m % 128 + 128)]).map bv) := by simpa using hown1
      have hA := hwr.append ((Turn.refl _ _).alloc _) hown1 hgrew1 hT hfr
      obtain ⟨a1, f1⟩ := Wr.at1 (hwr.turn_no ((Turn.refl _ _).alloc _)) hgrew1
      obtain ⟨ad, ln, cp, rfl⟩ := hown1.form
      clear hgrew1 hown1
      go_wp2_with fail
      go_roundw
      case rel =>
        obtain ⟨f', rfl, k1, k2⟩ := var_step HP.out hlt HF.out
        have hl := HL.out
        exact ⟨f', m / 128, pre ++ [UInt8.ofNat (m % 128 + 128)], _, k1, by simp; omega, by simp, by omega, k2, by rw [← List.append_assoc]; exact hA.1, hA.2.1, hA.2.2⟩
      case measure => simp [intOf]; omega
    · have hlt' : ¬ (127 : Int) < (m : Int) := by omega
      go_wp2_with (at_builtin; refine wpList_append_src rfl (.tmp 28) (.tmp 31) rfl Tryd.underlying70 Tryd.info5 rfl _ ((bs ++ pre).map bv) rfl (hwr.own.turn_no ((Turn.refl _ _).alloc _)) _ 1 (List.map bv [UInt8.ofNat m]) rfl ?src ?b ?m ?_)
      case src => exact src_byte Tryd.underlying70 wr _ _ (u64_byte m (by omega))
      case b => first | omega | (simp; omega)
      case m => first | (unfold maxLen; omega) | (simp [maxLen]; omega)
      intro v1 w1 hown1 hgrew1 _
      have hown1 : Own w1 5 v1 (((bs ++ pre) ++ [UInt8.ofNat m]).map bv) := by simpa using hown1
      have hA := hwr.append ((Turn.refl _ _).alloc _) hown1 hgrew1 hT hfr
      obtain ⟨a1, f1⟩ := Wr.at1 (hwr.turn_no ((Turn.refl _ _).alloc _)) hgrew1
      obtain ⟨ad, ln, cp, rfl⟩ := hown1.form
      clear hgrew1 hown1
      go_wp2_with fail
      go_end0
      rw [List.append_assoc, var_last HP.out hlt] at hA
      exact ⟨rfl, _, hA⟩

theorem eql25_nil (a : Option Addr) (n c : Nat) (w : World) : (binOp .eql 70 (.slice a n c) (.slice none 0 0)).run Tryd.prog w = .ok (.bool a.isNone) w := by
  have h : ∀ d : Nat, (Op.equalIn (d + 1) 70 (.slice a n c) (.slice none 0 0)).run Tryd.prog w = .ok a.isNone w := fun d => by
    cases a <;> simp [Op.equalIn, run_underlying Tryd.underlying70]
  simp only [binOp]
  simp [Op.equal, Op.maxDepth, h 9999]

attribute [local go_sem] eql25_nil

set_option maxRecDepth 100000 in
set_option maxHeartbeats 1000000 in
theorem clone_any (w : World) (v : Value) (bs : List UInt8) (hb : Bs w v bs) (hle : bs.length ≤ 140737488355328) :
    Calls Tryd.prog 110 #[v] w fun e w' => ∃ v', e = .returned v' ∧ Own w' 5 v' (bs.map bv) ∧ (∀ g, v'.ownBlock = some g → w.heap.size ≤ g) ∧ Turn no w w' := by
  have hm : maxLen = 9223372036854775807 := by unfold maxLen; omega
  rcases hb with ⟨rfl, rfl⟩ | ⟨a, c, rfl, hc⟩
  · go_enter Tryd.func110, Tryd.ntmps110
    go_wp2
    go_ret
    exact ⟨_, rfl, Own.nil _ _, fun g q => (by cases q), Turn.refl _ _⟩
  · have hb : Bs w (.slice (some a) bs.length c) bs := Or.inr ⟨a, c, rfl, hc⟩
    clear hc
    go_enter Tryd.func110, Tryd.ntmps110
    go_wp2_with (at_builtin; refine wpList_append_src rfl (.tmp 5) (.tmp 6) rfl Tryd.underlying70 Tryd.info5 rfl _ [] rfl (own_empty _ _) _ bs.length (bs.map bv) rfl ?src ?b ?m ?_)
    case src => exact Bs.src Tryd.underlying70 (hb.turn_no ((Turn.refl _ _).alloc _))
    case b => first | omega | (simp; omega)
    case m => simp [hm]; omega
    intro v1 w1 hown1 hgrew1 _
    have hown1 : Own w1 5 v1 (bs.map bv) := hown1
    have hf0 : ∀ g, (Value.slice (some ⟨w.heap.size, 0, none⟩) 0 0).ownBlock = some g → w.heap.size ≤ g := fun g q => by cases q; exact Nat.le_refl _
    have hT1 : Turn no w w1 := ((Turn.refl _ _).alloc _).fresh hgrew1 hf0
    have hf1 := hgrew1.fresh hf0 (by simp)
    obtain ⟨ad, ln, cp, rfl⟩ := hown1.form
    clear hgrew1 hf0
    go_wp2_with fail
    go_ret
    exact ⟨_, rfl, hown1, hf1, hT1⟩

set_option maxRecDepth 100000 in
set_option maxHeartbeats 1000000 in
theorem out_made (w : World) (p : Nat) (v : Value) (bs : List UInt8) (h : Wr w p v bs 0) (hle : bs.length ≤ 140737488355328) :
    Calls Tryd.prog 91 #[.pointer (some ⟨p, 0, none⟩)] w fun e w' => ∃ v', e = .returned (.tuple #[v', .int .i64 0]) ∧ Own w' 5 v' (bs.map bv) ∧ (∀ g, v'.ownBlock = some g → w.heap.size ≤ g) ∧ Turn no w w' := by
  have hfault := h.fault
  have c1 := h.c1
  have hb := h.own.bs
  obtain ⟨ad, ln, cp, hv⟩ := h.own.form
  subst hv
  go_enter Tryd.func91, Tryd.ntmps91
  go_wp2_with (first | (go_at_call 96; refine (fault_any _ _ _ hfault).mono ?_; rintro e w' ⟨rfl, rfl⟩) | (go_at_call 110; refine (clone_any _ _ bs hb hle).mono ?_; rintro e w' ⟨v', rfl, k1, k2, k3⟩; obtain ⟨ad', ln', cp', rfl⟩ := k1.form))
  go_ret2
  exact ⟨_, rfl, k1, k2, k3⟩

set_option maxRecDepth 100000 in
set_option maxHeartbeats 1000000 in
theorem out_fault (w : World) (v : Value) (e0 : Int) (h : Fault w v e0) (h0 : (e0 != 0) = true) :
    Calls Tryd.prog 91 #[v] w fun e w' => e = .returned (.tuple #[.slice none 0 0, .int .i64 e0]) ∧ w = w' := by
  go_enter Tryd.func91, Tryd.ntmps91
  go_wp2_with (first | (go_at_call 96; refine (fault_any _ _ _ h).mono ?_; rintro e w' ⟨rfl, rfl⟩))
  go_ret2
  exact ⟨rfl, rfl⟩

set_option maxRecDepth 100000 in
set_option maxHeartbeats 1000000 in
theorem newWriter_any (w : World) :
    Calls Tryd.prog 90 #[] w fun e w' => e = .returned (.pointer (some ⟨w.heap.size, 0, none⟩)) ∧ Wr w' w.heap.size (.slice none 0 0) [] 0 ∧ Turn no w w' := by
  go_enter Tryd.func90, Tryd.ntmps90
  go_wp2
  go_ret
  exact ⟨rfl, ⟨heap_alloc_new w _, Own.nil _ _, fun g q => by cases q⟩, (Turn.refl _ _).alloc _⟩

end Go.Proofs.YtgimecdmleofeaaDoor


