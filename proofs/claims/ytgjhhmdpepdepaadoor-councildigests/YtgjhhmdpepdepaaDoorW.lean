/- The Writer: New, U64, Out. -/
import Derived.Test.YtgjhhmdpepdepaaDoorE6
import Derived.Test.YtgjhhmdpepdepaaDoorRows
import Derived.Deep.RegionLaw
namespace Go.Proofs.YtgjhhmdpepdepaaDoor
open Go.RowKit
set_option linter.unusedVariables false

theorem some65 : (Tryd.prog.info? 66).isSome = true := by kernel_rfl
theorem neq50_same (a : Addr) (w : World) : (binOp .neq 53 (.pointer (some a)) (.pointer (some a))).run Tryd.prog w = .ok (.bool false) w := by
  obtain ⟨j, hj⟩ := Option.isSome_iff_exists.1 some65
  exact Lib.run_neq_ptr_same w a Tryd.underlying53 hj
theorem neq50_nil (a : Addr) (w : World) : (binOp .neq 53 (.pointer none) (.pointer (some a))).run Tryd.prog w = .ok (.bool true) w := by
  have h : ∀ d : Nat, (Op.equalIn (d + 1) 53 (.pointer none) (.pointer (some a))).run Tryd.prog w = .ok false w := fun d => by
    simp [Op.equalIn, run_underlying Tryd.underlying53]
  simp only [binOp]
  simp [Op.equal, Op.maxDepth, h 9999]
attribute [local go_sem] neq50_same neq50_nil

/-- What 'fault' answers of a Writer: no Writer, one that was not made, one with this error. -/
def Fault (w : World) (v : Value) (e : Int) : Prop :=
  (v = .pointer none ∧ e = 1) ∨ (∃ p, v = .pointer (some ⟨p, 0, none⟩) ∧ w.cell? ⟨p, 0, none⟩ = some (.pointer none) ∧ e = 1) ∨
  (∃ p, v = .pointer (some ⟨p, 0, none⟩) ∧ w.cell? ⟨p, 0, none⟩ = some (.pointer (some ⟨p, 0, none⟩)) ∧ w.cell? ⟨p, 2, none⟩ = some (.int .i64 e))

set_option maxRecDepth 100000 in
set_option maxHeartbeats 400000 in
theorem fault_any (w : World) (v : Value) (e0 : Int) (h : Fault w v e0) :
    Calls Tryd.prog 34 #[v] w fun e w' => e = .returned (.int .i64 e0) ∧ w = w' := by
  rcases h with ⟨rfl, rfl⟩ | ⟨p, rfl, h0, rfl⟩ | ⟨p, rfl, h0, h2⟩
  all_goals
    go_enter Tryd.func34, Tryd.ntmps34
    go_wp2
    go_ret
    exact ⟨rfl, rfl⟩

theorem own_empty (w : World) (e : TypeId) : Own (w.alloc (.cells #[] e)) e (.slice (some ⟨w.heap.size, 0, none⟩) 0 0) [] :=
  Own.of (xs := []) (heap_alloc_new w _) (Nat.le_refl _) (Nat.zero_le _) rfl rfl

theorem cells_set {w : World} {g : Nat} {cur : Array Value} {e : TypeId} (k : Nat) (u : Value) (hg : w.heap[g]? = some (.cells cur e (0, 0))) : (w.setCell ⟨g, k, none⟩ u).heap[g]? = some (.cells (cur.setIfInBounds k u) e (0, 0)) :=
  heap_setCell_same w g k cur e u hg

/-- A Writer that NewWriter made. -/
structure Wr (w : World) (p : Nat) (v : Value) (bs : List UInt8) (e : Int) : Prop where
  blk : w.heap[p]? = some (.cells #[.pointer (some ⟨p, 0, none⟩), v, .int .i64 e] 66 (0, 0))
  own : Own w 5 v (bs.map bv)
  ne : ∀ g, v.ownBlock = some g → g ≠ p

section
variable {w : World} {p : Nat} {v : Value} {bs : List UInt8} {e : Int}
theorem Wr.c0 (h : Wr w p v bs e) : w.cell? ⟨p, 0, none⟩ = some (.pointer (some ⟨p, 0, none⟩)) := by rw [cell_of_row w p 0 _ 66 (0, 0) h.blk]; rfl
theorem Wr.c1 (h : Wr w p v bs e) : w.cell? ⟨p, 1, none⟩ = some v := by rw [cell_of_row w p 1 _ 66 (0, 0) h.blk]; rfl
theorem Wr.c2 (h : Wr w p v bs e) : w.cell? ⟨p, 2, none⟩ = some (.int .i64 e) := by rw [cell_of_row w p 2 _ 66 (0, 0) h.blk]; rfl
theorem Wr.f (h : Wr w p v bs e) (j : Nat) : w.frozen? ⟨p, j, none⟩ = false := frozen_of_row w p j _ 66 h.blk
theorem Wr.fault (h : Wr w p v bs e) : Fault w (.pointer (some ⟨p, 0, none⟩)) e := Or.inr (Or.inr ⟨p, rfl, h.c0, h.c2⟩)
theorem Wr.lt (h : Wr w p v bs e) : p < w.heap.size := lt_of_obj h.blk

/-- The blocks of a Writer. -/
def wfoot (p : Nat) (v : Value) : Nat → Prop := fun k => k = p ∨ v.ownBlock = some k

theorem Wr.turn {S : Nat → Prop} {w' : World} (h : Wr w p v bs e) (ht : Turn S w w') (hn : ∀ k, wfoot p v k → ¬ S k) : Wr w' p v bs e :=
  ⟨ht.obj h.blk (hn p (Or.inl rfl)), h.own.turn ht (fun g hg => hn g (Or.inr hg)), h.ne⟩

theorem Wr.turn_no {w' : World} (h : Wr w p v bs e) (ht : Turn no w w') : Wr w' p v bs e := h.turn ht (fun _ _ q => q)

/-- The new row is stored. -/
theorem Wr.stored {w1 : World} {v' : Value} {news : List UInt8} (h : Wr w p v bs e) (hown : Own w1 5 v' ((bs ++ news).map bv)) (hg : Grew w w1 v v') : Wr (w1.setCell ⟨p, 1, none⟩ v') p v' (bs ++ news) e := by
  have hblk : w1.heap[p]? = some (.cells #[.pointer (some ⟨p, 0, none⟩), v, .int .i64 e] 66 (0, 0)) := hg.turn.obj h.blk (fun q => h.ne p q rfl)
  have hne : ∀ g, v'.ownBlock = some g → g ≠ p := by
    intro g q
    rcases hg.blk with r | ⟨g', r, h1, _⟩
    · exact h.ne g (by rw [← r]; exact q)
    · rw [r] at q; cases q; have := h.lt; omega
  refine ⟨?_, hown.turn (S := fun k => k = p) ((Turn.refl (fun k => k = p) w1).setCell (p := ⟨p, 1, none⟩) (fun _ => rfl) v') (fun g q => hne g q), hne⟩
  have := cells_set 1 v' hblk
  simpa using this
end

/-- Where a Writer's row goes. -/
def Near (w : World) (v v' : Value) : Prop := v'.ownBlock = v.ownBlock ∨ ∃ g, v'.ownBlock = some g ∧ w.heap.size ≤ g

theorem Near.grew {w wa w1 : World} {v0 v v' : Value} (h : Near w v0 v) (hg : Grew wa w1 v v') (hs : w.heap.size ≤ wa.heap.size) : Near w v0 v' := by
  rcases hg.blk with q | ⟨g, q, h1, _⟩
  · unfold Near; rw [q]; exact h
  · exact Or.inr ⟨g, q, by omega⟩

/-- One append and one store: the Writer behind it. -/
theorem Wr.append {w wr wa w1 : World} {p : Nat} {v0 v v' : Value} {bs news : List UInt8} {e : Int} (h : Wr wr p v bs e) (ha : Turn no wr wa) (hown : Own w1 5 v' ((bs ++ news).map bv)) (hg : Grew wa w1 v v') (hT : Turn (wfoot p v0) w wr) (hn : Near w v0 v) :
    Wr (w1.setCell ⟨p, 1, none⟩ v') p v' (bs ++ news) e ∧ Turn (wfoot p v0) w (w1.setCell ⟨p, 1, none⟩ v') ∧ Near w v0 v' := by
  have hwa := h.turn_no ha
  refine ⟨hwa.stored hown hg, ?_, hn.grew hg (Nat.le_trans hT.size ha.size)⟩
  refine ((hT.then_no ha).grown hg.grown (fun k q hk => ?_)).setCell (fun _ => Or.inl rfl) _
  rcases hn with r | ⟨g, r, h1⟩
  · rw [r] at q; exact Or.inr q
  · rw [r] at q; cases q; omega

theorem Wr.at1 {wa w1 : World} {p : Nat} {v v' : Value} {bs : List UInt8} {e : Int} (h : Wr wa p v bs e) (hg : Grew wa w1 v v') : w1.cell? ⟨p, 1, none⟩ = some v ∧ w1.frozen? ⟨p, 1, none⟩ = false := by
  have hblk := hg.turn.obj h.blk (fun q => h.ne p q rfl)
  exact ⟨by rw [cell_of_row w1 p 1 _ 66 (0, 0) hblk]; rfl, frozen_of_row w1 p 1 _ 66 hblk⟩

theorem eql25_nil (a : Option Addr) (n c : Nat) (w : World) : (binOp .eql 43 (.slice a n c) (.slice none 0 0)).run Tryd.prog w = .ok (.bool a.isNone) w := by
  have h : ∀ d : Nat, (Op.equalIn (d + 1) 43 (.slice a n c) (.slice none 0 0)).run Tryd.prog w = .ok a.isNone w := fun d => by
    cases a <;> simp [Op.equalIn, run_underlying Tryd.underlying43]
  simp only [binOp]
  simp [Op.equal, Op.maxDepth, h 9999]

attribute [local go_sem] eql25_nil

set_option maxRecDepth 100000 in
set_option maxHeartbeats 1000000 in
theorem clone_any (w : World) (v : Value) (bs : List UInt8) (hb : Bs w v bs) (hle : bs.length ≤ 140737488355328) :
    Calls Tryd.prog 35 #[v] w fun e w' => ∃ v', e = .returned v' ∧ Own w' 5 v' (bs.map bv) ∧ (∀ g, v'.ownBlock = some g → w.heap.size ≤ g) ∧ Turn no w w' := by
  have hm : maxLen = 9223372036854775807 := by unfold maxLen; omega
  rcases hb with ⟨rfl, rfl⟩ | ⟨a, c, rfl, hc⟩
  · go_enter Tryd.func35, Tryd.ntmps35
    go_wp2
    go_ret
    exact ⟨_, rfl, Own.nil _ _, fun g q => (by cases q), Turn.refl _ _⟩
  · have hb : Bs w (.slice (some a) bs.length c) bs := Or.inr ⟨a, c, rfl, hc⟩
    clear hc
    go_enter Tryd.func35, Tryd.ntmps35
    go_wp2_with (at_builtin; refine wpList_append_src rfl (.tmp 5) (.tmp 6) rfl Tryd.underlying43 Tryd.info5 rfl _ [] rfl (own_empty _ _) _ bs.length (bs.map bv) rfl ?src ?b ?m ?_)
    case src => exact Bs.src Tryd.underlying43 (hb.turn_no ((Turn.refl _ _).alloc _))
    case b => first | omega | (simp; omega)
    case m => simp [hm]; omega
    intro v1 w1 hown1 hgrew1 _
    have hown1 : Own w1 5 v1 (bs.map bv) := hown1
    have hf0 : ∀ g, (Value.slice (some ⟨w.heap.size, 0, none⟩) 0 0).ownBlock = some g → w.heap.size ≤ g := fun g q => by cases q; exact Nat.le_refl _
    have hT1 : Turn no w w1 := ((Turn.refl _ _).alloc _).fresh hgrew1 hf0
    have hf1 := hgrew1.fresh hf0 (by simp)
    obtain ⟨ad, ln, cp, rfl⟩ := hown1.form
    clear hgrew1 hf0
    go_wp2_with fail
    go_ret
    exact ⟨_, rfl, hown1, hf1, hT1⟩

set_option maxRecDepth 100000 in
set_option maxHeartbeats 1000000 in
theorem out_made (w : World) (p : Nat) (v : Value) (bs : List UInt8) (h : Wr w p v bs 0) (hle : bs.length ≤ 140737488355328) :
    Calls Tryd.prog 22 #[.pointer (some ⟨p, 0, none⟩)] w fun e w' => ∃ v', e = .returned (.tuple #[v', .int .i64 0]) ∧ Own w' 5 v' (bs.map bv) ∧ (∀ g, v'.ownBlock = some g → w.heap.size ≤ g) ∧ Turn no w w' := by
  have hfault := h.fault
  have c1 := h.c1
  have hb := h.own.bs
  obtain ⟨ad, ln, cp, hv⟩ := h.own.form
  subst hv
  go_enter Tryd.func22, Tryd.ntmps22
  go_wp2_with (first | (go_at_call 34; refine (fault_any _ _ _ hfault).mono ?_; rintro e w' ⟨rfl, rfl⟩) | (go_at_call 35; refine (clone_any _ _ bs hb hle).mono ?_; rintro e w' ⟨v', rfl, k1, k2, k3⟩; obtain ⟨ad', ln', cp', rfl⟩ := k1.form))
  go_ret2
  exact ⟨_, rfl, k1, k2, k3⟩

set_option maxRecDepth 100000 in
set_option maxHeartbeats 1000000 in
theorem newWriter_any (w : World) :
    Calls Tryd.prog 20 #[] w fun e w' => e = .returned (.pointer (some ⟨w.heap.size, 0, none⟩)) ∧ Wr w' w.heap.size (.slice none 0 0) [] 0 ∧ Turn no w w' := by
  go_enter Tryd.func20, Tryd.ntmps20
  go_wp2
  go_ret
  exact ⟨rfl, ⟨heap_alloc_new w _, Own.nil _ _, fun g q => by cases q⟩, (Turn.refl _ _).alloc _⟩


/-- append, as one step of a region that draws its order. -/
theorem step_append_src {P : Program} {ops : Array Oper} {o : Oper} {a : Act} {w : World} {K : Act → World → Prop} {Q : Exit → Act → World → Prop} {E : Prop} (hgd : o.guard = none) (s x : Operand) {t tx e : TypeId} {z : Value} {bytes : Nat}
    (ho : o.op = .call { callee := .builtin .append, args := #[s, x], argTypes := #[t, tx] })
    (ht : P.underlying t = some (.slice e)) (hinf : (P.info? e).map (fun i => (i.zero, i.size, i.bytes)) = some (some z, 1, bytes)) (hz : z.cells.size = 1)
    (v : Value) (xs : List Value) (hs : a.eval s = v) (hown : Own w e v xs) (xv : Value) (n : Nat) (news : List Value) (hx : a.eval x = xv) (hsrc : Src P 1 tx xv n news w)
    (hb : (xs.length + n) * bytes ≤ 140737488355328) (hm : xs.length + n ≤ maxLen)
    (hK : ∀ v' w', Own w' e v' (xs ++ news) → Grew w w' v v' → K (a.put o.dst v') w') :
    if Region.wanted o (yielded ops a.tmps) = true then Oper.wp P o a w K Q else E := by
  have hw : Region.wanted o (yielded ops a.tmps) = true := by simp [Region.wanted, hgd]
  rw [if_pos hw]
  obtain ⟨v', w', hr, h2, h3, h4⟩ := run_append_src (P := P) ht hinf hz o.type w v xs hown xv n news hsrc hb hm
  unfold Oper.wp
  simp [execOp, ho, resolve, invoke, builtin, hs, hx, hr, Result.andThen]
  exact hK v' w' h2 h3

/-- The lowest bytes of a number. -/
def leB (n k : Nat) : List UInt8 := (List.range k).map fun j => UInt8.ofNat (n / 256 ^ j)

theorem leB_succ (n k : Nat) : leB n (k + 1) = leB n k ++ [UInt8.ofNat (n / 256 ^ k)] := by
  unfold leB
  rw [List.range_succ, List.map_append]
  rfl
theorem leB_length (n k : Nat) : (leB n k).length = k := by simp [leB]

theorem wrap8 (k : Nat) (hk : k < 8) : IntKind.i64.wrap (8 * (k : Int)) = 8 * (k : Int) := by rw [IntKind.wrap_i64]; omega

theorem shr_byte (n k : Nat) : IntKind.u8.wrap ((n : Int) / 2 ^ (8 * (k : Int)).toNat) = ((UInt8.ofNat (n / 256 ^ k)).toNat : Int) := by
  have e1 : (8 * (k : Int)).toNat = 8 * k := by omega
  have e2 : (2 : Int) ^ (8 * k) = ((256 ^ k : Nat) : Int) := by
    rw [Int.pow_mul]
    simp
  rw [e1, e2, IntKind.wrap_u8]
  simp

set_option maxRecDepth 100000 in
set_option maxHeartbeats 2000000 in
theorem fixed_made (w : World) (p : Nat) (v : Value) (bs : List UInt8) (n wd : Nat) (hn : n < 18446744073709551616) (hwd : wd ≤ 8) (h : Wr w p v bs 0) (hle : bs.length + 10 ≤ 140737488355328) :
    Calls Tryd.prog 33 #[.pointer (some ⟨p, 0, none⟩), .int .u64 n, .int .i64 wd] w fun e w' => e = .returned (.tuple #[]) ∧ ∃ v', Wr w' p v' (bs ++ leB n wd) 0 ∧ Turn (wfoot p v) w w' ∧ Near w v v' := by
  have hfault := h.fault
  go_enter Tryd.func33, Tryd.ntmps33
  go_wp2_with (go_at_call 34; refine (fault_any _ _ _ hfault).mono ?_; rintro e w' ⟨rfl, rfl⟩)
  go_loopw [11] (fun c wr => ∃ (k : Nat) (v' : Value), k ≤ wd ∧ c = .int .i64 k ∧ Wr wr p v' (bs ++ leB n k) 0 ∧ Turn (wfoot p v) w wr ∧ Near w v v') (fun c _ => wd - (intOf c).toNat)
  case atStart => exact ⟨0, v, Nat.zero_le _, rfl, by simpa [leB] using h, Turn.refl _ _, Or.inl rfl⟩
  case round =>
    obtain ⟨k, v', hk, rfl, hwr, hT, hfr⟩ := hrel
    by_cases hlt : k < wd
    · have hlt' : (k : Int) < (wd : Int) := by omega
      have c1 := hwr.c1
      have hw1 := wrap8 k (by omega)
      have hl := leB_length n k
      have hpl := hwr.lt
      go_wp2_with fail
      go_region_law (refine step_append_src rfl (.tmp 18) (.tmp 24) rfl Tryd.underlying43 Tryd.info5 rfl v' ((bs ++ leB n k).map bv) (by simp [Act.eval]) (hwr.own.turn_no (((Turn.refl no wr).drew).alloc _)) _ 1 (List.map bv [UInt8.ofNat (n / 256 ^ k)]) (by simp [Act.eval]) (src_byte Tryd.underlying43 wr.drew _ _ (shr_byte n k)) (by simp; omega) (by simp [maxLen]; omega) ?_; intro v1 w1 hown1 hgrew1; have hown2 : Own w1 5 v1 (((bs ++ leB n k) ++ [UInt8.ofNat (n / 256 ^ k)]).map bv) := by simpa using hown1
                     have hA := hwr.append (((Turn.refl no wr).drew).alloc _) hown2 hgrew1 hT hfr
                     obtain ⟨a1, f1⟩ := Wr.at1 (hwr.turn_no (((Turn.refl no wr).drew).alloc _)) hgrew1
                     obtain ⟨ad, ln, cp, rfl⟩ := hown2.form
                     clear hgrew1 hown1)
      all_goals
        go_wp2_with fail
        go_roundw
        case rel => exact ⟨k + 1, _, by omega, by go_num, by rw [leB_succ, ← List.append_assoc]; exact hA.1, hA.2.1, hA.2.2⟩
        case measure => simp [intOf]; omega
    · have hlt' : ¬ (k : Int) < (wd : Int) := by omega
      have : k = wd := by omega
      subst this
      go_wp2_with fail
      go_end0
      exact ⟨rfl, _, hwr, hT, hfr⟩

/-- What laying bytes down does. -/
def Laid (w : World) (p : Nat) (v : Value) (bs : List UInt8) (e : Int) (w' : World) : Prop := ∃ v', Wr w' p v' bs e ∧ Turn (wfoot p v) w w' ∧ Near w v v'

theorem Laid.refl {w : World} {p : Nat} {v : Value} {bs : List UInt8} {e : Int} (h : Wr w p v bs e) : Laid w p v bs e w := ⟨v, h, Turn.refl _ _, Or.inl rfl⟩

theorem near_turn {w w1 w2 : World} {p : Nat} {v v1 : Value} (h1 : Turn (wfoot p v) w w1) (n1 : Near w v v1) (h2 : Turn (wfoot p v1) w1 w2) : Turn (wfoot p v) w w2 :=
  h1.trans h2 (fun i hi q => by
    rcases q with q | q
    · exact Or.inl q
    · rcases n1 with r | ⟨g, r, hg⟩
      · rw [r] at q; exact Or.inr q
      · rw [r] at q; cases q; omega)

theorem near_near {w w1 : World} {v v1 v2 : Value} (hs : w.heap.size ≤ w1.heap.size) (n1 : Near w v v1) (n2 : Near w1 v1 v2) : Near w v v2 := by
  rcases n2 with r | ⟨g, r, hg⟩
  · unfold Near; rw [r]; exact n1
  · exact Or.inr ⟨g, r, by omega⟩

set_option maxRecDepth 100000 in
set_option maxHeartbeats 1000000 in
theorem wu64_made (w : World) (p : Nat) (v : Value) (bs : List UInt8) (h : Wr w p v bs 0) (n : Nat) (hn : n < 18446744073709551616) (hle : bs.length + 10 ≤ 140737488355328) :
    Calls Tryd.prog 21 #[.pointer (some ⟨p, 0, none⟩), .int .u64 n] w fun e w' => e = .returned (.tuple #[]) ∧ Laid w p v (bs ++ leB n 8) 0 w' := by
  go_enter Tryd.func21, Tryd.ntmps21
  go_wp2_with (go_at_call 33; refine (fixed_made _ _ _ bs n 8 hn (by omega) h hle).mono ?_; rintro e w' ⟨rfl, k1⟩)
  go_end0
  exact ⟨rfl, k1⟩

end Go.Proofs.YtgjhhmdpepdepaaDoor
