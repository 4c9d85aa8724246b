/- Seats, of whatever accounts. -/
import Derived.Test.YtbhimedajfkioaaLD2
import Derived.Maps.OwnSet
namespace Go.Proofs.Ytbhimedajfkioaa
open Go.RowKit Go.Maps
set_option linter.unusedVariables false

theorem law35 : Keyed Try.prog 32 := int_keyed Try.underlying32
def heldElem (v : Value) : Option (DataW Value × List MemPlace) := some (.held v, [])
theorem zero23 (w : World) : (zeroValue 25).run Try.prog w = .ok (.int .u64 0) w := by kernel_rfl
theorem mapTurn {w w' : World} {b : Nat} (h : w.mapTurned w' b) : Turn (fun k => k = b) w w' :=
  (Turn.refl _ w).grown h.grown (fun k q _ => (Option.some.inj q).symm)
theorem ownsMap_turn {S : Nat → Prop} {w w' : World} {k : TypeId} {R : Value → Option (DataW Value × List MemPlace)} {b n : Nat} {D : DataW Value} (h : w.ownsMap Try.prog k R b n D) (t : Turn S w w') (hn : ¬ S b) : w'.ownsMap Try.prog k R b n D := by
  obtain ⟨es, clock, hb, r⟩ := h
  exact ⟨es, clock, t.obj hb hn, r⟩
theorem key35 (n : Nat) (h : n < 18446744073709551616) : keyOf Try.prog 32 (.int .u64 (n : Int)) = some (.int .u64 n) := keyOf_int_mk Try.underlying32 (by
  simp only [Lit.wf, Bool.and_eq_true, decide_eq_true_eq]
  constructor
  · rw [show IntKind.u64.min = 0 by decide]; omega
  · rw [show IntKind.u64.max = 18446744073709551615 by decide]; omega)
theorem info37 : (Try.prog.info? 71).map (fun i => (i.zero, i.size, i.bytes)) = some (some (.agg #[.int .u64 0, .int .u64 0, .int .i64 0]), 3, 24) := by kernel_rfl
/-- A member's cells. -/
def meC (l : List Ac) : List Value := l.flatMap (fun m => [.int .u64 m.ad, .int .u64 m.bond, .int .i64 0])
theorem src_mem (W : World) (m : Ac) : Src Try.prog 3 22 (.slice (some ⟨W.heap.size, 0, none⟩) 1 1) 1 (meC [m]) (W.alloc (.cells #[.int .u64 m.ad, .int .u64 m.bond, .int .i64 0] 71)) := by
  refine Src.ofSlice _ Try.underlying22 _ 1 1 _ rfl (fun j u hu => ?_) (fun u hu => ?_)
  · rw [Addr.add_lit, Nat.zero_add]
    exact (cell_of_row _ _ j _ 71 (0, 0) (heap_alloc_new W _)).trans (by simpa [meC] using hu)
  · simp [meC] at hu
    rcases hu with rfl | rfl | rfl <;> rfl
theorem held_inv {v : Value} {d : DataW Value} {ps : List MemPlace} (h : heldElem v = some (d, ps)) : d = .held v := by simp [heldElem] at h; exact h.1.symm
/-- The map of bonds. -/
def mapOf (l : List Ac) : DataW Value := l.foldl (fun D m => D.put (.int .u64 m.ad) (.held (.int .u64 m.bond))) (.map [])
theorem mapOf_snoc (l : List Ac) (m : Ac) : mapOf (l ++ [m]) = (mapOf l).put (.int .u64 m.ad) (.held (.int .u64 m.bond)) := by simp [mapOf]
theorem rev_ind {p : List Ac → Prop} (h0 : p []) (h1 : ∀ l m, p l → p (l ++ [m])) (l : List Ac) : p l := by
  rw [← List.reverse_reverse l]
  induction l.reverse with
  | nil => exact h0
  | cons m r ih => rw [List.reverse_cons]; exact h1 _ _ ih
theorem isMap_of (l : List Ac) : IsMap (mapOf l) := by
  refine rev_ind (p := fun l => IsMap (mapOf l)) ⟨_, rfl⟩ (fun l m ih => ?_) l
  rw [mapOf_snoc]
  obtain ⟨es, h⟩ := ih
  rw [h]
  exact ⟨_, rfl⟩
theorem keyLit (n : Nat) : WideAt.IsKeyLit (.int .u64 (n : Int)) := by trivial
theorem has_of (x : Nat) (l : List Ac) : has (mapOf l) (.int .u64 (x : Int)) = l.any (fun m => decide (m.ad = x)) := by
  refine rev_ind (p := fun l => has (mapOf l) (.int .u64 (x : Int)) = l.any (fun m => decide (m.ad = x))) rfl (fun l m ih => ?_) l
  · rw [mapOf_snoc, List.any_append, List.any_cons, List.any_nil, Bool.or_false]
    by_cases h : m.ad = x
    · subst h
      rw [has_put_same (isMap_of l) (keyLit _)]
      simp
    · rw [has_put_other (by simp; omega), ih]
      simp [h]
theorem at_of (m : Ac) (l : List Ac) (z : DataW Value) (hm : m ∈ l) (hd : ∀ x ∈ l, x.ad = m.ad → x = m) : (mapOf l).atKey (.int .u64 (m.ad : Int)) z = .held (.int .u64 m.bond) := by
  revert hm hd
  refine rev_ind (p := fun l => m ∈ l → (∀ x ∈ l, x.ad = m.ad → x = m) → (mapOf l).atKey (.int .u64 (m.ad : Int)) z = .held (.int .u64 m.bond)) (fun hm _ => by cases hm) (fun l x ih hm hd => ?_) l
  · rw [mapOf_snoc]
    by_cases h : x.ad = m.ad
    · have := hd x (by simp) h
      subst this
      rw [atKey_put_same (isMap_of l) (keyLit _)]
    · rw [atKey_put_other (by simp; omega)]
      refine ih ?_ (fun y hy => hd y (by simp [hy]))
      rcases List.mem_append.1 hm with q | q
      · exact q
      · simp at q; subst q; exact absurd rfl h
/-- How many seats are taken. -/
def cnt (st : Int) (n : Nat) : Nat := (max 0 (min (min st 64) (n : Int))).toNat
theorem cnt_le (st : Int) (n : Nat) : cnt st n ≤ n := by unfold cnt; omega
theorem meC_append (l m : List Ac) : meC (l ++ m) = meC l ++ meC m := by simp [meC]
theorem meC_len (l : List Ac) : (meC l).length = l.length * 3 := by
  induction l with
  | nil => rfl
  | cons m r ih => simp only [meC, List.flatMap_cons, List.length_append, List.length_cons, List.length_nil] at ih ⊢; omega
/-- Who sits: of all accounts those whose address is among the first of the sorted rivals. -/
def sitB (q : List Ac) (m : Ac) : Bool := q.any (fun x => decide (x.ad = m.ad))
end Go.Proofs.Ytbhimedajfkioaa
