/- The book of what was handed out; note. -/
import Derived.Test.YtfjdojodbhmmaaaX3
import Derived.Deep.RegionLaw
import Derived.Test.YtfjdojodbhmmaaaX4
import Derived.Deep.CutRange
import Derived.Deep.RegionHeld3
namespace Go.Proofs.Ytfjdojodbhmmaaa
open Go.RowKit
set_option linter.unusedVariables false

/-- One answer: as it was handed out, what it must be, the one that was turned; its bytes, its mark. -/
structure En where
  g : Value
  w : Value
  n : Value
  W : List UInt8
  m : UInt8
structure Kv where
  g : Value
  w : Value
  n : Value
  m : Value
def kfoot (p : Nat) (k : Kv) (x : Nat) : Prop := x = p ∨ k.g.ownBlock = some x ∨ k.w.ownBlock = some x ∨ k.n.ownBlock = some x ∨ k.m.ownBlock = some x
def eblk (x : En) (b : Nat) : Prop := x.g.ownBlock = some b ∨ x.w.ownBlock = some b ∨ x.n.ownBlock = some b
structure Kb (w : World) (p : Nat) (k : Kv) (Es : List En) : Prop where
  blk : w.heap[p]? = some (.cells #[k.g, k.w, k.n, k.m] 58 (0, 0))
  og : Own w 25 k.g (Es.map (·.g))
  ow : Own w 25 k.w (Es.map (·.w))
  on : Own w 25 k.n (Es.map (·.n))
  om : Own w 5 k.m (Es.map fun x => bv x.m)
  gw : ∀ x, k.g.ownBlock = some x → k.w.ownBlock ≠ some x
  gn : ∀ x, k.g.ownBlock = some x → k.n.ownBlock ≠ some x
  wn : ∀ x, k.w.ownBlock = some x → k.n.ownBlock ≠ some x
  each : ∀ x ∈ Es, Bs w x.g x.W ∧ Bs w x.w x.W ∧ Bs w x.n (gro x.W x.m)
  out : ∀ x ∈ Es, ∀ b, eblk x b → ¬ kfoot p k b
  lt : ∀ x ∈ Es, ∀ b, eblk x b → b < w.heap.size
/-- The mark behind so many. -/
def markOf (n : Nat) : UInt8 := UInt8.ofNat (1 + n % 250)
theorem info25 : (Try.prog.info? 25).map (fun i => (i.zero, i.size, i.bytes)) = some (some (.slice none 0 0), 1, 24) := by kernel_rfl
theorem src_one {P : Program} {tx e' e : TypeId} (hk : P.underlying tx = some (.slice e')) (w : World) (u : Value) (hu : u.oneCell' = true) : Src P 1 tx (.slice (some ⟨w.heap.size, 0, none⟩) 1 1) 1 [u] (w.alloc (.cells #[u] e)) :=
  Src.ofSlice _ hk _ _ _ _ (by simp) (fun j x hx => by
    have h0 : (w.alloc (.cells #[u] e)).heap[w.heap.size]? = some (.cells #[u] e (0, 0)) := heap_alloc_new w _
    have := cell_of_row (w.alloc (.cells #[u] e)) w.heap.size j #[u] e (0, 0) h0
    rw [Addr.add_lit, Nat.zero_add, this]
    simpa using hx) (by intro x hx; simp at hx; subst hx; exact hu)
/-- What becomes of a field of the book to which is appended. -/
structure Fd (w w2 : World) (p : Nat) (cs' : Array Value) (e : TypeId) (v v' : Value) (xs : List Value) : Prop where
  blk : w2.heap[p]? = some (.cells cs' 58 (0, 0))
  own : Own w2 e v' xs
  turn : Turn (fun k => k = p ∨ v.ownBlock = some k) w w2
  new : ∀ g, v'.ownBlock = some g → v.ownBlock = some g ∨ w.heap.size ≤ g
theorem own_off {w : World} {p : Nat} {cs : Array Value} {e t : TypeId} {v : Value} {xs : List Value} (hb : w.heap[p]? = some (.cells cs t (0, 0))) (hv : Own w e v xs) (he : e ≠ t) : v.ownBlock ≠ some p := fun q => by
  obtain ⟨c, ho⟩ := hv.obj q
  rw [hb] at ho
  cases ho
  exact he rfl
theorem own_apart {w : World} {e t : TypeId} {v u : Value} {xs ys : List Value} (hv : Own w e v xs) (hu : Own w t u ys) (he : e ≠ t) {g : Nat} (hg : v.ownBlock = some g) : u.ownBlock ≠ some g := fun q => by
  obtain ⟨c, ho⟩ := hv.obj hg
  exact own_off ho hu (Ne.symm he) q
theorem mark_val (L : Nat) : 1 + (L : Int) % 250 = ((markOf L).toNat : Int) := by
  unfold markOf
  simp
  omega
theorem Fd.of {w wa w1 : World} {p : Nat} {cs : Array Value} {e : TypeId} {v v' : Value} {xs ys : List Value} (hb : w.heap[p]? = some (.cells cs 58 (0, 0))) (hv : Own w e v xs) (he : e ≠ 58) (ha : Turn no w wa) (o1 : Own w1 e v' (xs ++ ys)) (g1 : Grew wa w1 v v') (j : Nat) (u : Value) (hu : cs[j]? = some u) :
    w1.cell? ⟨p, j, none⟩ = some u ∧ w1.frozen? ⟨p, j, none⟩ = false ∧ Fd w (w1.setCell ⟨p, j, none⟩ v') p (cs.setIfInBounds j v') e v v' (xs ++ ys) := by
  have hne := own_off hb hv he
  have hb1 : w1.heap[p]? = some (.cells cs 58 (0, 0)) := g1.turn.obj (ha.obj hb (fun q => q)) hne
  have hne' := own_off hb1 o1 he
  refine ⟨by rw [cell_of_row w1 p j cs 58 (0, 0) hb1]; exact hu, frozen_of_row w1 p j cs 58 hb1, heap_setCell_same w1 p j cs 58 v' hb1, ?_, ?_, ?_⟩
  · exact o1.turn ((Turn.refl (fun k => k = p) w1).setCell (p := ⟨p, j, none⟩) (fun _ => rfl) v') (fun g hg q => hne' (by rw [hg, q]))
  · exact ((ha.of_no.trans g1.turn (fun _ _ q => q)).mono (fun i _ q => .inr q)).setCell (p := ⟨p, j, none⟩) (fun _ => .inl rfl) v'
  · intro g hg
    rcases g1.blk with r | ⟨g', r, h1, _⟩
    · exact .inl (by rw [← r]; exact hg)
    · rw [r] at hg
      cases hg
      exact .inr (Nat.le_trans ha.size h1)
theorem note_end {w w2 w3 w5 w7 w8 w10 : World} {p : Nat} {vg vw vn vm vg1 vw1 vn1 vm1 v3 v8 a b : Value} {Es : List En} {W : List UInt8} {mm : UInt8} {cs1 cs4 cs6 : Array Value} (h : Kb w p ⟨vg, vw, vn, vm⟩ Es) (ha : Bs w a W) (hb : Own w 5 b (W.map bv))
    (ka : ∀ g, a.ownBlock = some g → ¬ kfoot p ⟨vg, vw, vn, vm⟩ g ∧ b.ownBlock ≠ some g) (kb : ∀ g, b.ownBlock = some g → ¬ kfoot p ⟨vg, vw, vn, vm⟩ g) (ke : ∀ x ∈ Es, ∀ g, eblk x g → b.ownBlock ≠ some g) (hal : ∀ g, a.ownBlock = some g → g < w.heap.size)
    (F1 : Fd w w2 p cs1 25 vg vg1 (Es.map (·.g) ++ [a])) (F3 : Fr w2 w3 v3 W) (F4 : Fd w3 w5 p cs4 25 vw vw1 (Es.map (·.w) ++ [v3])) (F6 : Fd w5 w7 p cs6 5 vm vm1 ((Es.map fun x => bv x.m) ++ [bv mm]))
    (o8 : Own w8 5 v8 ((gro W mm).map bv)) (t8 : Turn (fun k => b.ownBlock = some k) w7 w8) (n8 : Near w7 b v8) (F9 : Fd w8 w10 p #[vg1, vw1, vn1, vm1] 25 vn vn1 (Es.map (·.n) ++ [v8])) (hm : markOf Es.length = mm) :
    ∃ k' v1 v2, Kb w10 p k' (Es ++ [⟨a, v1, v2, W, markOf Es.length⟩]) ∧ Turn (fun g => kfoot p ⟨vg, vw, vn, vm⟩ g ∨ b.ownBlock = some g) w w10 ∧ (∀ g, kfoot p k' g → kfoot p ⟨vg, vw, vn, vm⟩ g ∨ w.heap.size ≤ g) ∧ (∀ g, v1.ownBlock = some g → w.heap.size ≤ g) ∧ (∀ g, v2.ownBlock = some g → b.ownBlock = some g ∨ w.heap.size ≤ g) := by
  have hpl : p < w.heap.size := lt_of_obj h.blk
  have s2 := F1.turn.size
  have s3 := F3.turn.size
  have s5 := F4.turn.size
  have s7 := F6.turn.size
  have s8 := t8.size
  have s10 := F9.turn.size
  have Bg : ∀ x, vg1.ownBlock = some x → vg.ownBlock = some x ∨ (w.heap.size ≤ x ∧ x < w2.heap.size) := fun x hx => (F1.new x hx).elim .inl (fun q => .inr ⟨q, F1.own.lt hx⟩)
  have Bw : ∀ x, vw1.ownBlock = some x → vw.ownBlock = some x ∨ (w3.heap.size ≤ x ∧ x < w5.heap.size) := fun x hx => (F4.new x hx).elim .inl (fun q => .inr ⟨q, F4.own.lt hx⟩)
  have Bm : ∀ x, vm1.ownBlock = some x → vm.ownBlock = some x ∨ (w5.heap.size ≤ x ∧ x < w7.heap.size) := fun x hx => (F6.new x hx).elim .inl (fun q => .inr ⟨q, F6.own.lt hx⟩)
  have Bn : ∀ x, vn1.ownBlock = some x → vn.ownBlock = some x ∨ w8.heap.size ≤ x := F9.new
  have B3 : ∀ x, v3.ownBlock = some x → w2.heap.size ≤ x ∧ x < w3.heap.size := fun x hx => ⟨F3.new x hx, F3.own.lt hx⟩
  have B8 : ∀ x, v8.ownBlock = some x → b.ownBlock = some x ∨ w7.heap.size ≤ x := fun x hx => by
    rcases n8 with q | ⟨g, q, hg⟩
    · exact .inl (by rw [← q]; exact hx)
    · rw [q] at hx
      cases hx
      exact .inr hg
  have lg : ∀ x, vg.ownBlock = some x → x < w.heap.size := fun x hx => h.og.lt hx
  have lw : ∀ x, vw.ownBlock = some x → x < w.heap.size := fun x hx => h.ow.lt hx
  have ln : ∀ x, vn.ownBlock = some x → x < w.heap.size := fun x hx => h.on.lt hx
  have lm : ∀ x, vm.ownBlock = some x → x < w.heap.size := fun x hx => h.om.lt hx
  have lb : ∀ x, b.ownBlock = some x → x < w.heap.size := fun x hx => hb.lt hx
  have pg : vg.ownBlock ≠ some p := own_off h.blk h.og (by decide)
  have pw : vw.ownBlock ≠ some p := own_off h.blk h.ow (by decide)
  have pn : vn.ownBlock ≠ some p := own_off h.blk h.on (by decide)
  have pm : vm.ownBlock ≠ some p := own_off h.blk h.om (by decide)
  have gm : ∀ x, vg.ownBlock = some x → vm.ownBlock ≠ some x := fun x hx => own_apart h.og h.om (by decide) hx
  have wm : ∀ x, vw.ownBlock = some x → vm.ownBlock ≠ some x := fun x hx => own_apart h.ow h.om (by decide) hx
  have nm : ∀ x, vn.ownBlock = some x → vm.ownBlock ≠ some x := fun x hx => own_apart h.on h.om (by decide) hx
  have bp : b.ownBlock ≠ some p := fun q => kb p q (.inl rfl)
  have bg : ∀ x, b.ownBlock = some x → vg.ownBlock ≠ some x := fun x hx q => kb x hx (.inr (.inl q))
  have bw : ∀ x, b.ownBlock = some x → vw.ownBlock ≠ some x := fun x hx q => kb x hx (.inr (.inr (.inl q)))
  have bn : ∀ x, b.ownBlock = some x → vn.ownBlock ≠ some x := fun x hx q => kb x hx (.inr (.inr (.inr (.inl q))))
  have bm : ∀ x, b.ownBlock = some x → vm.ownBlock ≠ some x := fun x hx q => kb x hx (.inr (.inr (.inr (.inr q))))
  -- the four lists, as they are in the end
  have og8 : Own w8 25 vg1 (Es.map (·.g) ++ [a]) := by
    refine (((F1.own.turn_no F3.turn).turn F4.turn (fun g hg q => ?_)).turn F6.turn (fun g hg q => ?_)).turn t8 (fun g hg q => ?_)
    · rcases Bg g hg with r | r <;> rcases q with q | q
      · subst q; exact pg r
      · exact h.gw g r q
      · omega
      · have := lw g q; omega
    · rcases Bg g hg with r | r <;> rcases q with q | q
      · subst q; exact pg r
      · exact gm g r q
      · omega
      · have := lm g q; omega
    · rcases Bg g hg with r | r
      · exact bg g q r
      · have := lb g q; omega
  have og10 : Own w10 25 vg1 (Es.map (·.g) ++ [a]) := og8.turn F9.turn (fun g hg q => by
    rcases Bg g hg with r | r <;> rcases q with q | q
    · subst q; exact pg r
    · exact h.gn g r q
    · omega
    · have := ln g q; omega)
  have ow10 : Own w10 25 vw1 (Es.map (·.w) ++ [v3]) := by
    refine ((F4.own.turn F6.turn (fun g hg q => ?_)).turn t8 (fun g hg q => ?_)).turn F9.turn (fun g hg q => ?_)
    · rcases Bw g hg with r | r <;> rcases q with q | q
      · subst q; exact pw r
      · exact wm g r q
      · omega
      · have := lm g q; omega
    · rcases Bw g hg with r | r
      · exact bw g q r
      · have := lb g q; omega
    · rcases Bw g hg with r | r <;> rcases q with q | q
      · subst q; exact pw r
      · exact h.wn g r q
      · omega
      · have := ln g q; omega
  have om10 : Own w10 5 vm1 ((Es.map fun x => bv x.m) ++ [bv mm]) := by
    refine (F6.own.turn t8 (fun g hg q => ?_)).turn F9.turn (fun g hg q => ?_)
    · rcases Bm g hg with r | r
      · exact bm g q r
      · have := lb g q; omega
    · rcases Bm g hg with r | r <;> rcases q with q | q
      · subst q; exact pm r
      · exact nm g q r
      · omega
      · have := ln g q; omega
  have o3 : Own w10 5 v3 (W.map bv) := by
    refine (((F3.own.turn F4.turn (fun g hg q => ?_)).turn F6.turn (fun g hg q => ?_)).turn t8 (fun g hg q => ?_)).turn F9.turn (fun g hg q => ?_)
    · have := B3 g hg
      rcases q with q | q
      · omega
      · have := lw g q; omega
    · have := B3 g hg
      rcases q with q | q
      · omega
      · have := lm g q; omega
    · have := B3 g hg
      have := lb g q
      omega
    · have := B3 g hg
      rcases q with q | q
      · omega
      · have := ln g q; omega
  have o8' : Own w10 5 v8 ((gro W mm).map bv) := o8.turn F9.turn (fun g hg q => by
    rcases B8 g hg with r | r <;> rcases q with q | q
    · subst q; exact bp r
    · exact bn g r q
    · omega
    · have := ln g q; omega)
  have T : Turn (fun g => kfoot p ⟨vg, vw, vn, vm⟩ g ∨ b.ownBlock = some g) w w10 := by
    refine ((((F1.turn.mono (S' := fun g => kfoot p ⟨vg, vw, vn, vm⟩ g ∨ b.ownBlock = some g) (fun i _ q => .inl (q.elim .inl (fun q => .inr (.inl q))))).then_no F3.turn).trans F4.turn (fun i _ q => ?_)).trans F6.turn (fun i _ q => ?_)).trans t8 (fun i _ q => .inr q) |>.trans F9.turn (fun i _ q => ?_)
    · exact .inl (q.elim .inl (fun q => .inr (.inr (.inl q))))
    · exact .inl (q.elim .inl (fun q => .inr (.inr (.inr (.inr q)))))
    · exact .inl (q.elim .inl (fun q => .inr (.inr (.inr (.inl q)))))
  have sz : w.heap.size ≤ w10.heap.size := T.size
  have kf : ∀ g, kfoot p ⟨vg1, vw1, vn1, vm1⟩ g → kfoot p ⟨vg, vw, vn, vm⟩ g ∨ w.heap.size ≤ g := fun g hg => by
    rcases hg with q | q | q | q | q
    · exact .inl (.inl q)
    · rcases Bg g q with r | r
      · exact .inl (.inr (.inl r))
      · exact .inr r.1
    · rcases Bw g q with r | r
      · exact .inl (.inr (.inr (.inl r)))
      · exact .inr (by omega)
    · rcases Bn g q with r | r
      · exact .inl (.inr (.inr (.inr (.inl r))))
      · exact .inr (by omega)
    · rcases Bm g q with r | r
      · exact .inl (.inr (.inr (.inr (.inr r))))
      · exact .inr (by omega)
  refine ⟨⟨vg1, vw1, vn1, vm1⟩, v3, v8, ⟨F9.blk, by simpa using og10, by simpa using ow10, by simpa using F9.own, by simpa [hm] using om10, ?_, ?_, ?_, ?_, ?_, ?_⟩, T, kf, fun g hg => by have := B3 g hg; omega, fun g hg => (B8 g hg).elim .inl (fun q => .inr (by omega))⟩
  · intro x hx q
    rcases Bg x hx with r | r <;> rcases Bw x q with u | u
    · exact h.gw x r u
    · have := lg x r; omega
    · have := lw x u; omega
    · omega
  · intro x hx q
    rcases Bg x hx with r | r <;> rcases Bn x q with u | u
    · exact h.gn x r u
    · have := lg x r; omega
    · have := ln x u; omega
    · omega
  · intro x hx q
    rcases Bw x hx with r | r <;> rcases Bn x q with u | u
    · exact h.wn x r u
    · have := lw x r; omega
    · have := ln x u; omega
    · omega
  · intro x hx
    rcases List.mem_append.1 hx with hx | hx
    · obtain ⟨e1, e2, e3⟩ := h.each x hx
      have off : ∀ g, eblk x g → ¬ (kfoot p ⟨vg, vw, vn, vm⟩ g ∨ b.ownBlock = some g) := fun g hg q => q.elim (h.out x hx g hg) (ke x hx g hg)
      exact ⟨e1.turn T (fun g hg => off g (.inl hg)), e2.turn T (fun g hg => off g (.inr (.inl hg))), e3.turn T (fun g hg => off g (.inr (.inr hg)))⟩
    · simp at hx
      subst hx
      exact ⟨ha.turn T (fun g hg q => q.elim (ka g hg).1 (ka g hg).2), o3.bs, by rw [hm]; exact o8'.bs⟩
  · intro x hx g hg q
    rcases List.mem_append.1 hx with hx | hx
    · rcases kf g q with r | r
      · exact h.out x hx g hg r
      · have := h.lt x hx g hg; omega
    · simp at hx
      subst hx
      rcases hg with hg | hg | hg
      · rcases kf g q with r | r
        · exact (ka g hg).1 r
        · have := hal g hg; omega
      · have hg : v3.ownBlock = some g := hg
        have := B3 g hg
        rcases q with q | q | q | q | q
        · omega
        · exact own_apart o3 og10 (by decide) hg q
        · exact own_apart o3 ow10 (by decide) hg q
        · exact own_apart o3 F9.own (by decide) hg q
        · rcases Bm g q with r | r
          · have := lm g r; omega
          · omega
      · have hg : v8.ownBlock = some g := hg
        rcases q with q | q | q | q | q
        · rcases B8 g hg with r | r
          · subst q; exact bp r
          · omega
        · exact own_apart o8' og10 (by decide) hg q
        · exact own_apart o8' ow10 (by decide) hg q
        · exact own_apart o8' F9.own (by decide) hg q
        · rcases B8 g hg with u | u <;> rcases Bm g q with r | r
          · exact bm g u r
          · have := lb g u; omega
          · have := lm g r; omega
          · omega
  · intro x hx g hg
    rcases List.mem_append.1 hx with hx | hx
    · have := h.lt x hx g hg; omega
    · simp at hx
      subst hx
      rcases hg with hg | hg | hg
      · have := hal g hg; omega
      · exact o3.lt hg
      · exact o8'.lt hg
set_option maxRecDepth 100000 in
set_option maxHeartbeats 4000000 in
theorem note34 (w : World) (p : Nat) (vg vw vn vm : Value) (Es : List En) (h : Kb w p ⟨vg, vw, vn, vm⟩ Es) (a b c : Value) (W : List UInt8) (ha : Bs w a W) (hal : ∀ g, a.ownBlock = some g → g < w.heap.size) (hb : Own w 5 b (W.map bv)) (hc : Bs w c W)
    (ka : ∀ g, a.ownBlock = some g → ¬ kfoot p ⟨vg, vw, vn, vm⟩ g ∧ b.ownBlock ≠ some g) (kb : ∀ g, b.ownBlock = some g → ¬ kfoot p ⟨vg, vw, vn, vm⟩ g) (kc : ∀ g, c.ownBlock = some g → ¬ kfoot p ⟨vg, vw, vn, vm⟩ g)
    (ke : ∀ x ∈ Es, ∀ g, eblk x g → b.ownBlock ≠ some g) (hE : Es.length + 1 ≤ 5864062014805) (hW : W.length + 50 ≤ 140737488355328) :
    Calls Try.prog 34 #[.pointer (some ⟨p, 0, none⟩), a, b, c] w fun e w' => e = .returned (.tuple #[]) ∧ ∃ k' v1 v2, Kb w' p k' (Es ++ [⟨a, v1, v2, W, markOf Es.length⟩]) ∧ Turn (fun g => kfoot p ⟨vg, vw, vn, vm⟩ g ∨ b.ownBlock = some g) w w' ∧ (∀ g, kfoot p k' g → kfoot p ⟨vg, vw, vn, vm⟩ g ∨ w.heap.size ≤ g) ∧ (∀ g, v1.ownBlock = some g → w.heap.size ≤ g) ∧ (∀ g, v2.ownBlock = some g → b.ownBlock = some g ∨ w.heap.size ≤ g) := by
  obtain ⟨aa, na, ca, hva⟩ : ∃ x n c, a = .slice x n c := by obtain ⟨x, y, e⟩ := ha.slice; exact ⟨x, _, y, e⟩
  obtain ⟨ab, nb, cb, hvb⟩ := hb.form
  obtain ⟨ac, nc, cc, hvc⟩ : ∃ x n c', c = .slice x n c' := by obtain ⟨x, y, e⟩ := hc.slice; exact ⟨x, _, y, e⟩
  obtain ⟨ag, ng, cg, hvg⟩ := h.og.form
  have hgl : (Es.map (·.g)).length = Es.length := by simp
  have hwl : (Es.map (·.w)).length = Es.length := by simp
  have hnl : (Es.map (·.n)).length = Es.length := by simp
  have hml : (Es.map fun x => bv x.m).length = Es.length := by simp
  have HH := shutX (And.intro h (And.intro ha (And.intro hb (And.intro hc (And.intro ka (And.intro kb (And.intro kc (And.intro ke hal))))))))
  have og := h.og
  have blk := h.blk
  clear h ha hb hc ka kb kc ke hal
  subst hva hvb hvc
  have c0 : w.cell? ⟨p, 0, none⟩ = some vg := by rw [cell_of_row w p 0 _ 58 (0, 0) blk]; rfl
  have hvg' : vg = .slice ag ng cg := hvg
  subst hvg'
  clear hvg
  generalize hLg : Es.map (·.g) = Lg at *
  generalize hLw : Es.map (·.w) = Lw at *
  generalize hLn : Es.map (·.n) = Ln at *
  generalize hLm : (Es.map fun x => bv x.m) = Lm at *
  go_enter Try.func34, Try.ntmps34
  go_upto_region 1 with (at_builtin; refine wpList_append_src rfl (.tmp 13) (.tmp 15) rfl Try.underlying56 info25 rfl _ Lg rfl (og.turn_no ((Turn.refl _ _).alloc _)) _ 1 [.slice aa na ca] rfl (src_one Try.underlying56 w _ rfl) (by omega) (by unfold maxLen; omega) ?_; intro v1 w1 o1 g1 _; obtain ⟨c1, f1, F1⟩ := Fd.of blk og (by decide) ((Turn.refl _ _).alloc _) o1 g1 0 _ rfl; obtain ⟨ag1, ng1, cg1, hv1⟩ := o1.form; subst hv1)
  obtain ⟨w2, hw2⟩ : ∃ w2, w1.setCell ⟨p, 0, none⟩ (.slice ag1 ng1 cg1) = w2 := ⟨_, rfl⟩
  rw [hw2] at F1 ⊢
  have blk2 : w2.heap[p]? = some (.cells #[.slice ag1 ng1 cg1, vw, vn, vm] 58 (0, 0)) := F1.blk
  have ow2 : Own w2 25 vw Lw := by rw [← hLw]; exact HH.out.1.ow.turn F1.turn (fun g hg q => q.elim (fun q => own_off blk HH.out.1.ow (by decide) (by rw [← q]; exact hg)) (fun q => HH.out.1.gw g q hg))
  have hc2 : Bs w2 (.slice ac nc cc) W := HH.out.2.2.2.1.turn F1.turn (fun g hg q => HH.out.2.2.2.2.2.2.1 g hg (q.elim .inl (fun q => .inr (.inl q))))
  have c12 : w2.cell? ⟨p, 1, none⟩ = some vw := by rw [cell_of_row w2 p 1 _ 58 (0, 0) blk2]; rfl
  have hpl : p < w2.heap.size := lt_of_obj blk2
  obtain ⟨aw, nw, cw, hvw⟩ := ow2.form
  have hvw' : vw = .slice aw nw cw := hvw
  subst hvw'
  have hsr := fun X (t : Turn no w2 X) => (hc2.turn_no t).src (P := Try.prog) Try.underlying25
  obtain ⟨N, hN⟩ : ∃ N, W.length = N := ⟨_, rfl⟩
  rw [hN] at hsr hW
  have Hsr := shutX hsr
  have HF1 := shutX F1
  have HN := shutX hN
  clear hvw hsr F1 o1 g1 hw2 c1 f1 c0 blk og hc2 hN
  go_region_law (first
    | (refine step_append_src rfl (.tmp 24) (.tmp 25) rfl Try.underlying25 Try.info5 rfl (.slice (some ⟨w2.heap.size, 0, none⟩) 0 0) [] (by simp [Act.eval]) (own_empty w2.drew 5) _ N (W.map bv) (by simp [Act.eval]) (Hsr.out _ (((Turn.refl no w2).drew).alloc _)) (by simp; omega) (by simp [maxLen]; omega) ?_
       intro v3 w3 o3 g3
       have F3 := ((fr_empty w2.drew).append (ys := W) (Turn.refl _ _) o3 g3).pre ((Turn.refl no w2).drew)
       have c13 := F3.turn.keep c12 (fun q => q)
       have hpl3 : p < w3.heap.size := lt_of_obj (F3.turn.obj blk2 (fun q => q))
       obtain ⟨a3, n3, c3, hv3⟩ := o3.form
       subst hv3)
    | (refine step_append_src rfl (.tmp 23) (.tmp 27) rfl Try.underlying56 info25 rfl (.slice aw nw cw) Lw (by simp [Act.eval]) ((ow2.turn_no F3.turn).turn_no ((Turn.refl _ _).alloc _)) _ 1 [.slice a3 n3 c3] (by simp [Act.eval]) (src_one Try.underlying56 w3 _ rfl) (by omega) (by unfold maxLen; omega) ?_
       intro v4 w4 o4 g4
       obtain ⟨c4, f4, F4⟩ := Fd.of (F3.turn.obj blk2 (fun q => q)) (ow2.turn_no F3.turn) (by decide) ((Turn.refl _ _).alloc _) o4 g4 1 _ rfl
       obtain ⟨a4, n4, c4', hv4⟩ := o4.form
       subst hv4))
  · obtain ⟨w5, hw5⟩ : ∃ x, w4.setCell ⟨p, 1, none⟩ (.slice a4 n4 c4') = x := ⟨_, rfl⟩
    rw [hw5] at F4 ⊢
    have blk5 : w5.heap[p]? = some (.cells #[.slice ag1 ng1 cg1, .slice a4 n4 c4', vn, vm] 58 (0, 0)) := F4.blk
    have T25 : Turn (fun k => k = p ∨ (Value.slice aw nw cw).ownBlock = some k) w2 w5 := F3.turn.of_no.trans F4.turn (fun _ _ q => q)
    have om5 : Own w5 5 vm Lm := by
      rw [← hLm]
      refine (HH.out.1.om.turn HF1.out.turn (fun g hg q => ?_)).turn T25 (fun g hg q => ?_)
      · exact q.elim (fun q => own_off HH.out.1.blk HH.out.1.om (by decide) (by rw [← q]; exact hg)) (fun q => own_apart HH.out.1.om HH.out.1.og (by decide) hg q)
      · exact q.elim (fun q => own_off HH.out.1.blk HH.out.1.om (by decide) (by rw [← q]; exact hg)) (fun q => own_apart HH.out.1.om HH.out.1.ow (by decide) hg q)
    have on5 : Own w5 25 vn Ln := by
      rw [← hLn]
      refine (HH.out.1.on.turn HF1.out.turn (fun g hg q => ?_)).turn T25 (fun g hg q => ?_)
      · exact q.elim (fun q => own_off HH.out.1.blk HH.out.1.on (by decide) (by rw [← q]; exact hg)) (fun q => HH.out.1.gn g q hg)
      · exact q.elim (fun q => own_off HH.out.1.blk HH.out.1.on (by decide) (by rw [← q]; exact hg)) (fun q => HH.out.1.wn g q hg)
    have c35 : w5.cell? ⟨p, 3, none⟩ = some vm := by rw [cell_of_row w5 p 3 _ 58 (0, 0) blk5]; rfl
    obtain ⟨am, cm, hvm, _⟩ := om5.len
    rw [hml] at hvm
    have hvm' : vm = .slice am Es.length cm := hvm
    subst hvm'
    have hmk := mark_val Es.length
    obtain ⟨mm, hmm⟩ : ∃ m, markOf Es.length = m := ⟨_, rfl⟩
    rw [hmm] at hmk
    have HM := shutX hmm
    clear hmm
    have HF3 := shutX F3
    have HF4 := shutX F4
    clear hvm o4 g4 o3 g3 hw5 c4 f4 c13 hpl3 hpl c12 F3 F4 ow2
    go_upto_region 4 with (at_builtin; refine wpList_append_src rfl (.tmp 43) (.tmp 45) rfl Try.underlying25 Try.info5 rfl _ Lm rfl (om5.turn_no ((Turn.refl _ _).alloc _)) _ 1 (List.map bv [mm]) rfl (src_byte Try.underlying25 _ _ mm (by first | rfl | exact hmk)) (by omega) (by unfold maxLen; omega) ?_; intro v6 w6 o6 g6 _; obtain ⟨c6, f6, F6⟩ := Fd.of blk5 om5 (by decide) ((Turn.refl _ _).alloc _) o6 g6 3 _ rfl; obtain ⟨a6, n6, c6', hv6⟩ := o6.form; subst hv6)
    obtain ⟨w7, hw7⟩ : ∃ x, w6.setCell ⟨p, 3, none⟩ (.slice a6 n6 c6') = x := ⟨_, rfl⟩
    rw [hw7] at F6 ⊢
    have blk7 : w7.heap[p]? = some (.cells #[.slice ag1 ng1 cg1, .slice a4 n4 c4', vn, .slice a6 n6 c6'] 58 (0, 0)) := F6.blk
    have on7 : Own w7 25 vn Ln := on5.turn F6.turn (fun g hg q => q.elim (fun q => own_off blk5 on5 (by decide) (by rw [← q]; exact hg)) (fun q => own_apart on5 om5 (by decide) hg q))
    have ob7 : Own w7 5 (.slice ab nb cb) (W.map bv) := by
      have kb := HH.out.2.2.2.2.2.1
      refine ((HH.out.2.2.1.turn HF1.out.turn (fun g hg q => kb g hg (q.elim .inl (fun q => .inr (.inl q))))).turn T25 (fun g hg q => kb g hg (q.elim .inl (fun q => .inr (.inr (.inl q)))))).turn F6.turn (fun g hg q => kb g hg (q.elim .inl (fun q => .inr (.inr (.inr (.inr q))))))
    have c27 : w7.cell? ⟨p, 2, none⟩ = some vn := by rw [cell_of_row w7 p 2 _ 58 (0, 0) blk7]; rfl
    have hpl7 : p < w7.heap.size := lt_of_obj blk7
    obtain ⟨an, nn, cn, hvn⟩ := on7.form
    have hvn' : vn = .slice an nn cn := hvn
    subst hvn'
    have cf := full35 w7.drew (.slice ab nb cb) W mm (ob7.turn_no ((Turn.refl no w7).drew)) (by rw [HN.out]; omega)
    have bp : (Value.slice ab nb cb).ownBlock ≠ some p := fun q => HH.out.2.2.2.2.2.1 p q (.inl rfl)
    have bn : ∀ g, (Value.slice an nn cn).ownBlock = some g → (Value.slice ab nb cb).ownBlock ≠ some g := fun g hg q => HH.out.2.2.2.2.2.1 g q (.inr (.inr (.inr (.inl hg))))
    have HF6 := shutX F6
    clear hvn o6 g6 hw7 c6 f6 c35 F6 om5 on5 blk5 T25 blk2 ob7
    refine wp_region_noPanic ?_
    refine wp_region_held_drew (S := (fun W' => Turn (fun k => (Value.slice ab nb cb).ownBlock = some k ∨ k = p ∨ (Value.slice an nn cn).ownBlock = some k) w7 W')) (by kernel_rfl) ((Turn.refl _ w7).drew) (fun hHeld => ?_)
    refine' wpAnyH_take (i := 0) (v := .pointer (some ⟨p, 0, none⟩)) rfl (by kernel_rfl) (by kernel_rfl) (by kernel_rfl) (fun _ _ _ h => h) (Or.inl ⟨by kernel_rfl, fun W' hW => ?y1A⟩) hHeld ?r1A
    · go_simp
    refine' wpAnyH_take (i := 1) (v := .pointer (some ⟨p, 0, none⟩)) rfl (by kernel_rfl) (by kernel_rfl) (by kernel_rfl) (fun _ _ _ h => h) (Or.inl ⟨by kernel_rfl, fun W' hW => ?y2A⟩) hHeld ?r2A
    · go_simp
    refine' wpAnyH_take (i := 2) (v := .pointer (some ⟨p, 0, none⟩)) rfl (by kernel_rfl) (by kernel_rfl) (by kernel_rfl) (fun _ _ _ h => h) (Or.inl ⟨by kernel_rfl, fun W' hW => ?y3A⟩) hHeld ?r3A
    · go_simp
    refine' wpAnyH_take (i := 3) (v := .pointer (some ⟨p, 2, none⟩)) rfl (by kernel_rfl) (by kernel_rfl) (by kernel_rfl) (fun _ _ _ h => h) (Or.inl ⟨by kernel_rfl, fun W' hW => ?y4A⟩) hHeld ?r4A
    · go_simp
    refine' wpAnyH_take (i := 5) (v := .slice ab nb cb) rfl (by kernel_rfl) (by kernel_rfl) (by kernel_rfl) (fun _ _ _ h => h) (Or.inl ⟨by kernel_rfl, fun W' hW => ?y5A⟩) hHeld ?r5A
    · go_simp
    refine' wpAnyH_take (i := 6) (v := .int .u8 mm.toNat) rfl (by kernel_rfl) (by kernel_rfl) (by kernel_rfl) (fun _ _ _ h => h) (Or.inl ⟨by kernel_rfl, fun W' hW => ?y6A⟩) hHeld ?r6A
    · go_simp
    refine wpAnyH_ready (rs := [4, 7]) (by kernel_rfl) (by simp) ?_
    refine AllReadyH.cons rfl (fun K hK => ?_) (AllReadyH.cons rfl (fun K hK => ?_) AllReadyH.nil)
    · go_simp
      refine hK.out _ _ hHeld (fun hHeld => ?_)
      clear hK
      refine wpAnyH_ready (rs := [7]) (by kernel_rfl) (by simp) ?_
      refine AllReadyH.cons rfl (fun K hK => ?_) AllReadyH.nil
      go_simp
      refine cf.mono ?_
      rintro e w8 ⟨v8, rfl, o8, t8, n8⟩
      have t8 := (((Turn.refl no w7).drew).of_no).trans t8 (fun _ _ q => q)
      have n8 : Near w7 (.slice ab nb cb) v8 := n8
      have on8 := on7.turn t8 (fun g hg q => bn g hg q)
      have blk8 := t8.obj blk7 bp
      have c28 := t8.keep c27 bp
      have hpl8 : p < w8.heap.size := lt_of_obj blk8
      obtain ⟨a8, n8', c8, hv8⟩ := o8.form
      subst hv8
      have t8' : Turn (fun k => (Value.slice ab nb cb).ownBlock = some k ∨ k = p ∨ (Value.slice an nn cn).ownBlock = some k) w7 w8 := t8.mono (fun _ _ q => .inl q)
      refine hK.out _ _ t8' (fun hHeld => ?_)
      clear hK cf
      refine wpAnyH_ready (rs := [8]) (by kernel_rfl) (by simp) ?_
      refine AllReadyH.cons rfl (fun K hK => ?_) AllReadyH.nil
      go_simp
      refine hK.out _ _ (t8'.alloc _) (fun hHeld => ?_)
      clear hK
      refine wpAnyH_ready (rs := [9]) (by kernel_rfl) (by simp) ?_
      refine AllReadyH.cons rfl (fun K hK => ?_) AllReadyH.nil
      refine step_append_src rfl (.tmp 53) (.tmp 57) rfl Try.underlying56 info25 rfl (.slice an nn cn) Ln (by simp [Act.eval]) (on8.turn_no ((Turn.refl _ _).alloc _)) _ 1 [.slice a8 n8' c8] (by simp [Act.eval]) (src_one Try.underlying56 w8 _ rfl) (by omega) (by unfold maxLen; omega) ?_
      intro v9 w9 o9 g9
      obtain ⟨c9, f9, F9⟩ := Fd.of blk8 on8 (by decide) ((Turn.refl _ _).alloc _) o9 g9 2 _ rfl
      obtain ⟨a9, n9, c9', hv9⟩ := o9.form
      subst hv9
      have t9 : Turn (fun k => (Value.slice ab nb cb).ownBlock = some k ∨ k = p ∨ (Value.slice an nn cn).ownBlock = some k) w7 w9 := (t8'.alloc _).trans g9.turn (fun _ _ q => .inr (.inr q))
      refine hK.out _ _ t9 (fun hHeld => ?_)
      clear hK
      refine' wpAnyH_take (i := 10) (v := .pointer (some ⟨p, 0, none⟩)) rfl (by kernel_rfl) (by kernel_rfl) (by kernel_rfl) (fun _ _ _ h => h) (Or.inl ⟨by kernel_rfl, fun W' hW => ?za10A⟩) hHeld ?ua10A
      · go_simp
      refine' wpAnyH_take (i := 11) (v := .pointer (some ⟨p, 2, none⟩)) rfl (by kernel_rfl) (by kernel_rfl) (by kernel_rfl) (fun _ _ _ h => h) (Or.inl ⟨by kernel_rfl, fun W' hW => ?za11A⟩) hHeld ?ua11A
      · go_simp
      refine wpAnyH_ready (rs := [12]) (by kernel_rfl) (by simp) ?_
      refine AllReadyH.cons rfl (fun K hK => ?_) AllReadyH.nil
      go_simp
      refine hK.out _ _ (t9.setCell (p := ⟨p, 2, none⟩) (fun _ => .inr (.inl rfl)) _) (fun hHeld => ?_)
      clear hK
      refine wpAnyH_done (by kernel_rfl) ?_ _
      refine NoPanic.normal ?_
      have hend := note_end HH.out.1 HH.out.2.1 HH.out.2.2.1 HH.out.2.2.2.2.1 HH.out.2.2.2.2.2.1 HH.out.2.2.2.2.2.2.2.1 HH.out.2.2.2.2.2.2.2.2 (by rw [hLg]; exact HF1.out) HF3.out (by rw [hLw]; exact HF4.out) (by rw [hLm]; exact HF6.out) o8 t8 n8 (by rw [hLn]; exact F9) HM.out
      have HEnd := shutX hend
      clear hend F9 o9 g9 o8 t8 n8 t9 t8' hHeld c9 f9
      go_simp
      go_wp2_with fail
      go_end0
      exact ⟨rfl, HEnd.out⟩
    · go_simp
      refine cf.mono ?_
      rintro e w8 ⟨v8, rfl, o8, t8, n8⟩
      have t8 := (((Turn.refl no w7).drew).of_no).trans t8 (fun _ _ q => q)
      have n8 : Near w7 (.slice ab nb cb) v8 := n8
      have on8 := on7.turn t8 (fun g hg q => bn g hg q)
      have blk8 := t8.obj blk7 bp
      have c28 := t8.keep c27 bp
      have hpl8 : p < w8.heap.size := lt_of_obj blk8
      obtain ⟨a8, n8', c8, hv8⟩ := o8.form
      subst hv8
      have t8' : Turn (fun k => (Value.slice ab nb cb).ownBlock = some k ∨ k = p ∨ (Value.slice an nn cn).ownBlock = some k) w7 w8 := t8.mono (fun _ _ q => .inl q)
      refine hK.out _ _ t8' (fun hHeld => ?_)
      clear hK cf
      refine wpAnyH_ready (rs := [4, 8]) (by kernel_rfl) (by simp) ?_
      refine AllReadyH.cons rfl (fun K hK => ?_) (AllReadyH.cons rfl (fun K hK => ?_) AllReadyH.nil)
      · go_simp
        refine hK.out _ _ hHeld (fun hHeld => ?_)
        clear hK
        refine wpAnyH_ready (rs := [8]) (by kernel_rfl) (by simp) ?_
        refine AllReadyH.cons rfl (fun K hK => ?_) AllReadyH.nil
        go_simp
        refine hK.out _ _ (t8'.alloc _) (fun hHeld => ?_)
        clear hK
        refine wpAnyH_ready (rs := [9]) (by kernel_rfl) (by simp) ?_
        refine AllReadyH.cons rfl (fun K hK => ?_) AllReadyH.nil
        refine step_append_src rfl (.tmp 53) (.tmp 57) rfl Try.underlying56 info25 rfl (.slice an nn cn) Ln (by simp [Act.eval]) (on8.turn_no ((Turn.refl _ _).alloc _)) _ 1 [.slice a8 n8' c8] (by simp [Act.eval]) (src_one Try.underlying56 w8 _ rfl) (by omega) (by unfold maxLen; omega) ?_
        intro v9 w9 o9 g9
        obtain ⟨c9, f9, F9⟩ := Fd.of blk8 on8 (by decide) ((Turn.refl _ _).alloc _) o9 g9 2 _ rfl
        obtain ⟨a9, n9, c9', hv9⟩ := o9.form
        subst hv9
        have t9 : Turn (fun k => (Value.slice ab nb cb).ownBlock = some k ∨ k = p ∨ (Value.slice an nn cn).ownBlock = some k) w7 w9 := (t8'.alloc _).trans g9.turn (fun _ _ q => .inr (.inr q))
        refine hK.out _ _ t9 (fun hHeld => ?_)
        clear hK
        refine' wpAnyH_take (i := 10) (v := .pointer (some ⟨p, 0, none⟩)) rfl (by kernel_rfl) (by kernel_rfl) (by kernel_rfl) (fun _ _ _ h => h) (Or.inl ⟨by kernel_rfl, fun W' hW => ?zb10A⟩) hHeld ?ub10A
        · go_simp
        refine' wpAnyH_take (i := 11) (v := .pointer (some ⟨p, 2, none⟩)) rfl (by kernel_rfl) (by kernel_rfl) (by kernel_rfl) (fun _ _ _ h => h) (Or.inl ⟨by kernel_rfl, fun W' hW => ?zb11A⟩) hHeld ?ub11A
        · go_simp
        refine wpAnyH_ready (rs := [12]) (by kernel_rfl) (by simp) ?_
        refine AllReadyH.cons rfl (fun K hK => ?_) AllReadyH.nil
        go_simp
        refine hK.out _ _ (t9.setCell (p := ⟨p, 2, none⟩) (fun _ => .inr (.inl rfl)) _) (fun hHeld => ?_)
        clear hK
        refine wpAnyH_done (by kernel_rfl) ?_ _
        refine NoPanic.normal ?_
        have hend := note_end HH.out.1 HH.out.2.1 HH.out.2.2.1 HH.out.2.2.2.2.1 HH.out.2.2.2.2.2.1 HH.out.2.2.2.2.2.2.2.1 HH.out.2.2.2.2.2.2.2.2 (by rw [hLg]; exact HF1.out) HF3.out (by rw [hLw]; exact HF4.out) (by rw [hLm]; exact HF6.out) o8 t8 n8 (by rw [hLn]; exact F9) HM.out
        have HEnd := shutX hend
        clear hend F9 o9 g9 o8 t8 n8 t9 t8' hHeld c9 f9
        go_simp
        go_wp2_with fail
        go_end0
        exact ⟨rfl, HEnd.out⟩
      · go_simp
        refine hK.out _ _ (t8'.alloc _) (fun hHeld => ?_)
        clear hK
        refine wpAnyH_ready (rs := [4]) (by kernel_rfl) (by simp) ?_
        refine AllReadyH.cons rfl (fun K hK => ?_) AllReadyH.nil
        go_simp
        refine hK.out _ _ hHeld (fun hHeld => ?_)
        clear hK
        refine wpAnyH_ready (rs := [9]) (by kernel_rfl) (by simp) ?_
        refine AllReadyH.cons rfl (fun K hK => ?_) AllReadyH.nil
        refine step_append_src rfl (.tmp 53) (.tmp 57) rfl Try.underlying56 info25 rfl (.slice an nn cn) Ln (by simp [Act.eval]) (on8.turn_no ((Turn.refl _ _).alloc _)) _ 1 [.slice a8 n8' c8] (by simp [Act.eval]) (src_one Try.underlying56 w8 _ rfl) (by omega) (by unfold maxLen; omega) ?_
        intro v9 w9 o9 g9
        obtain ⟨c9, f9, F9⟩ := Fd.of blk8 on8 (by decide) ((Turn.refl _ _).alloc _) o9 g9 2 _ rfl
        obtain ⟨a9, n9, c9', hv9⟩ := o9.form
        subst hv9
        have t9 : Turn (fun k => (Value.slice ab nb cb).ownBlock = some k ∨ k = p ∨ (Value.slice an nn cn).ownBlock = some k) w7 w9 := (t8'.alloc _).trans g9.turn (fun _ _ q => .inr (.inr q))
        refine hK.out _ _ t9 (fun hHeld => ?_)
        clear hK
        refine' wpAnyH_take (i := 10) (v := .pointer (some ⟨p, 0, none⟩)) rfl (by kernel_rfl) (by kernel_rfl) (by kernel_rfl) (fun _ _ _ h => h) (Or.inl ⟨by kernel_rfl, fun W' hW => ?zc10A⟩) hHeld ?uc10A
        · go_simp
        refine' wpAnyH_take (i := 11) (v := .pointer (some ⟨p, 2, none⟩)) rfl (by kernel_rfl) (by kernel_rfl) (by kernel_rfl) (fun _ _ _ h => h) (Or.inl ⟨by kernel_rfl, fun W' hW => ?zc11A⟩) hHeld ?uc11A
        · go_simp
        refine wpAnyH_ready (rs := [12]) (by kernel_rfl) (by simp) ?_
        refine AllReadyH.cons rfl (fun K hK => ?_) AllReadyH.nil
        go_simp
        refine hK.out _ _ (t9.setCell (p := ⟨p, 2, none⟩) (fun _ => .inr (.inl rfl)) _) (fun hHeld => ?_)
        clear hK
        refine wpAnyH_done (by kernel_rfl) ?_ _
        refine NoPanic.normal ?_
        have hend := note_end HH.out.1 HH.out.2.1 HH.out.2.2.1 HH.out.2.2.2.2.1 HH.out.2.2.2.2.2.1 HH.out.2.2.2.2.2.2.2.1 HH.out.2.2.2.2.2.2.2.2 (by rw [hLg]; exact HF1.out) HF3.out (by rw [hLw]; exact HF4.out) (by rw [hLm]; exact HF6.out) o8 t8 n8 (by rw [hLn]; exact F9) HM.out
        have HEnd := shutX hend
        clear hend F9 o9 g9 o8 t8 n8 t9 t8' hHeld c9 f9
        go_simp
        go_wp2_with fail
        go_end0
        exact ⟨rfl, HEnd.out⟩
  · obtain ⟨w5, hw5⟩ : ∃ x, w4.setCell ⟨p, 1, none⟩ (.slice a4 n4 c4') = x := ⟨_, rfl⟩
    rw [hw5] at F4 ⊢
    have blk5 : w5.heap[p]? = some (.cells #[.slice ag1 ng1 cg1, .slice a4 n4 c4', vn, vm] 58 (0, 0)) := F4.blk
    have T25 : Turn (fun k => k = p ∨ (Value.slice aw nw cw).ownBlock = some k) w2 w5 := F3.turn.of_no.trans F4.turn (fun _ _ q => q)
    have om5 : Own w5 5 vm Lm := by
      rw [← hLm]
      refine (HH.out.1.om.turn HF1.out.turn (fun g hg q => ?_)).turn T25 (fun g hg q => ?_)
      · exact q.elim (fun q => own_off HH.out.1.blk HH.out.1.om (by decide) (by rw [← q]; exact hg)) (fun q => own_apart HH.out.1.om HH.out.1.og (by decide) hg q)
      · exact q.elim (fun q => own_off HH.out.1.blk HH.out.1.om (by decide) (by rw [← q]; exact hg)) (fun q => own_apart HH.out.1.om HH.out.1.ow (by decide) hg q)
    have on5 : Own w5 25 vn Ln := by
      rw [← hLn]
      refine (HH.out.1.on.turn HF1.out.turn (fun g hg q => ?_)).turn T25 (fun g hg q => ?_)
      · exact q.elim (fun q => own_off HH.out.1.blk HH.out.1.on (by decide) (by rw [← q]; exact hg)) (fun q => HH.out.1.gn g q hg)
      · exact q.elim (fun q => own_off HH.out.1.blk HH.out.1.on (by decide) (by rw [← q]; exact hg)) (fun q => HH.out.1.wn g q hg)
    have c35 : w5.cell? ⟨p, 3, none⟩ = some vm := by rw [cell_of_row w5 p 3 _ 58 (0, 0) blk5]; rfl
    obtain ⟨am, cm, hvm, _⟩ := om5.len
    rw [hml] at hvm
    have hvm' : vm = .slice am Es.length cm := hvm
    subst hvm'
    have hmk := mark_val Es.length
    obtain ⟨mm, hmm⟩ : ∃ m, markOf Es.length = m := ⟨_, rfl⟩
    rw [hmm] at hmk
    have HM := shutX hmm
    clear hmm
    have HF3 := shutX F3
    have HF4 := shutX F4
    clear hvm o4 g4 o3 g3 hw5 c4 f4 c13 hpl3 hpl c12 F3 F4 ow2
    go_upto_region 4 with (at_builtin; refine wpList_append_src rfl (.tmp 43) (.tmp 45) rfl Try.underlying25 Try.info5 rfl _ Lm rfl (om5.turn_no ((Turn.refl _ _).alloc _)) _ 1 (List.map bv [mm]) rfl (src_byte Try.underlying25 _ _ mm (by first | rfl | exact hmk)) (by omega) (by unfold maxLen; omega) ?_; intro v6 w6 o6 g6 _; obtain ⟨c6, f6, F6⟩ := Fd.of blk5 om5 (by decide) ((Turn.refl _ _).alloc _) o6 g6 3 _ rfl; obtain ⟨a6, n6, c6', hv6⟩ := o6.form; subst hv6)
    obtain ⟨w7, hw7⟩ : ∃ x, w6.setCell ⟨p, 3, none⟩ (.slice a6 n6 c6') = x := ⟨_, rfl⟩
    rw [hw7] at F6 ⊢
    have blk7 : w7.heap[p]? = some (.cells #[.slice ag1 ng1 cg1, .slice a4 n4 c4', vn, .slice a6 n6 c6'] 58 (0, 0)) := F6.blk
    have on7 : Own w7 25 vn Ln := on5.turn F6.turn (fun g hg q => q.elim (fun q => own_off blk5 on5 (by decide) (by rw [← q]; exact hg)) (fun q => own_apart on5 om5 (by decide) hg q))
    have ob7 : Own w7 5 (.slice ab nb cb) (W.map bv) := by
      have kb := HH.out.2.2.2.2.2.1
      refine ((HH.out.2.2.1.turn HF1.out.turn (fun g hg q => kb g hg (q.elim .inl (fun q => .inr (.inl q))))).turn T25 (fun g hg q => kb g hg (q.elim .inl (fun q => .inr (.inr (.inl q)))))).turn F6.turn (fun g hg q => kb g hg (q.elim .inl (fun q => .inr (.inr (.inr (.inr q))))))
    have c27 : w7.cell? ⟨p, 2, none⟩ = some vn := by rw [cell_of_row w7 p 2 _ 58 (0, 0) blk7]; rfl
    have hpl7 : p < w7.heap.size := lt_of_obj blk7
    obtain ⟨an, nn, cn, hvn⟩ := on7.form
    have hvn' : vn = .slice an nn cn := hvn
    subst hvn'
    have cf := full35 w7.drew (.slice ab nb cb) W mm (ob7.turn_no ((Turn.refl no w7).drew)) (by rw [HN.out]; omega)
    have bp : (Value.slice ab nb cb).ownBlock ≠ some p := fun q => HH.out.2.2.2.2.2.1 p q (.inl rfl)
    have bn : ∀ g, (Value.slice an nn cn).ownBlock = some g → (Value.slice ab nb cb).ownBlock ≠ some g := fun g hg q => HH.out.2.2.2.2.2.1 g q (.inr (.inr (.inr (.inl hg))))
    have HF6 := shutX F6
    clear hvn o6 g6 hw7 c6 f6 c35 F6 om5 on5 blk5 T25 blk2 ob7
    refine wp_region_noPanic ?_
    refine wp_region_held_drew (S := (fun W' => Turn (fun k => (Value.slice ab nb cb).ownBlock = some k ∨ k = p ∨ (Value.slice an nn cn).ownBlock = some k) w7 W')) (by kernel_rfl) ((Turn.refl _ w7).drew) (fun hHeld => ?_)
    refine' wpAnyH_take (i := 0) (v := .pointer (some ⟨p, 0, none⟩)) rfl (by kernel_rfl) (by kernel_rfl) (by kernel_rfl) (fun _ _ _ h => h) (Or.inl ⟨by kernel_rfl, fun W' hW => ?y1B⟩) hHeld ?r1B
    · go_simp
    refine' wpAnyH_take (i := 1) (v := .pointer (some ⟨p, 0, none⟩)) rfl (by kernel_rfl) (by kernel_rfl) (by kernel_rfl) (fun _ _ _ h => h) (Or.inl ⟨by kernel_rfl, fun W' hW => ?y2B⟩) hHeld ?r2B
    · go_simp
    refine' wpAnyH_take (i := 2) (v := .pointer (some ⟨p, 0, none⟩)) rfl (by kernel_rfl) (by kernel_rfl) (by kernel_rfl) (fun _ _ _ h => h) (Or.inl ⟨by kernel_rfl, fun W' hW => ?y3B⟩) hHeld ?r3B
    · go_simp
    refine' wpAnyH_take (i := 3) (v := .pointer (some ⟨p, 2, none⟩)) rfl (by kernel_rfl) (by kernel_rfl) (by kernel_rfl) (fun _ _ _ h => h) (Or.inl ⟨by kernel_rfl, fun W' hW => ?y4B⟩) hHeld ?r4B
    · go_simp
    refine' wpAnyH_take (i := 5) (v := .slice ab nb cb) rfl (by kernel_rfl) (by kernel_rfl) (by kernel_rfl) (fun _ _ _ h => h) (Or.inl ⟨by kernel_rfl, fun W' hW => ?y5B⟩) hHeld ?r5B
    · go_simp
    refine' wpAnyH_take (i := 6) (v := .int .u8 mm.toNat) rfl (by kernel_rfl) (by kernel_rfl) (by kernel_rfl) (fun _ _ _ h => h) (Or.inl ⟨by kernel_rfl, fun W' hW => ?y6B⟩) hHeld ?r6B
    · go_simp
    refine wpAnyH_ready (rs := [4, 7]) (by kernel_rfl) (by simp) ?_
    refine AllReadyH.cons rfl (fun K hK => ?_) (AllReadyH.cons rfl (fun K hK => ?_) AllReadyH.nil)
    · go_simp
      refine hK.out _ _ hHeld (fun hHeld => ?_)
      clear hK
      refine wpAnyH_ready (rs := [7]) (by kernel_rfl) (by simp) ?_
      refine AllReadyH.cons rfl (fun K hK => ?_) AllReadyH.nil
      go_simp
      refine cf.mono ?_
      rintro e w8 ⟨v8, rfl, o8, t8, n8⟩
      have t8 := (((Turn.refl no w7).drew).of_no).trans t8 (fun _ _ q => q)
      have n8 : Near w7 (.slice ab nb cb) v8 := n8
      have on8 := on7.turn t8 (fun g hg q => bn g hg q)
      have blk8 := t8.obj blk7 bp
      have c28 := t8.keep c27 bp
      have hpl8 : p < w8.heap.size := lt_of_obj blk8
      obtain ⟨a8, n8', c8, hv8⟩ := o8.form
      subst hv8
      have t8' : Turn (fun k => (Value.slice ab nb cb).ownBlock = some k ∨ k = p ∨ (Value.slice an nn cn).ownBlock = some k) w7 w8 := t8.mono (fun _ _ q => .inl q)
      refine hK.out _ _ t8' (fun hHeld => ?_)
      clear hK cf
      refine wpAnyH_ready (rs := [8]) (by kernel_rfl) (by simp) ?_
      refine AllReadyH.cons rfl (fun K hK => ?_) AllReadyH.nil
      go_simp
      refine hK.out _ _ (t8'.alloc _) (fun hHeld => ?_)
      clear hK
      refine wpAnyH_ready (rs := [9]) (by kernel_rfl) (by simp) ?_
      refine AllReadyH.cons rfl (fun K hK => ?_) AllReadyH.nil
      refine step_append_src rfl (.tmp 53) (.tmp 57) rfl Try.underlying56 info25 rfl (.slice an nn cn) Ln (by simp [Act.eval]) (on8.turn_no ((Turn.refl _ _).alloc _)) _ 1 [.slice a8 n8' c8] (by simp [Act.eval]) (src_one Try.underlying56 w8 _ rfl) (by omega) (by unfold maxLen; omega) ?_
      intro v9 w9 o9 g9
      obtain ⟨c9, f9, F9⟩ := Fd.of blk8 on8 (by decide) ((Turn.refl _ _).alloc _) o9 g9 2 _ rfl
      obtain ⟨a9, n9, c9', hv9⟩ := o9.form
      subst hv9
      have t9 : Turn (fun k => (Value.slice ab nb cb).ownBlock = some k ∨ k = p ∨ (Value.slice an nn cn).ownBlock = some k) w7 w9 := (t8'.alloc _).trans g9.turn (fun _ _ q => .inr (.inr q))
      refine hK.out _ _ t9 (fun hHeld => ?_)
      clear hK
      refine' wpAnyH_take (i := 10) (v := .pointer (some ⟨p, 0, none⟩)) rfl (by kernel_rfl) (by kernel_rfl) (by kernel_rfl) (fun _ _ _ h => h) (Or.inl ⟨by kernel_rfl, fun W' hW => ?za10B⟩) hHeld ?ua10B
      · go_simp
      refine' wpAnyH_take (i := 11) (v := .pointer (some ⟨p, 2, none⟩)) rfl (by kernel_rfl) (by kernel_rfl) (by kernel_rfl) (fun _ _ _ h => h) (Or.inl ⟨by kernel_rfl, fun W' hW => ?za11B⟩) hHeld ?ua11B
      · go_simp
      refine wpAnyH_ready (rs := [12]) (by kernel_rfl) (by simp) ?_
      refine AllReadyH.cons rfl (fun K hK => ?_) AllReadyH.nil
      go_simp
      refine hK.out _ _ (t9.setCell (p := ⟨p, 2, none⟩) (fun _ => .inr (.inl rfl)) _) (fun hHeld => ?_)
      clear hK
      refine wpAnyH_done (by kernel_rfl) ?_ _
      refine NoPanic.normal ?_
      have hend := note_end HH.out.1 HH.out.2.1 HH.out.2.2.1 HH.out.2.2.2.2.1 HH.out.2.2.2.2.2.1 HH.out.2.2.2.2.2.2.2.1 HH.out.2.2.2.2.2.2.2.2 (by rw [hLg]; exact HF1.out) HF3.out (by rw [hLw]; exact HF4.out) (by rw [hLm]; exact HF6.out) o8 t8 n8 (by rw [hLn]; exact F9) HM.out
      have HEnd := shutX hend
      clear hend F9 o9 g9 o8 t8 n8 t9 t8' hHeld c9 f9
      go_simp
      go_wp2_with fail
      go_end0
      exact ⟨rfl, HEnd.out⟩
    · go_simp
      refine cf.mono ?_
      rintro e w8 ⟨v8, rfl, o8, t8, n8⟩
      have t8 := (((Turn.refl no w7).drew).of_no).trans t8 (fun _ _ q => q)
      have n8 : Near w7 (.slice ab nb cb) v8 := n8
      have on8 := on7.turn t8 (fun g hg q => bn g hg q)
      have blk8 := t8.obj blk7 bp
      have c28 := t8.keep c27 bp
      have hpl8 : p < w8.heap.size := lt_of_obj blk8
      obtain ⟨a8, n8', c8, hv8⟩ := o8.form
      subst hv8
      have t8' : Turn (fun k => (Value.slice ab nb cb).ownBlock = some k ∨ k = p ∨ (Value.slice an nn cn).ownBlock = some k) w7 w8 := t8.mono (fun _ _ q => .inl q)
      refine hK.out _ _ t8' (fun hHeld => ?_)
      clear hK cf
      refine wpAnyH_ready (rs := [4, 8]) (by kernel_rfl) (by simp) ?_
      refine AllReadyH.cons rfl (fun K hK => ?_) (AllReadyH.cons rfl (fun K hK => ?_) AllReadyH.nil)
      · go_simp
        refine hK.out _ _ hHeld (fun hHeld => ?_)
        clear hK
        refine wpAnyH_ready (rs := [8]) (by kernel_rfl) (by simp) ?_
        refine AllReadyH.cons rfl (fun K hK => ?_) AllReadyH.nil
        go_simp
        refine hK.out _ _ (t8'.alloc _) (fun hHeld => ?_)
        clear hK
        refine wpAnyH_ready (rs := [9]) (by kernel_rfl) (by simp) ?_
        refine AllReadyH.cons rfl (fun K hK => ?_) AllReadyH.nil
        refine step_append_src rfl (.tmp 53) (.tmp 57) rfl Try.underlying56 info25 rfl (.slice an nn cn) Ln (by simp [Act.eval]) (on8.turn_no ((Turn.refl _ _).alloc _)) _ 1 [.slice a8 n8' c8] (by simp [Act.eval]) (src_one Try.underlying56 w8 _ rfl) (by omega) (by unfold maxLen; omega) ?_
        intro v9 w9 o9 g9
        obtain ⟨c9, f9, F9⟩ := Fd.of blk8 on8 (by decide) ((Turn.refl _ _).alloc _) o9 g9 2 _ rfl
        obtain ⟨a9, n9, c9', hv9⟩ := o9.form
        subst hv9
        have t9 : Turn (fun k => (Value.slice ab nb cb).ownBlock = some k ∨ k = p ∨ (Value.slice an nn cn).ownBlock = some k) w7 w9 := (t8'.alloc _).trans g9.turn (fun _ _ q => .inr (.inr q))
        refine hK.out _ _ t9 (fun hHeld => ?_)
        clear hK
        refine' wpAnyH_take (i := 10) (v := .pointer (some ⟨p, 0, none⟩)) rfl (by kernel_rfl) (by kernel_rfl) (by kernel_rfl) (fun _ _ _ h => h) (Or.inl ⟨by kernel_rfl, fun W' hW => ?zb10B⟩) hHeld ?ub10B
        · go_simp
        refine' wpAnyH_take (i := 11) (v := .pointer (some ⟨p, 2, none⟩)) rfl (by kernel_rfl) (by kernel_rfl) (by kernel_rfl) (fun _ _ _ h => h) (Or.inl ⟨by kernel_rfl, fun W' hW => ?zb11B⟩) hHeld ?ub11B
        · go_simp
        refine wpAnyH_ready (rs := [12]) (by kernel_rfl) (by simp) ?_
        refine AllReadyH.cons rfl (fun K hK => ?_) AllReadyH.nil
        go_simp
        refine hK.out _ _ (t9.setCell (p := ⟨p, 2, none⟩) (fun _ => .inr (.inl rfl)) _) (fun hHeld => ?_)
        clear hK
        refine wpAnyH_done (by kernel_rfl) ?_ _
        refine NoPanic.normal ?_
        have hend := note_end HH.out.1 HH.out.2.1 HH.out.2.2.1 HH.out.2.2.2.2.1 HH.out.2.2.2.2.2.1 HH.out.2.2.2.2.2.2.2.1 HH.out.2.2.2.2.2.2.2.2 (by rw [hLg]; exact HF1.out) HF3.out (by rw [hLw]; exact HF4.out) (by rw [hLm]; exact HF6.out) o8 t8 n8 (by rw [hLn]; exact F9) HM.out
        have HEnd := shutX hend
        clear hend F9 o9 g9 o8 t8 n8 t9 t8' hHeld c9 f9
        go_simp
        go_wp2_with fail
        go_end0
        exact ⟨rfl, HEnd.out⟩
      · go_simp
        refine hK.out _ _ (t8'.alloc _) (fun hHeld => ?_)
        clear hK
        refine wpAnyH_ready (rs := [4]) (by kernel_rfl) (by simp) ?_
        refine AllReadyH.cons rfl (fun K hK => ?_) AllReadyH.nil
        go_simp
        refine hK.out _ _ hHeld (fun hHeld => ?_)
        clear hK
        refine wpAnyH_ready (rs := [9]) (by kernel_rfl) (by simp) ?_
        refine AllReadyH.cons rfl (fun K hK => ?_) AllReadyH.nil
        refine step_append_src rfl (.tmp 53) (.tmp 57) rfl Try.underlying56 info25 rfl (.slice an nn cn) Ln (by simp [Act.eval]) (on8.turn_no ((Turn.refl _ _).alloc _)) _ 1 [.slice a8 n8' c8] (by simp [Act.eval]) (src_one Try.underlying56 w8 _ rfl) (by omega) (by unfold maxLen; omega) ?_
        intro v9 w9 o9 g9
        obtain ⟨c9, f9, F9⟩ := Fd.of blk8 on8 (by decide) ((Turn.refl _ _).alloc _) o9 g9 2 _ rfl
        obtain ⟨a9, n9, c9', hv9⟩ := o9.form
        subst hv9
        have t9 : Turn (fun k => (Value.slice ab nb cb).ownBlock = some k ∨ k = p ∨ (Value.slice an nn cn).ownBlock = some k) w7 w9 := (t8'.alloc _).trans g9.turn (fun _ _ q => .inr (.inr q))
        refine hK.out _ _ t9 (fun hHeld => ?_)
        clear hK
        refine' wpAnyH_take (i := 10) (v := .pointer (some ⟨p, 0, none⟩)) rfl (by kernel_rfl) (by kernel_rfl) (by kernel_rfl) (fun _ _ _ h => h) (Or.inl ⟨by kernel_rfl, fun W' hW => ?zc10B⟩) hHeld ?uc10B
        · go_simp
        refine' wpAnyH_take (i := 11) (v := .pointer (some ⟨p, 2, none⟩)) rfl (by kernel_rfl) (by kernel_rfl) (by kernel_rfl) (fun _ _ _ h => h) (Or.inl ⟨by kernel_rfl, fun W' hW => ?zc11B⟩) hHeld ?uc11B
        · go_simp
        refine wpAnyH_ready (rs := [12]) (by kernel_rfl) (by simp) ?_
        refine AllReadyH.cons rfl (fun K hK => ?_) AllReadyH.nil
        go_simp
        refine hK.out _ _ (t9.setCell (p := ⟨p, 2, none⟩) (fun _ => .inr (.inl rfl)) _) (fun hHeld => ?_)
        clear hK
        refine wpAnyH_done (by kernel_rfl) ?_ _
        refine NoPanic.normal ?_
        have hend := note_end HH.out.1 HH.out.2.1 HH.out.2.2.1 HH.out.2.2.2.2.1 HH.out.2.2.2.2.2.1 HH.out.2.2.2.2.2.2.2.1 HH.out.2.2.2.2.2.2.2.2 (by rw [hLg]; exact HF1.out) HF3.out (by rw [hLw]; exact HF4.out) (by rw [hLm]; exact HF6.out) o8 t8 n8 (by rw [hLn]; exact F9) HM.out
        have HEnd := shutX hend
        clear hend F9 o9 g9 o8 t8 n8 t9 t8' hHeld c9 f9
        go_simp
        go_wp2_with fail
        go_end0
        exact ⟨rfl, HEnd.out⟩
  · obtain ⟨w5, hw5⟩ : ∃ x, w4.setCell ⟨p, 1, none⟩ (.slice a4 n4 c4') = x := ⟨_, rfl⟩
    rw [hw5] at F4 ⊢
    have blk5 : w5.heap[p]? = some (.cells #[.slice ag1 ng1 cg1, .slice a4 n4 c4', vn, vm] 58 (0, 0)) := F4.blk
    have T25 : Turn (fun k => k = p ∨ (Value.slice aw nw cw).ownBlock = some k) w2 w5 := F3.turn.of_no.trans F4.turn (fun _ _ q => q)
    have om5 : Own w5 5 vm Lm := by
      rw [← hLm]
      refine (HH.out.1.om.turn HF1.out.turn (fun g hg q => ?_)).turn T25 (fun g hg q => ?_)
      · exact q.elim (fun q => own_off HH.out.1.blk HH.out.1.om (by decide) (by rw [← q]; exact hg)) (fun q => own_apart HH.out.1.om HH.out.1.og (by decide) hg q)
      · exact q.elim (fun q => own_off HH.out.1.blk HH.out.1.om (by decide) (by rw [← q]; exact hg)) (fun q => own_apart HH.out.1.om HH.out.1.ow (by decide) hg q)
    have on5 : Own w5 25 vn Ln := by
      rw [← hLn]
      refine (HH.out.1.on.turn HF1.out.turn (fun g hg q => ?_)).turn T25 (fun g hg q => ?_)
      · exact q.elim (fun q => own_off HH.out.1.blk HH.out.1.on (by decide) (by rw [← q]; exact hg)) (fun q => HH.out.1.gn g q hg)
      · exact q.elim (fun q => own_off HH.out.1.blk HH.out.1.on (by decide) (by rw [← q]; exact hg)) (fun q => HH.out.1.wn g q hg)
    have c35 : w5.cell? ⟨p, 3, none⟩ = some vm := by rw [cell_of_row w5 p 3 _ 58 (0, 0) blk5]; rfl
    obtain ⟨am, cm, hvm, _⟩ := om5.len
    rw [hml] at hvm
    have hvm' : vm = .slice am Es.length cm := hvm
    subst hvm'
    have hmk := mark_val Es.length
    obtain ⟨mm, hmm⟩ : ∃ m, markOf Es.length = m := ⟨_, rfl⟩
    rw [hmm] at hmk
    have HM := shutX hmm
    clear hmm
    have HF3 := shutX F3
    have HF4 := shutX F4
    clear hvm o4 g4 o3 g3 hw5 c4 f4 c13 hpl3 hpl c12 F3 F4 ow2
    go_upto_region 4 with (at_builtin; refine wpList_append_src rfl (.tmp 43) (.tmp 45) rfl Try.underlying25 Try.info5 rfl _ Lm rfl (om5.turn_no ((Turn.refl _ _).alloc _)) _ 1 (List.map bv [mm]) rfl (src_byte Try.underlying25 _ _ mm (by first | rfl | exact hmk)) (by omega) (by unfold maxLen; omega) ?_; intro v6 w6 o6 g6 _; obtain ⟨c6, f6, F6⟩ := Fd.of blk5 om5 (by decide) ((Turn.refl _ _).alloc _) o6 g6 3 _ rfl; obtain ⟨a6, n6, c6', hv6⟩ := o6.form; subst hv6)
    obtain ⟨w7, hw7⟩ : ∃ x, w6.setCell ⟨p, 3, none⟩ (.slice a6 n6 c6') = x := ⟨_, rfl⟩
    rw [hw7] at F6 ⊢
    have blk7 : w7.heap[p]? = some (.cells #[.slice ag1 ng1 cg1, .slice a4 n4 c4', vn, .slice a6 n6 c6'] 58 (0, 0)) := F6.blk
    have on7 : Own w7 25 vn Ln := on5.turn F6.turn (fun g hg q => q.elim (fun q => own_off blk5 on5 (by decide) (by rw [← q]; exact hg)) (fun q => own_apart on5 om5 (by decide) hg q))
    have ob7 : Own w7 5 (.slice ab nb cb) (W.map bv) := by
      have kb := HH.out.2.2.2.2.2.1
      refine ((HH.out.2.2.1.turn HF1.out.turn (fun g hg q => kb g hg (q.elim .inl (fun q => .inr (.inl q))))).turn T25 (fun g hg q => kb g hg (q.elim .inl (fun q => .inr (.inr (.inl q)))))).turn F6.turn (fun g hg q => kb g hg (q.elim .inl (fun q => .inr (.inr (.inr (.inr q))))))
    have c27 : w7.cell? ⟨p, 2, none⟩ = some vn := by rw [cell_of_row w7 p 2 _ 58 (0, 0) blk7]; rfl
    have hpl7 : p < w7.heap.size := lt_of_obj blk7
    obtain ⟨an, nn, cn, hvn⟩ := on7.form
    have hvn' : vn = .slice an nn cn := hvn
    subst hvn'
    have cf := full35 w7.drew (.slice ab nb cb) W mm (ob7.turn_no ((Turn.refl no w7).drew)) (by rw [HN.out]; omega)
    have bp : (Value.slice ab nb cb).ownBlock ≠ some p := fun q => HH.out.2.2.2.2.2.1 p q (.inl rfl)
    have bn : ∀ g, (Value.slice an nn cn).ownBlock = some g → (Value.slice ab nb cb).ownBlock ≠ some g := fun g hg q => HH.out.2.2.2.2.2.1 g q (.inr (.inr (.inr (.inl hg))))
    have HF6 := shutX F6
    clear hvn o6 g6 hw7 c6 f6 c35 F6 om5 on5 blk5 T25 blk2 ob7
    refine wp_region_noPanic ?_
    refine wp_region_held_drew (S := (fun W' => Turn (fun k => (Value.slice ab nb cb).ownBlock = some k ∨ k = p ∨ (Value.slice an nn cn).ownBlock = some k) w7 W')) (by kernel_rfl) ((Turn.refl _ w7).drew) (fun hHeld => ?_)
    refine' wpAnyH_take (i := 0) (v := .pointer (some ⟨p, 0, none⟩)) rfl (by kernel_rfl) (by kernel_rfl) (by kernel_rfl) (fun _ _ _ h => h) (Or.inl ⟨by kernel_rfl, fun W' hW => ?y1C⟩) hHeld ?r1C
    · go_simp
    refine' wpAnyH_take (i := 1) (v := .pointer (some ⟨p, 0, none⟩)) rfl (by kernel_rfl) (by kernel_rfl) (by kernel_rfl) (fun _ _ _ h => h) (Or.inl ⟨by kernel_rfl, fun W' hW => ?y2C⟩) hHeld ?r2C
    · go_simp
    refine' wpAnyH_take (i := 2) (v := .pointer (some ⟨p, 0, none⟩)) rfl (by kernel_rfl) (by kernel_rfl) (by kernel_rfl) (fun _ _ _ h => h) (Or.inl ⟨by kernel_rfl, fun W' hW => ?y3C⟩) hHeld ?r3C
    · go_simp
    refine' wpAnyH_take (i := 3) (v := .pointer (some ⟨p, 2, none⟩)) rfl (by kernel_rfl) (by kernel_rfl) (by kernel_rfl) (fun _ _ _ h => h) (Or.inl ⟨by kernel_rfl, fun W' hW => ?y4C⟩) hHeld ?r4C
    · go_simp
    refine' wpAnyH_take (i := 5) (v := .slice ab nb cb) rfl (by kernel_rfl) (by kernel_rfl) (by kernel_rfl) (fun _ _ _ h => h) (Or.inl ⟨by kernel_rfl, fun W' hW => ?y5C⟩) hHeld ?r5C
    · go_simp
    refine' wpAnyH_take (i := 6) (v := .int .u8 mm.toNat) rfl (by kernel_rfl) (by kernel_rfl) (by kernel_rfl) (fun _ _ _ h => h) (Or.inl ⟨by kernel_rfl, fun W' hW => ?y6C⟩) hHeld ?r6C
    · go_simp
    refine wpAnyH_ready (rs := [4, 7]) (by kernel_rfl) (by simp) ?_
    refine AllReadyH.cons rfl (fun K hK => ?_) (AllReadyH.cons rfl (fun K hK => ?_) AllReadyH.nil)
    · go_simp
      refine hK.out _ _ hHeld (fun hHeld => ?_)
      clear hK
      refine wpAnyH_ready (rs := [7]) (by kernel_rfl) (by simp) ?_
      refine AllReadyH.cons rfl (fun K hK => ?_) AllReadyH.nil
      go_simp
      refine cf.mono ?_
      rintro e w8 ⟨v8, rfl, o8, t8, n8⟩
      have t8 := (((Turn.refl no w7).drew).of_no).trans t8 (fun _ _ q => q)
      have n8 : Near w7 (.slice ab nb cb) v8 := n8
      have on8 := on7.turn t8 (fun g hg q => bn g hg q)
      have blk8 := t8.obj blk7 bp
      have c28 := t8.keep c27 bp
      have hpl8 : p < w8.heap.size := lt_of_obj blk8
      obtain ⟨a8, n8', c8, hv8⟩ := o8.form
      subst hv8
      have t8' : Turn (fun k => (Value.slice ab nb cb).ownBlock = some k ∨ k = p ∨ (Value.slice an nn cn).ownBlock = some k) w7 w8 := t8.mono (fun _ _ q => .inl q)
      refine hK.out _ _ t8' (fun hHeld => ?_)
      clear hK cf
      refine wpAnyH_ready (rs := [8]) (by kernel_rfl) (by simp) ?_
      refine AllReadyH.cons rfl (fun K hK => ?_) AllReadyH.nil
      go_simp
      refine hK.out _ _ (t8'.alloc _) (fun hHeld => ?_)
      clear hK
      refine wpAnyH_ready (rs := [9]) (by kernel_rfl) (by simp) ?_
      refine AllReadyH.cons rfl (fun K hK => ?_) AllReadyH.nil
      refine step_append_src rfl (.tmp 53) (.tmp 57) rfl Try.underlying56 info25 rfl (.slice an nn cn) Ln (by simp [Act.eval]) (on8.turn_no ((Turn.refl _ _).alloc _)) _ 1 [.slice a8 n8' c8] (by simp [Act.eval]) (src_one Try.underlying56 w8 _ rfl) (by omega) (by unfold maxLen; omega) ?_
      intro v9 w9 o9 g9
      obtain ⟨c9, f9, F9⟩ := Fd.of blk8 on8 (by decide) ((Turn.refl _ _).alloc _) o9 g9 2 _ rfl
      obtain ⟨a9, n9, c9', hv9⟩ := o9.form
      subst hv9
      have t9 : Turn (fun k => (Value.slice ab nb cb).ownBlock = some k ∨ k = p ∨ (Value.slice an nn cn).ownBlock = some k) w7 w9 := (t8'.alloc _).trans g9.turn (fun _ _ q => .inr (.inr q))
      refine hK.out _ _ t9 (fun hHeld => ?_)
      clear hK
      refine' wpAnyH_take (i := 10) (v := .pointer (some ⟨p, 0, none⟩)) rfl (by kernel_rfl) (by kernel_rfl) (by kernel_rfl) (fun _ _ _ h => h) (Or.inl ⟨by kernel_rfl, fun W' hW => ?za10C⟩) hHeld ?ua10C
      · go_simp
      refine' wpAnyH_take (i := 11) (v := .pointer (some ⟨p, 2, none⟩)) rfl (by kernel_rfl) (by kernel_rfl) (by kernel_rfl) (fun _ _ _ h => h) (Or.inl ⟨by kernel_rfl, fun W' hW => ?za11C⟩) hHeld ?ua11C
      · go_simp
      refine wpAnyH_ready (rs := [12]) (by kernel_rfl) (by simp) ?_
      refine AllReadyH.cons rfl (fun K hK => ?_) AllReadyH.nil
      go_simp
      refine hK.out _ _ (t9.setCell (p := ⟨p, 2, none⟩) (fun _ => .inr (.inl rfl)) _) (fun hHeld => ?_)
      clear hK
      refine wpAnyH_done (by kernel_rfl) ?_ _
      refine NoPanic.normal ?_
      have hend := note_end HH.out.1 HH.out.2.1 HH.out.2.2.1 HH.out.2.2.2.2.1 HH.out.2.2.2.2.2.1 HH.out.2.2.2.2.2.2.2.1 HH.out.2.2.2.2.2.2.2.2 (by rw [hLg]; exact HF1.out) HF3.out (by rw [hLw]; exact HF4.out) (by rw [hLm]; exact HF6.out) o8 t8 n8 (by rw [hLn]; exact F9) HM.out
      have HEnd := shutX hend
      clear hend F9 o9 g9 o8 t8 n8 t9 t8' hHeld c9 f9
      go_simp
      go_wp2_with fail
      go_end0
      exact ⟨rfl, HEnd.out⟩
    · go_simp
      refine cf.mono ?_
      rintro e w8 ⟨v8, rfl, o8, t8, n8⟩
      have t8 := (((Turn.refl no w7).drew).of_no).trans t8 (fun _ _ q => q)
      have n8 : Near w7 (.slice ab nb cb) v8 := n8
      have on8 := on7.turn t8 (fun g hg q => bn g hg q)
      have blk8 := t8.obj blk7 bp
      have c28 := t8.keep c27 bp
      have hpl8 : p < w8.heap.size := lt_of_obj blk8
      obtain ⟨a8, n8', c8, hv8⟩ := o8.form
      subst hv8
      have t8' : Turn (fun k => (Value.slice ab nb cb).ownBlock = some k ∨ k = p ∨ (Value.slice an nn cn).ownBlock = some k) w7 w8 := t8.mono (fun _ _ q => .inl q)
      refine hK.out _ _ t8' (fun hHeld => ?_)
      clear hK cf
      refine wpAnyH_ready (rs := [4, 8]) (by kernel_rfl) (by simp) ?_
      refine AllReadyH.cons rfl (fun K hK => ?_) (AllReadyH.cons rfl (fun K hK => ?_) AllReadyH.nil)
      · go_simp
        refine hK.out _ _ hHeld (fun hHeld => ?_)
        clear hK
        refine wpAnyH_ready (rs := [8]) (by kernel_rfl) (by simp) ?_
        refine AllReadyH.cons rfl (fun K hK => ?_) AllReadyH.nil
        go_simp
        refine hK.out _ _ (t8'.alloc _) (fun hHeld => ?_)
        clear hK
        refine wpAnyH_ready (rs := [9]) (by kernel_rfl) (by simp) ?_
        refine AllReadyH.cons rfl (fun K hK => ?_) AllReadyH.nil
        refine step_append_src rfl (.tmp 53) (.tmp 57) rfl Try.underlying56 info25 rfl (.slice an nn cn) Ln (by simp [Act.eval]) (on8.turn_no ((Turn.refl _ _).alloc _)) _ 1 [.slice a8 n8' c8] (by simp [Act.eval]) (src_one Try.underlying56 w8 _ rfl) (by omega) (by unfold maxLen; omega) ?_
        intro v9 w9 o9 g9
        obtain ⟨c9, f9, F9⟩ := Fd.of blk8 on8 (by decide) ((Turn.refl _ _).alloc _) o9 g9 2 _ rfl
        obtain ⟨a9, n9, c9', hv9⟩ := o9.form
        subst hv9
        have t9 : Turn (fun k => (Value.slice ab nb cb).ownBlock = some k ∨ k = p ∨ (Value.slice an nn cn).ownBlock = some k) w7 w9 := (t8'.alloc _).trans g9.turn (fun _ _ q => .inr (.inr q))
        refine hK.out _ _ t9 (fun hHeld => ?_)
        clear hK
        refine' wpAnyH_take (i := 10) (v := .pointer (some ⟨p, 0, none⟩)) rfl (by kernel_rfl) (by kernel_rfl) (by kernel_rfl) (fun _ _ _ h => h) (Or.inl ⟨by kernel_rfl, fun W' hW => ?zb10C⟩) hHeld ?ub10C
        · go_simp
        refine' wpAnyH_take (i := 11) (v := .pointer (some ⟨p, 2, none⟩)) rfl (by kernel_rfl) (by kernel_rfl) (by kernel_rfl) (fun _ _ _ h => h) (Or.inl ⟨by kernel_rfl, fun W' hW => ?zb11C⟩) hHeld ?ub11C
        · go_simp
        refine wpAnyH_ready (rs := [12]) (by kernel_rfl) (by simp) ?_
        refine AllReadyH.cons rfl (fun K hK => ?_) AllReadyH.nil
        go_simp
        refine hK.out _ _ (t9.setCell (p := ⟨p, 2, none⟩) (fun _ => .inr (.inl rfl)) _) (fun hHeld => ?_)
        clear hK
        refine wpAnyH_done (by kernel_rfl) ?_ _
        refine NoPanic.normal ?_
        have hend := note_end HH.out.1 HH.out.2.1 HH.out.2.2.1 HH.out.2.2.2.2.1 HH.out.2.2.2.2.2.1 HH.out.2.2.2.2.2.2.2.1 HH.out.2.2.2.2.2.2.2.2 (by rw [hLg]; exact HF1.out) HF3.out (by rw [hLw]; exact HF4.out) (by rw [hLm]; exact HF6.out) o8 t8 n8 (by rw [hLn]; exact F9) HM.out
        have HEnd := shutX hend
        clear hend F9 o9 g9 o8 t8 n8 t9 t8' hHeld c9 f9
        go_simp
        go_wp2_with fail
        go_end0
        exact ⟨rfl, HEnd.out⟩
      · go_simp
        refine hK.out _ _ (t8'.alloc _) (fun hHeld => ?_)
        clear hK
        refine wpAnyH_ready (rs := [4]) (by kernel_rfl) (by simp) ?_
        refine AllReadyH.cons rfl (fun K hK => ?_) AllReadyH.nil
        go_simp
        refine hK.out _ _ hHeld (fun hHeld => ?_)
        clear hK
        refine wpAnyH_ready (rs := [9]) (by kernel_rfl) (by simp) ?_
        refine AllReadyH.cons rfl (fun K hK => ?_) AllReadyH.nil
        refine step_append_src rfl (.tmp 53) (.tmp 57) rfl Try.underlying56 info25 rfl (.slice an nn cn) Ln (by simp [Act.eval]) (on8.turn_no ((Turn.refl _ _).alloc _)) _ 1 [.slice a8 n8' c8] (by simp [Act.eval]) (src_one Try.underlying56 w8 _ rfl) (by omega) (by unfold maxLen; omega) ?_
        intro v9 w9 o9 g9
        obtain ⟨c9, f9, F9⟩ := Fd.of blk8 on8 (by decide) ((Turn.refl _ _).alloc _) o9 g9 2 _ rfl
        obtain ⟨a9, n9, c9', hv9⟩ := o9.form
        subst hv9
        have t9 : Turn (fun k => (Value.slice ab nb cb).ownBlock = some k ∨ k = p ∨ (Value.slice an nn cn).ownBlock = some k) w7 w9 := (t8'.alloc _).trans g9.turn (fun _ _ q => .inr (.inr q))
        refine hK.out _ _ t9 (fun hHeld => ?_)
        clear hK
        refine' wpAnyH_take (i := 10) (v := .pointer (some ⟨p, 0, none⟩)) rfl (by kernel_rfl) (by kernel_rfl) (by kernel_rfl) (fun _ _ _ h => h) (Or.inl ⟨by kernel_rfl, fun W' hW => ?zc10C⟩) hHeld ?uc10C
        · go_simp
        refine' wpAnyH_take (i := 11) (v := .pointer (some ⟨p, 2, none⟩)) rfl (by kernel_rfl) (by kernel_rfl) (by kernel_rfl) (fun _ _ _ h => h) (Or.inl ⟨by kernel_rfl, fun W' hW => ?zc11C⟩) hHeld ?uc11C
        · go_simp
        refine wpAnyH_ready (rs := [12]) (by kernel_rfl) (by simp) ?_
        refine AllReadyH.cons rfl (fun K hK => ?_) AllReadyH.nil
        go_simp
        refine hK.out _ _ (t9.setCell (p := ⟨p, 2, none⟩) (fun _ => .inr (.inl rfl)) _) (fun hHeld => ?_)
        clear hK
        refine wpAnyH_done (by kernel_rfl) ?_ _
        refine NoPanic.normal ?_
        have hend := note_end HH.out.1 HH.out.2.1 HH.out.2.2.1 HH.out.2.2.2.2.1 HH.out.2.2.2.2.2.1 HH.out.2.2.2.2.2.2.2.1 HH.out.2.2.2.2.2.2.2.2 (by rw [hLg]; exact HF1.out) HF3.out (by rw [hLw]; exact HF4.out) (by rw [hLm]; exact HF6.out) o8 t8 n8 (by rw [hLn]; exact F9) HM.out
        have HEnd := shutX hend
        clear hend F9 o9 g9 o8 t8 n8 t9 t8' hHeld c9 f9
        go_simp
        go_wp2_with fail
        go_end0
        exact ⟨rfl, HEnd.out⟩
  · obtain ⟨w5, hw5⟩ : ∃ x, w4.setCell ⟨p, 1, none⟩ (.slice a4 n4 c4') = x := ⟨_, rfl⟩
    rw [hw5] at F4 ⊢
    have blk5 : w5.heap[p]? = some (.cells #[.slice ag1 ng1 cg1, .slice a4 n4 c4', vn, vm] 58 (0, 0)) := F4.blk
    have T25 : Turn (fun k => k = p ∨ (Value.slice aw nw cw).ownBlock = some k) w2 w5 := F3.turn.of_no.trans F4.turn (fun _ _ q => q)
    have om5 : Own w5 5 vm Lm := by
      rw [← hLm]
      refine (HH.out.1.om.turn HF1.out.turn (fun g hg q => ?_)).turn T25 (fun g hg q => ?_)
      · exact q.elim (fun q => own_off HH.out.1.blk HH.out.1.om (by decide) (by rw [← q]; exact hg)) (fun q => own_apart HH.out.1.om HH.out.1.og (by decide) hg q)
      · exact q.elim (fun q => own_off HH.out.1.blk HH.out.1.om (by decide) (by rw [← q]; exact hg)) (fun q => own_apart HH.out.1.om HH.out.1.ow (by decide) hg q)
    have on5 : Own w5 25 vn Ln := by
      rw [← hLn]
      refine (HH.out.1.on.turn HF1.out.turn (fun g hg q => ?_)).turn T25 (fun g hg q => ?_)
      · exact q.elim (fun q => own_off HH.out.1.blk HH.out.1.on (by decide) (by rw [← q]; exact hg)) (fun q => HH.out.1.gn g q hg)
      · exact q.elim (fun q => own_off HH.out.1.blk HH.out.1.on (by decide) (by rw [← q]; exact hg)) (fun q => HH.out.1.wn g q hg)
    have c35 : w5.cell? ⟨p, 3, none⟩ = some vm := by rw [cell_of_row w5 p 3 _ 58 (0, 0) blk5]; rfl
    obtain ⟨am, cm, hvm, _⟩ := om5.len
    rw [hml] at hvm
    have hvm' : vm = .slice am Es.length cm := hvm
    subst hvm'
    have hmk := mark_val Es.length
    obtain ⟨mm, hmm⟩ : ∃ m, markOf Es.length = m := ⟨_, rfl⟩
    rw [hmm] at hmk
    have HM := shutX hmm
    clear hmm
    have HF3 := shutX F3
    have HF4 := shutX F4
    clear hvm o4 g4 o3 g3 hw5 c4 f4 c13 hpl3 hpl c12 F3 F4 ow2
    go_upto_region 4 with (at_builtin; refine wpList_append_src rfl (.tmp 43) (.tmp 45) rfl Try.underlying25 Try.info5 rfl _ Lm rfl (om5.turn_no ((Turn.refl _ _).alloc _)) _ 1 (List.map bv [mm]) rfl (src_byte Try.underlying25 _ _ mm (by first | rfl | exact hmk)) (by omega) (by unfold maxLen; omega) ?_; intro v6 w6 o6 g6 _; obtain ⟨c6, f6, F6⟩ := Fd.of blk5 om5 (by decide) ((Turn.refl _ _).alloc _) o6 g6 3 _ rfl; obtain ⟨a6, n6, c6', hv6⟩ := o6.form; subst hv6)
    obtain ⟨w7, hw7⟩ : ∃ x, w6.setCell ⟨p, 3, none⟩ (.slice a6 n6 c6') = x := ⟨_, rfl⟩
    rw [hw7] at F6 ⊢
    have blk7 : w7.heap[p]? = some (.cells #[.slice ag1 ng1 cg1, .slice a4 n4 c4', vn, .slice a6 n6 c6'] 58 (0, 0)) := F6.blk
    have on7 : Own w7 25 vn Ln := on5.turn F6.turn (fun g hg q => q.elim (fun q => own_off blk5 on5 (by decide) (by rw [← q]; exact hg)) (fun q => own_apart on5 om5 (by decide) hg q))
    have ob7 : Own w7 5 (.slice ab nb cb) (W.map bv) := by
      have kb := HH.out.2.2.2.2.2.1
      refine ((HH.out.2.2.1.turn HF1.out.turn (fun g hg q => kb g hg (q.elim .inl (fun q => .inr (.inl q))))).turn T25 (fun g hg q => kb g hg (q.elim .inl (fun q => .inr (.inr (.inl q)))))).turn F6.turn (fun g hg q => kb g hg (q.elim .inl (fun q => .inr (.inr (.inr (.inr q))))))
    have c27 : w7.cell? ⟨p, 2, none⟩ = some vn := by rw [cell_of_row w7 p 2 _ 58 (0, 0) blk7]; rfl
    have hpl7 : p < w7.heap.size := lt_of_obj blk7
    obtain ⟨an, nn, cn, hvn⟩ := on7.form
    have hvn' : vn = .slice an nn cn := hvn
    subst hvn'
    have cf := full35 w7.drew (.slice ab nb cb) W mm (ob7.turn_no ((Turn.refl no w7).drew)) (by rw [HN.out]; omega)
    have bp : (Value.slice ab nb cb).ownBlock ≠ some p := fun q => HH.out.2.2.2.2.2.1 p q (.inl rfl)
    have bn : ∀ g, (Value.slice an nn cn).ownBlock = some g → (Value.slice ab nb cb).ownBlock ≠ some g := fun g hg q => HH.out.2.2.2.2.2.1 g q (.inr (.inr (.inr (.inl hg))))
    have HF6 := shutX F6
    clear hvn o6 g6 hw7 c6 f6 c35 F6 om5 on5 blk5 T25 blk2 ob7
    refine wp_region_noPanic ?_
    refine wp_region_held_drew (S := (fun W' => Turn (fun k => (Value.slice ab nb cb).ownBlock = some k ∨ k = p ∨ (Value.slice an nn cn).ownBlock = some k) w7 W')) (by kernel_rfl) ((Turn.refl _ w7).drew) (fun hHeld => ?_)
    refine' wpAnyH_take (i := 0) (v := .pointer (some ⟨p, 0, none⟩)) rfl (by kernel_rfl) (by kernel_rfl) (by kernel_rfl) (fun _ _ _ h => h) (Or.inl ⟨by kernel_rfl, fun W' hW => ?y1D⟩) hHeld ?r1D
    · go_simp
    refine' wpAnyH_take (i := 1) (v := .pointer (some ⟨p, 0, none⟩)) rfl (by kernel_rfl) (by kernel_rfl) (by kernel_rfl) (fun _ _ _ h => h) (Or.inl ⟨by kernel_rfl, fun W' hW => ?y2D⟩) hHeld ?r2D
    · go_simp
    refine' wpAnyH_take (i := 2) (v := .pointer (some ⟨p, 0, none⟩)) rfl (by kernel_rfl) (by kernel_rfl) (by kernel_rfl) (fun _ _ _ h => h) (Or.inl ⟨by kernel_rfl, fun W' hW => ?y3D⟩) hHeld ?r3D
    · go_simp
    refine' wpAnyH_take (i := 3) (v := .pointer (some ⟨p, 2, none⟩)) rfl (by kernel_rfl) (by kernel_rfl) (by kernel_rfl) (fun _ _ _ h => h) (Or.inl ⟨by kernel_rfl, fun W' hW => ?y4D⟩) hHeld ?r4D
    · go_simp
    refine' wpAnyH_take (i := 5) (v := .slice ab nb cb) rfl (by kernel_rfl) (by kernel_rfl) (by kernel_rfl) (fun _ _ _ h => h) (Or.inl ⟨by kernel_rfl, fun W' hW => ?y5D⟩) hHeld ?r5D
    · go_simp
    refine' wpAnyH_take (i := 6) (v := .int .u8 mm.toNat) rfl (by kernel_rfl) (by kernel_rfl) (by kernel_rfl) (fun _ _ _ h => h) (Or.inl ⟨by kernel_rfl, fun W' hW => ?y6D⟩) hHeld ?r6D
    · go_simp
    refine wpAnyH_ready (rs := [4, 7]) (by kernel_rfl) (by simp) ?_
    refine AllReadyH.cons rfl (fun K hK => ?_) (AllReadyH.cons rfl (fun K hK => ?_) AllReadyH.nil)
    · go_simp
      refine hK.out _ _ hHeld (fun hHeld => ?_)
      clear hK
      refine wpAnyH_ready (rs := [7]) (by kernel_rfl) (by simp) ?_
      refine AllReadyH.cons rfl (fun K hK => ?_) AllReadyH.nil
      go_simp
      refine cf.mono ?_
      rintro e w8 ⟨v8, rfl, o8, t8, n8⟩
      have t8 := (((Turn.refl no w7).drew).of_no).trans t8 (fun _ _ q => q)
      have n8 : Near w7 (.slice ab nb cb) v8 := n8
      have on8 := on7.turn t8 (fun g hg q => bn g hg q)
      have blk8 := t8.obj blk7 bp
      have c28 := t8.keep c27 bp
      have hpl8 : p < w8.heap.size := lt_of_obj blk8
      obtain ⟨a8, n8', c8, hv8⟩ := o8.form
      subst hv8
      have t8' : Turn (fun k => (Value.slice ab nb cb).ownBlock = some k ∨ k = p ∨ (Value.slice an nn cn).ownBlock = some k) w7 w8 := t8.mono (fun _ _ q => .inl q)
      refine hK.out _ _ t8' (fun hHeld => ?_)
      clear hK cf
      refine wpAnyH_ready (rs := [8]) (by kernel_rfl) (by simp) ?_
      refine AllReadyH.cons rfl (fun K hK => ?_) AllReadyH.nil
      go_simp
      refine hK.out _ _ (t8'.alloc _) (fun hHeld => ?_)
      clear hK
      refine wpAnyH_ready (rs := [9]) (by kernel_rfl) (by simp) ?_
      refine AllReadyH.cons rfl (fun K hK => ?_) AllReadyH.nil
      refine step_append_src rfl (.tmp 53) (.tmp 57) rfl Try.underlying56 info25 rfl (.slice an nn cn) Ln (by simp [Act.eval]) (on8.turn_no ((Turn.refl _ _).alloc _)) _ 1 [.slice a8 n8' c8] (by simp [Act.eval]) (src_one Try.underlying56 w8 _ rfl) (by omega) (by unfold maxLen; omega) ?_
      intro v9 w9 o9 g9
      obtain ⟨c9, f9, F9⟩ := Fd.of blk8 on8 (by decide) ((Turn.refl _ _).alloc _) o9 g9 2 _ rfl
      obtain ⟨a9, n9, c9', hv9⟩ := o9.form
      subst hv9
      have t9 : Turn (fun k => (Value.slice ab nb cb).ownBlock = some k ∨ k = p ∨ (Value.slice an nn cn).ownBlock = some k) w7 w9 := (t8'.alloc _).trans g9.turn (fun _ _ q => .inr (.inr q))
      refine hK.out _ _ t9 (fun hHeld => ?_)
      clear hK
      refine' wpAnyH_take (i := 10) (v := .pointer (some ⟨p, 0, none⟩)) rfl (by kernel_rfl) (by kernel_rfl) (by kernel_rfl) (fun _ _ _ h => h) (Or.inl ⟨by kernel_rfl, fun W' hW => ?za10D⟩) hHeld ?ua10D
      · go_simp
      refine' wpAnyH_take (i := 11) (v := .pointer (some ⟨p, 2, none⟩)) rfl (by kernel_rfl) (by kernel_rfl) (by kernel_rfl) (fun _ _ _ h => h) (Or.inl ⟨by kernel_rfl, fun W' hW => ?za11D⟩) hHeld ?ua11D
      · go_simp
      refine wpAnyH_ready (rs := [12]) (by kernel_rfl) (by simp) ?_
      refine AllReadyH.cons rfl (fun K hK => ?_) AllReadyH.nil
      go_simp
      refine hK.out _ _ (t9.setCell (p := ⟨p, 2, none⟩) (fun _ => .inr (.inl rfl)) _) (fun hHeld => ?_)
      clear hK
      refine wpAnyH_done (by kernel_rfl) ?_ _
      refine NoPanic.normal ?_
      have hend := note_end HH.out.1 HH.out.2.1 HH.out.2.2.1 HH.out.2.2.2.2.1 HH.out.2.2.2.2.2.1 HH.out.2.2.2.2.2.2.2.1 HH.out.2.2.2.2.2.2.2.2 (by rw [hLg]; exact HF1.out) HF3.out (by rw [hLw]; exact HF4.out) (by rw [hLm]; exact HF6.out) o8 t8 n8 (by rw [hLn]; exact F9) HM.out
      have HEnd := shutX hend
      clear hend F9 o9 g9 o8 t8 n8 t9 t8' hHeld c9 f9
      go_simp
      go_wp2_with fail
      go_end0
      exact ⟨rfl, HEnd.out⟩
    · go_simp
      refine cf.mono ?_
      rintro e w8 ⟨v8, rfl, o8, t8, n8⟩
      have t8 := (((Turn.refl no w7).drew).of_no).trans t8 (fun _ _ q => q)
      have n8 : Near w7 (.slice ab nb cb) v8 := n8
      have on8 := on7.turn t8 (fun g hg q => bn g hg q)
      have blk8 := t8.obj blk7 bp
      have c28 := t8.keep c27 bp
      have hpl8 : p < w8.heap.size := lt_of_obj blk8
      obtain ⟨a8, n8', c8, hv8⟩ := o8.form
      subst hv8
      have t8' : Turn (fun k => (Value.slice ab nb cb).ownBlock = some k ∨ k = p ∨ (Value.slice an nn cn).ownBlock = some k) w7 w8 := t8.mono (fun _ _ q => .inl q)
      refine hK.out _ _ t8' (fun hHeld => ?_)
      clear hK cf
      refine wpAnyH_ready (rs := [4, 8]) (by kernel_rfl) (by simp) ?_
      refine AllReadyH.cons rfl (fun K hK => ?_) (AllReadyH.cons rfl (fun K hK => ?_) AllReadyH.nil)
      · go_simp
        refine hK.out _ _ hHeld (fun hHeld => ?_)
        clear hK
        refine wpAnyH_ready (rs := [8]) (by kernel_rfl) (by simp) ?_
        refine AllReadyH.cons rfl (fun K hK => ?_) AllReadyH.nil
        go_simp
        refine hK.out _ _ (t8'.alloc _) (fun hHeld => ?_)
        clear hK
        refine wpAnyH_ready (rs := [9]) (by kernel_rfl) (by simp) ?_
        refine AllReadyH.cons rfl (fun K hK => ?_) AllReadyH.nil
        refine step_append_src rfl (.tmp 53) (.tmp 57) rfl Try.underlying56 info25 rfl (.slice an nn cn) Ln (by simp [Act.eval]) (on8.turn_no ((Turn.refl _ _).alloc _)) _ 1 [.slice a8 n8' c8] (by simp [Act.eval]) (src_one Try.underlying56 w8 _ rfl) (by omega) (by unfold maxLen; omega) ?_
        intro v9 w9 o9 g9
        obtain ⟨c9, f9, F9⟩ := Fd.of blk8 on8 (by decide) ((Turn.refl _ _).alloc _) o9 g9 2 _ rfl
        obtain ⟨a9, n9, c9', hv9⟩ := o9.form
        subst hv9
        have t9 : Turn (fun k => (Value.slice ab nb cb).ownBlock = some k ∨ k = p ∨ (Value.slice an nn cn).ownBlock = some k) w7 w9 := (t8'.alloc _).trans g9.turn (fun _ _ q => .inr (.inr q))
        refine hK.out _ _ t9 (fun hHeld => ?_)
        clear hK
        refine' wpAnyH_take (i := 10) (v := .pointer (some ⟨p, 0, none⟩)) rfl (by kernel_rfl) (by kernel_rfl) (by kernel_rfl) (fun _ _ _ h => h) (Or.inl ⟨by kernel_rfl, fun W' hW => ?zb10D⟩) hHeld ?ub10D
        · go_simp
        refine' wpAnyH_take (i := 11) (v := .pointer (some ⟨p, 2, none⟩)) rfl (by kernel_rfl) (by kernel_rfl) (by kernel_rfl) (fun _ _ _ h => h) (Or.inl ⟨by kernel_rfl, fun W' hW => ?zb11D⟩) hHeld ?ub11D
        · go_simp
        refine wpAnyH_ready (rs := [12]) (by kernel_rfl) (by simp) ?_
        refine AllReadyH.cons rfl (fun K hK => ?_) AllReadyH.nil
        go_simp
        refine hK.out _ _ (t9.setCell (p := ⟨p, 2, none⟩) (fun _ => .inr (.inl rfl)) _) (fun hHeld => ?_)
        clear hK
        refine wpAnyH_done (by kernel_rfl) ?_ _
        refine NoPanic.normal ?_
        have hend := note_end HH.out.1 HH.out.2.1 HH.out.2.2.1 HH.out.2.2.2.2.1 HH.out.2.2.2.2.2.1 HH.out.2.2.2.2.2.2.2.1 HH.out.2.2.2.2.2.2.2.2 (by rw [hLg]; exact HF1.out) HF3.out (by rw [hLw]; exact HF4.out) (by rw [hLm]; exact HF6.out) o8 t8 n8 (by rw [hLn]; exact F9) HM.out
        have HEnd := shutX hend
        clear hend F9 o9 g9 o8 t8 n8 t9 t8' hHeld c9 f9
        go_simp
        go_wp2_with fail
        go_end0
        exact ⟨rfl, HEnd.out⟩
      · go_simp
        refine hK.out _ _ (t8'.alloc _) (fun hHeld => ?_)
        clear hK
        refine wpAnyH_ready (rs := [4]) (by kernel_rfl) (by simp) ?_
        refine AllReadyH.cons rfl (fun K hK => ?_) AllReadyH.nil
        go_simp
        refine hK.out _ _ hHeld (fun hHeld => ?_)
        clear hK
        refine wpAnyH_ready (rs := [9]) (by kernel_rfl) (by simp) ?_
        refine AllReadyH.cons rfl (fun K hK => ?_) AllReadyH.nil
        refine step_append_src rfl (.tmp 53) (.tmp 57) rfl Try.underlying56 info25 rfl (.slice an nn cn) Ln (by simp [Act.eval]) (on8.turn_no ((Turn.refl _ _).alloc _)) _ 1 [.slice a8 n8' c8] (by simp [Act.eval]) (src_one Try.underlying56 w8 _ rfl) (by omega) (by unfold maxLen; omega) ?_
        intro v9 w9 o9 g9
        obtain ⟨c9, f9, F9⟩ := Fd.of blk8 on8 (by decide) ((Turn.refl _ _).alloc _) o9 g9 2 _ rfl
        obtain ⟨a9, n9, c9', hv9⟩ := o9.form
        subst hv9
        have t9 : Turn (fun k => (Value.slice ab nb cb).ownBlock = some k ∨ k = p ∨ (Value.slice an nn cn).ownBlock = some k) w7 w9 := (t8'.alloc _).trans g9.turn (fun _ _ q => .inr (.inr q))
        refine hK.out _ _ t9 (fun hHeld => ?_)
        clear hK
        refine' wpAnyH_take (i := 10) (v := .pointer (some ⟨p, 0, none⟩)) rfl (by kernel_rfl) (by kernel_rfl) (by kernel_rfl) (fun _ _ _ h => h) (Or.inl ⟨by kernel_rfl, fun W' hW => ?zc10D⟩) hHeld ?uc10D
        · go_simp
        refine' wpAnyH_take (i := 11) (v := .pointer (some ⟨p, 2, none⟩)) rfl (by kernel_rfl) (by kernel_rfl) (by kernel_rfl) (fun _ _ _ h => h) (Or.inl ⟨by kernel_rfl, fun W' hW => ?zc11D⟩) hHeld ?uc11D
        · go_simp
        refine wpAnyH_ready (rs := [12]) (by kernel_rfl) (by simp) ?_
        refine AllReadyH.cons rfl (fun K hK => ?_) AllReadyH.nil
        go_simp
        refine hK.out _ _ (t9.setCell (p := ⟨p, 2, none⟩) (fun _ => .inr (.inl rfl)) _) (fun hHeld => ?_)
        clear hK
        refine wpAnyH_done (by kernel_rfl) ?_ _
        refine NoPanic.normal ?_
        have hend := note_end HH.out.1 HH.out.2.1 HH.out.2.2.1 HH.out.2.2.2.2.1 HH.out.2.2.2.2.2.1 HH.out.2.2.2.2.2.2.2.1 HH.out.2.2.2.2.2.2.2.2 (by rw [hLg]; exact HF1.out) HF3.out (by rw [hLw]; exact HF4.out) (by rw [hLm]; exact HF6.out) o8 t8 n8 (by rw [hLn]; exact F9) HM.out
        have HEnd := shutX hend
        clear hend F9 o9 g9 o8 t8 n8 t9 t8' hHeld c9 f9
        go_simp
        go_wp2_with fail
        go_end0
        exact ⟨rfl, HEnd.out⟩
end Go.Proofs.Ytfjdojodbhmmaaa
