/- Texts in one. -/
import Derived.Test.YtgbcdjjnpadddaaGreatDoorPa
import Derived.Shelf.SlIter.Collect
import Derived.Maps.AppendAt
/- The pairs of a map, one by one. -/
namespace Go.Proofs.YtgbcdjjnpadddaaGreatDoor
open Go.RowKit Go.Maps Go.Sort Go.Shelf
set_option linter.unusedVariables false

/-- The pairs of a map that have come so far. -/
def CollO {H : Type} (D0 : DataW H) (left : Lit → Bool) (ss : List (Nat × Nat)) : Prop := ss.Nodup ∧ (∀ x ∈ ss, Off64 x) ∧ ∀ x, Off64 x → (x ∈ ss ↔ (has D0 (offKey Tryz.prog x) = true ∧ left (offKey Tryz.prog x) = false))
section
variable {H : Type} {D0 : DataW H} {left : Lit → Bool} {ss : List (Nat × Nat)}
set_option maxRecDepth 100000 in
theorem CollO.start (D0 : DataW H) : CollO D0 (has D0) [] := ⟨List.nodup_nil, fun x hx => by simp at hx, fun x _ => by cases has D0 (offKey Tryz.prog x) <;> simp⟩
set_option maxRecDepth 100000 in
theorem CollO.step (h : CollO D0 left ss) {x : Nat × Nat} (hx : Off64 x) {y : DataW H} (hlk : left (offKey Tryz.prog x) = true) (hat : ∀ zd, D0.atKey (offKey Tryz.prog x) zd = y) : CollO D0 (fun z => left z && !z.sameKey (offKey Tryz.prog x)) (ss ++ [x]) := by
  have hhas : has D0 (offKey Tryz.prog x) = true := has_true_of_atKey hat
  have hnew : x ∉ ss := fun q => by have := ((h.2.2 x hx).1 q).2; rw [hlk] at this; cases this
  refine ⟨List.nodup_append.2 ⟨h.1, by simp, fun a ha b hb => by simp at hb; subst hb; exact fun e => hnew (e ▸ ha)⟩, fun y hy => ?_, fun y hy => ?_⟩
  · rcases List.mem_append.1 hy with q | q
    · exact h.2.1 y q
    · simp at q
      rw [q]
      exact hx
  · by_cases e : y = x
    · subst e
      have hs := WideAt.sameKey_self (offKey_key y hx)
      simp [hhas, hs]
    · have hs : (offKey Tryz.prog y).sameKey (offKey Tryz.prog x) = false := sameKey_ne (fun q => e (offKey_inj hy hx q))
      simp [h.2.2 y hy, e, hs]
end
/-- All pairs of a map. -/
def AllO {H : Type} (D0 : DataW H) (ss : List (Nat × Nat)) : Prop := ss.Nodup ∧ (∀ x ∈ ss, Off64 x) ∧ (∀ x, Off64 x → (x ∈ ss ↔ has D0 (offKey Tryz.prog x) = true)) ∧ ss.length ≤ Maps.size D0
set_option maxRecDepth 100000 in
theorem CollO.all {H : Type} {D0 : DataW H} {left : Lit → Bool} {ss : List (Nat × Nat)} (h : CollO D0 left ss) (hl : ∀ kl, left kl = false) (hle : ss.length ≤ Maps.size D0) : AllO D0 ss := ⟨h.1, h.2.1, fun x hx => by rw [h.2.2 x hx, hl]; simp, hle⟩

set_option maxRecDepth 100000 in
set_option maxHeartbeats 1000000 in
theorem keys58 {H : Type} (n : Nat) (hn : 1 ≤ n) (l Bm b nn : Nat) (D0 : DataW H) {R : Value → Option (DataW H × List MemPlace)} (J : List (Nat × Nat) → World → Prop)
    (hY : ∀ pre x W, J pre W → pre.length < Maps.size D0 → YieldAt Fence.wide (n - 1) Tryz.prog l #[offV x] W fun e W' => e = .returned (.bool true) ∧ J (pre ++ [x]) W' ∧ KeepsWalks W W')
    (W : World) (hJ : AbidesFrom W.heap.size J) (hm : W.cell? ⟨Bm, 0, none⟩ = some (.map (some b))) (hown : W.ownsMap Tryz.prog 101 R b nn D0) (h0 : J [] W) :
    CallsIn Fence.wide n Tryz.prog 58 #[.func (.yield l) #[] #[], .pointer (some ⟨Bm, 0, none⟩)] W fun e W' => (∃ v, e = .returned v) ∧ ∃ ss : List (Nat × Nat), AllO D0 ss ∧ J ss W' := by
  have t94 := Tryz.underlying94
  have hro : Fence.wide.round = none := rfl
  refine callsIn_of_wp Tryz.func58 rfl trivial ?_ hro
  simp only [Tryz.ntmps58, List.size_toArray, List.length_cons, List.length_nil, Nat.reduceAdd, Nat.reduceSub, Array.replicate_succ, Array.replicate_zero, List.push_toArray, List.append_toArray, List.nil_append, List.cons_append]
  gi_wp2_with (first
    | (gi_at_range; refine wpListIn_range_own _ rfl _ 94 rfl 101 52 law101 t94 _ b nn _ rfl hown ?_; intro w0 hrg0 hg0 hs0)
    | gi_in)
  go_frame
  gi_loopw [3] (fun _ wr => ∃ (left : Lit → Bool) (cnt : Nat) (ss : List (Nat × Nat)), wr.ranges Tryz.prog 101 R b W.heap.size nn D0 left cnt ∧ ss.length + cnt ≤ Maps.size D0 ∧ CollO D0 left ss ∧ J ss wr)
    (fun _ wr => wr.rangeLeft b W.heap.size)
  case atStart =>
    exact ⟨_, _, [], hrg0, by simp, CollO.start D0, hJ [] W w0 none h0 hg0 (fun r e => by cases e)⟩
  case round =>
    obtain ⟨left, cnt, ss, hrg, hcs, hC, hJs⟩ := hrel
    gi_wp2_with (first
      | (gi_at_next; refine wpListIn_next_ranges _ rfl _ rfl 101 law101 R offV id (fun key kl hk => by obtain ⟨x, hx, _⟩ := offKey_inv hk; exact ⟨x, hx⟩) (fun v _ _ => ⟨v, rfl⟩) b W.heap.size nn _ _ _ rfl hrg ?_ ?_)
      | gi_in)
    · intro hc0 hl0
      gi_wp2
      go_end0
      exact ⟨⟨_, rfl⟩, ss, hC.all hl0 (by omega), hJs⟩
    · intro x1 x2 c kl yd yp w2 cnt2 hkey hlk hv hat hrg2 hlt hg2 hs2 hen
      obtain ⟨x, ex0⟩ : ∃ x : Nat × Nat, (x1, x2) = x := ⟨_, rfl⟩
      have ex1 : x1 = x.1 := by rw [← ex0]
      have ex2 : x2 = x.2 := by rw [← ex0]
      rw [ex0] at hkey hen
      obtain ⟨x', ex, hx⟩ := offKey_inv hkey
      obtain rfl : x = x' := offV_inj ex
      obtain rfl : kl = offKey Tryz.prog x := by
        have := offKey_of x hx
        rw [hkey] at this
        exact Option.some.inj this
      have hJ2 : J ss w2 := hJ ss wr w2 (some W.heap.size) hJs hg2 (fun r e => by cases e; exact ⟨Nat.le_refl _, hrg.iter_walk⟩)
      obtain ⟨W3, hW3⟩ : ∃ W3, w2.alloc (.cells #[.int .u64 x.1, .int .u64 x.2] 101) = W3 := ⟨_, rfl⟩
      have hg3 : w2.grownBy W3 none := by rw [← hW3]; exact World.grownBy_alloc w2 _ none
      have hJ3 : J ss W3 := hJ ss w2 W3 none hJ2 hg3 (fun r e => by cases e)
      have hk3 : KeepsWalks w2 W3 := by rw [← hW3]; exact KeepsWalks.alloc _ _
      obtain ⟨fn, tmps, assign, body, hy, hR⟩ := hY ss x W3 hJ3 (by omega)
      unfold offV at hy
      clear hs2
      simp only [offV] at hen ⊢
      have c0 : W3.cell? ⟨w2.heap.size, 0, none⟩ = some (.int .u64 x.1) := by rw [← hW3]; exact (Row.new w2 _ 101).cell 0 _ rfl
      have c1 : W3.cell? ⟨w2.heap.size, 1, none⟩ = some (.int .u64 x.2) := by rw [← hW3]; exact (Row.new w2 _ 101).cell 1 _ rfl
      gi_wp2
      refine hR.mono ?_
      rintro e W4 ⟨rfl, hJ4, hk4⟩
      gi_wp2
      have hrg4 := hrg2.of_walks (hk3.trans hk4)
      go_roundw
      case rel => exact ⟨_, cnt2, ss ++ [x], hrg4, by simp; omega, hC.step hx hlk hat, hJ4⟩
      case measure => rw [hrg4.left_eq, hrg.left_eq]; exact hlt
end Go.Proofs.YtgbcdjjnpadddaaGreatDoor

/- Collect of pairs, whatever the iterator. -/
namespace Go.Proofs.YtgbcdjjnpadddaaGreatDoor
open Go.RowKit Go.Maps Go.Sort Go.Shelf
set_option linter.unusedVariables false

def apAssign : Code := (Code.region 2 #[{ dst := some 5, op := Op.alloc 101, type := 0, pos := "iter.go:51", after := #[], guard := none }, { dst := none, op := Op.store 101 (Operand.tmp 5) (Operand.tmp 7), type := 0, pos := "iter.go:51", after := #[{ on := 0, ground := Ground.data }, { on := 0, ground := Ground.phase }], guard := none }] false)
def apBody : Code := (Code.block 1 (Code.region 3 #[{ dst := some 8, op := Op.load 31 (Operand.tmp 2), type := 31, pos := "iter.go:52", after := #[], guard := none }, { dst := some 9, op := Op.load 101 (Operand.tmp 5), type := 101, pos := "iter.go:52", after := #[], guard := none }, { dst := some 10, op := Op.buildSlice 31 1 #[(0, Operand.tmp 9)], type := 31, pos := "iter.go:52", after := #[{ on := 1, ground := Ground.data }], guard := none }, { dst := some 11, op := Op.call { callee := Callee.builtin Builtin.append, args := #[Operand.tmp 8, Operand.tmp 10], argTypes := #[31, 31] }, type := 31, pos := "iter.go:52", after := #[{ on := 0, ground := Ground.data }, { on := 2, ground := Ground.data }], guard := none }, { dst := none, op := Op.store 31 (Operand.tmp 2) (Operand.tmp 11), type := 0, pos := "iter.go:52", after := #[{ on := 3, ground := Ground.data }, { on := 3, ground := Ground.chain }, { on := 0, ground := Ground.phase }, { on := 1, ground := Ground.phase }, { on := 2, ground := Ground.phase }, { on := 3, ground := Ground.phase }], guard := none }] false))
/-- The loop's record. -/
def apRec (fn : FuncId) (sv : Value) (B D : Nat) (st : LoopState) (pend : Option Code) : Loop :=
  { state := st, pending := pend, fn, tmps := #[.slice none 0 0, sv, .pointer (some ⟨B, 0, none⟩), undef, .slice none 0 0, undef, sv, undef, undef, undef, undef, undef, undef], params := #[7], assign := apAssign, body := apBody, defers := D }
structure ApAt (w0 : World) (fn : FuncId) (sv : Value) (B l D : Nat) (ss : List (Nat × Nat)) (W : World) : Prop where
  box : ∃ v, W.heap[B]? = some (.cells #[v] 31 (0, 0)) ∧ W.ownsRow w0.heap.size 101 2 v ss.length (ofC ss)
  L : W.heap[l]? = some (.loop (apRec fn sv B D .ready none))
  K : W.heap[D]? = some (.deferred (some []))
  below : Below w0.heap.size w0 W
theorem ap_abides (w0 : World) (fn : FuncId) (sv : Value) (B l D N : Nat) (hB : w0.heap.size ≤ N) : AbidesFrom N (ApAt w0 fn sv B l D) := fun s W W' row h hg hrow => by
  have hrow' : ∀ r, row = some r → ∃ o : Obj, W.heap[r]? = some o ∧ o.isWalk = true := fun r e => (hrow r e).2
  obtain ⟨v, hv, hr⟩ := h.box
  exact ⟨⟨v, (grownBy_keeps hg hrow' hv rfl).trans hv, ownsRow_abides_a hr hg hrow'⟩, (grownBy_keeps hg hrow' h.L rfl).trans h.L, (grownBy_keeps hg hrow' h.K rfl).trans h.K,
    h.below.grown hg h.below.size (fun k e => Nat.le_trans hB (hrow k e).1)⟩
theorem info101 : (Tryz.prog.info? 101).map (fun i => (i.zero, i.size, i.bytes)) = some (some (.agg #[.int .u64 0, .int .u64 0]), 2, 16) := by kernel_rfl
theorem two_cells (w : World) (a b : Value) (t : TypeId) : ∀ (j : Nat) u, [a, b][j]? = some u → (w.alloc (.cells #[a, b] t)).cell? ((⟨w.heap.size, 0, none⟩ : Addr).add j) = some u := fun j u hu => by
  rw [Addr.add_lit, Nat.zero_add]
  exact (Row.new w #[a, b] t).cell j u (by simpa using hu)
theorem ofC_app (l : List (Nat × Nat)) (x : Nat × Nat) : ofC (l ++ [x]) = ofC l ++ [.int .u64 x.1, .int .u64 x.2] := by simp [ofC, of2]

set_option maxRecDepth 100000 in
set_option maxHeartbeats 2000000 in
theorem apYield (m : Nat) (w0 : World) (fn : FuncId) (sv : Value) (B l D : Nat) (hBl : B ≠ l) (hDl : D ≠ l) (hDB : D ≠ B) (h0B : w0.heap.size ≤ B) (h0l : w0.heap.size ≤ l)
    (N : Nat) (hN : N ≤ maxLen) (hNb : N * 16 ≤ 140737488355328) (ss : List (Nat × Nat)) (x : Nat × Nat) (W : World) (h : ApAt w0 fn sv B l D ss W) (hlen : ss.length < N) :
    YieldAt Fence.wide m Tryz.prog l #[offV x] W fun e W' => e = .returned (.bool true) ∧ ApAt w0 fn sv B l D (ss ++ [x]) W' ∧ KeepsWalks W W' := by
  have hne : (31 : TypeId) ≠ 101 := by decide
  have t31 := Tryz.underlying31
  obtain ⟨i0, hi, hz0, hz1, hz2⟩ := info_parts info101
  obtain ⟨v, hv, hrow⟩ := h.box
  refine ⟨fn, #[.slice none 0 0, sv, .pointer (some ⟨B, 0, none⟩), undef, .slice none 0 0, undef, sv, offV x, undef, undef, undef, undef, undef], apAssign, apBody, by simpa [apRec] using run_yield (P := Tryz.prog) (args := #[offV x]) h.L rfl, roundIn_of_wpIn trivial ?_⟩
  -- the parameter's box
  obtain ⟨W1, hW1⟩ : ∃ W1, W.alloc (.cells #[.int .u64 x.1, .int .u64 x.2] 101) = W1 := ⟨_, rfl⟩
  have hs1 : W1.heap.size = W.heap.size + 1 := by rw [← hW1]; simp
  have hgA : W.grownBy W1 none := by rw [← hW1]; exact World.grownBy_alloc W _ none
  have hkA : KeepsWalks W W1 := by rw [← hW1]; exact KeepsWalks.alloc _ _
  have hlt : ∀ k, k < W.heap.size → W1.heap[k]? = W.heap[k]? := fun k hk => by rw [← hW1]; exact Below.heap_alloc _ _ k hk
  have hv1 : W1.heap[B]? = some (.cells #[v] 31 (0, 0)) := (hlt _ (Array.getElem?_eq_some_iff.1 hv).1).trans hv
  have hK1 : W1.heap[D]? = some (.deferred (some [])) := (hlt _ (Array.getElem?_eq_some_iff.1 h.K).1).trans h.K
  have hL1 : W1.heap[l]? = some (.loop (apRec fn sv B D .ready none)) := (hlt _ (Array.getElem?_eq_some_iff.1 h.L).1).trans h.L
  have hrow1 : W1.ownsRow w0.heap.size 101 2 v ss.length (ofC ss) := hrow.kept hgA (Classical.em _)
  have hb1 : Below w0.heap.size w0 W1 := by rw [← hW1]; exact h.below.alloc h.below.size _
  have R1 : Row W1 W.heap.size #[.int .u64 x.1, .int .u64 x.2] 101 := by rw [← hW1]; exact Row.new W _ 101
  have hl : l < W1.heap.size := (Array.getElem?_eq_some_iff.1 hL1).1
  have hlW : l < W.heap.size := (Array.getElem?_eq_some_iff.1 h.L).1
  have hbr := run_beginRound (P := Tryz.prog) hL1 rfl
  obtain ⟨W2, hW2⟩ : ∃ W2, W1.putObj l (.loop { apRec fn sv B D .ready none with state := .busy }) = W2 := ⟨_, rfl⟩
  rw [hW2] at hbr
  have hg2 : W1.grownBy W2 (some l) := by rw [← hW2]; exact grownBy_putObj_a _ _ _
  have hk2 : KeepsWalks W W2 := by rw [← hW2]; exact hkA.trans (KeepsWalks.putObj _ hL1 rfl)
  have hv2 : W2.heap[B]? = some (.cells #[v] 31 (0, 0)) := by rw [← hW2]; exact (World.putObj_heap_other hBl).trans hv1
  have hK2 : W2.heap[D]? = some (.deferred (some [])) := by rw [← hW2]; exact (World.putObj_heap_other hDl).trans hK1
  have hL2 : W2.heap[l]? = some (.loop { apRec fn sv B D .ready none with state := .busy }) := by rw [← hW2]; exact World.putObj_heap_same hl
  have hrow2 : W2.ownsRow w0.heap.size 101 2 v ss.length (ofC ss) := hrow1.kept hg2 (ownsRow_ne_a hrow1 hL1 (fun cur e => by first | cases e | exact hne (Obj.cells.inj e).2.1))
  have hb2 : Below w0.heap.size w0 W2 := hb1.grown hg2 hb1.size (fun k e => by cases e; exact h0l)
  have R2 : W2.heap[W.heap.size]? = some (.cells #[.int .u64 x.1, .int .u64 x.2] 101 (0, 0)) := by rw [← hW2]; exact (World.putObj_heap_other (by omega)).trans R1
  have p0 : W2.cell? ⟨W.heap.size, 0, none⟩ = some (.int .u64 x.1) := cell_of_row _ _ 0 _ 101 (0, 0) R2
  have p1 : W2.cell? ⟨W.heap.size, 1, none⟩ = some (.int .u64 x.2) := cell_of_row _ _ 1 _ 101 (0, 0) R2
  obtain ⟨hc2, hf2⟩ := cell_of_box_a hv2
  have hBlt : B < W2.heap.size := (Array.getElem?_eq_some_iff.1 hv2).1
  have hl2 : l < W2.heap.size := (Array.getElem?_eq_some_iff.1 hL2).1
  have hDlt : D < W2.heap.size := (Array.getElem?_eq_some_iff.1 hK2).1
  have ne_of : ∀ {j : Nat} {o : Obj}, W2.heap[j]? = some o → (∀ cur, o ≠ .cells cur 101 (0, 0)) → some j ≠ v.ownBlock := fun hj hno => by
    rcases ownsRow_ne_a hrow2 hj hno with e | e
    · rw [e]; simp
    · exact fun e' => e e'.symm
  clear hW2
  unfold apAssign offV
  gi_wp2_with gi_round_op_a
  unfold apBody
  clear R1 R2
  gi_wp2_with (first
    | (gi_at_builtin; refine wpListIn_append_own _ rfl _ _ 31 rfl w0.heap.size 101 i0 (.agg #[.int .u64 0, .int .u64 0]) 2 16 t31 hi hz0 hz1 hz2 rfl (by decide) _ _ _ rfl (hrow2.alloc _) ⟨W2.heap.size, 0, none⟩ 1 1 [.int .u64 x.1, .int .u64 x.2] rfl rfl (two_cells W2 _ _ 101) (fun u hu => by simp at hu; rcases hu with rfl | rfl <;> rfl) (by omega) (by omega) (by have := hb2.size; simp; omega) ?_; intro v' w3 hown' hg3 hnil3
       have hv3 : w3.heap[B]? = some (.cells #[v] 31 (0, 0)) := (hg3.block B (by simp; omega) (ne_of hv2 (fun cur e => by first | cases e | exact hne (Obj.cells.inj e).2.1))).trans ((Below.heap_alloc _ _ B hBlt).trans hv2)
       obtain ⟨hc3, hf3⟩ := cell_of_box_a hv3
       obtain ⟨g', cap', cur', rfl, hbase', hgb', hr1, hr2, hr3, hr4⟩ : ∃ g' cap' cur', v' = .slice (some ⟨g', 0, none⟩) (ss.length + 1) cap' ∧ w0.heap.size ≤ g' ∧ w3.heap[g']? = some (.cells cur' 101 (0, 0)) ∧ ss.length + 1 ≤ cap' ∧ cap' ≤ maxLen ∧ cur'.size = cap' * 2 ∧ cur'.toList.take ((ss.length + 1) * 2) = ofC ss ++ [.int .u64 x.1, .int .u64 x.2] := by
         rcases hown'.2 with ⟨_, h0⟩ | h'
         · exact absurd h0 (by omega)
         · exact h'
       go_frame)
    | gi_round_op_a)
  have hg3' : (W2.alloc (.cells #[.int .u64 x.1, .int .u64 x.2] 101)).grownBy w3 v.ownBlock := hg3
  have hL3 : w3.heap[l]? = some (.loop { apRec fn sv B D .ready none with state := .busy }) := (hg3'.block l (by simp; omega) (ne_of hL2 (fun cur e => by first | cases e | exact hne (Obj.cells.inj e).2.1))).trans ((Below.heap_alloc _ _ l hl2).trans hL2)
  have hK3 : w3.heap[D]? = some (.deferred (some [])) := (hg3'.block D (by simp; omega) (ne_of hK2 (fun cur e => by first | cases e | exact hne (Obj.cells.inj e).2.1))).trans ((Below.heap_alloc _ _ D hDlt).trans hK2)
  obtain ⟨w4, hw4⟩ : ∃ w4, w3.setCell ⟨B, 0, none⟩ (.slice (some ⟨g', 0, none⟩) (ss.length + 1) cap') = w4 := ⟨_, rfl⟩
  rw [hw4]
  have hg4 : w3.grownBy w4 (some B) := by rw [← hw4]; exact grownBy_setCell0_a _ _ _
  have hv4 : w4.heap[B]? = some (.cells #[.slice (some ⟨g', 0, none⟩) (ss.length + 1) cap'] 31 (0, 0)) := by rw [← hw4]; exact heap_setCell_box_a _ hv3
  have hL4 : w4.heap[l]? = some (.loop { apRec fn sv B D .ready none with state := .busy }) := (hg4.block l (Array.getElem?_eq_some_iff.1 hL3).1 (fun e => hBl (by cases e; rfl))).trans hL3
  have hK4 : w4.heap[D]? = some (.deferred (some [])) := (hg4.block D (Array.getElem?_eq_some_iff.1 hK3).1 (fun e => hDB (by cases e; rfl))).trans hK3
  have hrow4 := hown'.kept hg4 (ownsRow_ne_a hown' hv3 (fun cur e => by first | cases e | exact hne (Obj.cells.inj e).2.1))
  have hl4 : l < w4.heap.size := (Array.getElem?_eq_some_iff.1 hL4).1
  have hb3 : Below w0.heap.size w0 w3 := (hb2.alloc hb2.size _).grown hg3' (by have := hb2.size; simp; omega) (fun k e => (hrow2.lt k e).1)
  have hb4 : Below w0.heap.size w0 w4 := hb3.grown hg4 hb3.size (fun k e => by cases e; exact h0B)
  have hk4 : KeepsWalks W w4 := ((hk2.trans (KeepsWalks.alloc _ _)).trans (KeepsWalks.of_grownBy hg3' (ownsRow_not_walk_a (hrow2.alloc _)))).trans (by rw [← hw4]; exact KeepsWalks.setCell _ _ _)
  clear hw4
  refine ⟨_, _, run_endRound none hL4, rfl, ⟨⟨_, (World.putObj_heap_other hBl).trans hv4, ?_⟩, World.putObj_heap_same hl4, (World.putObj_heap_other hDl).trans hK4, hb4.grown (grownBy_putObj_a _ _ _) hb4.size (fun k e => by cases e; exact h0l)⟩, hk4.trans (KeepsWalks.putObj _ hL4 rfl)⟩
  have := hrow4.kept (grownBy_putObj_a w4 l (.loop { { apRec fn sv B D .ready none with state := .busy } with state := if (none : Option Code).isNone then .ready else .done, pending := none })) (ownsRow_ne_a hrow4 hL4 (fun cur e => by first | cases e | exact hne (Obj.cells.inj e).2.1))
  rw [ofC_app]
  simpa using this
end Go.Proofs.YtgbcdjjnpadddaaGreatDoor

/- A map's pairs, sorted. -/
namespace Go.Proofs.YtgbcdjjnpadddaaGreatDoor
open Go.RowKit Go.Maps Go.Sort Go.Shelf
set_option linter.unusedVariables false

set_option maxRecDepth 100000 in
set_option maxHeartbeats 2000000 in
theorem appendSeq89 (n : Nat) (hn : 2 ≤ n) (g : Nat) (lb : Array Value) (eg : ∀ args w, (callFunc g args).run Tryz.prog w = .ok (.enter g args) w)
    (Sp : List (Nat × Nat) → Prop) (N : Nat) (hN : N ≤ maxLen) (hNb : N * 16 ≤ 140737488355328) (w : World) (hseq : SeqGives Fence.wide (n - 1) Tryz.prog g lb offV Sp N w) :
    CallsIn Fence.wide n Tryz.prog 89 #[.slice none 0 0, .func (.func g) #[] lb] w fun e w' => ∃ (v : Value) (ss : List (Nat × Nat)), e = .returned v ∧ Sp ss ∧ w'.ownsRow w.heap.size 101 2 v ss.length (ofC ss) ∧ Below w.heap.size w w' := by
  have h1 : 1 ≤ n := by omega
  have hne : (31 : TypeId) ≠ 101 := by decide
  have hro : Fence.wide.round = none := rfl
  refine callsIn_of_wp_marks Tryz.func89 rfl trivial ?_ hro
  simp only [Tryz.ntmps89, List.size_toArray, List.length_cons, List.length_nil, Nat.reduceAdd, Nat.reduceSub, Array.replicate_succ, Array.replicate_zero, List.push_toArray, List.append_toArray, List.nil_append, List.cons_append]
  gi_wp2
  refine wpIn_rangeFunc ?_
  intro fn hfn
  rw [hro]
  obtain ⟨W0, hW0⟩ : ∃ W0, w.alloc (.cells #[.slice none 0 0] 31) = W0 := ⟨_, rfl⟩
  have hs0 : W0.heap.size = w.heap.size + 1 := by rw [← hW0]; simp
  have hv0 : W0.heap[w.heap.size]? = some (.cells #[.slice none 0 0] 31 (0, 0)) := by rw [← hW0]; exact World.alloc_heap_new w _
  have hb0 : Below w.heap.size w W0 := by rw [← hW0]; exact (Below.refl _ w).alloc (Nat.le_refl _) _
  rw [hW0]
  obtain ⟨W1, hW1⟩ : ∃ W1, (W0.alloc (.deferred (some []))).alloc (.loop (apRec fn (.func (.func g) #[] lb) w.heap.size W0.heap.size .ready none)) = W1 := ⟨_, rfl⟩
  have hold : ∀ k, k < W0.heap.size → W1.heap[k]? = W0.heap[k]? := fun k hk => by
    rw [← hW1]; exact (Below.heap_alloc _ _ k (by simp; omega)).trans (Below.heap_alloc _ _ k hk)
  have hb1 : Below w.heap.size w W1 := by rw [← hW1]; exact (hb0.alloc hb0.size _).alloc (by have := hb0.size; simp; omega) _
  have hs1 : W1.heap.size = W0.heap.size + 2 := by rw [← hW1]; simp
  have hM : ApAt w fn (.func (.func g) #[] lb) w.heap.size (W0.heap.size + 1) W0.heap.size [] W1 :=
    ⟨⟨_, (hold w.heap.size (by omega)).trans hv0, ⟨rfl, .inl ⟨rfl, rfl⟩⟩⟩,
     by rw [← hW1]; have := World.alloc_heap_new (W0.alloc (.deferred (some []))) (.loop (apRec fn (.func (.func g) #[] lb) w.heap.size W0.heap.size .ready none)); rwa [World.size_alloc] at this,
     by rw [← hW1]; exact (Below.heap_alloc _ _ _ (by simp)).trans (World.alloc_heap_new W0 _), hb1⟩
  refine ⟨W0.heap.size + 1, [{ target := .collected W0.heap.size, args := #[] }], W1, { target := .fn (.func g) lb, args := #[.func (.yield (W0.heap.size + 1)) #[] #[]] }, W1, g,
    #[.func (.yield (W0.heap.size + 1)) #[] #[]] ++ lb, W1, ?_, ?_, ?_, ?_, fun _ => h1, ?_⟩
  · rw [← hW1]; exact run_enterLoop_outer _ _ _ _ _
  · simp [resolve, go_sem]
  · intro f' hf'; exact trivial
  · simp [invoke, go_sem, eg]
  · refine (hseq (W0.heap.size + 1) (ApAt w fn (.func (.func g) #[] lb) w.heap.size (W0.heap.size + 1) W0.heap.size) W1 hb1 (ap_abides _ _ _ _ _ _ _ hb1.size)
      (fun pre x W hJ hl => apYield (n - 1 - 1) w fn _ w.heap.size (W0.heap.size + 1) W0.heap.size (by omega) (by omega) (by omega) (Nat.le_refl _) (by omega) N hN hNb pre x W hJ hl) hM).mono ?_
    rintro e W2 ⟨⟨v0, rfl⟩, ss, hS, h2⟩
    obtain ⟨v, hv, hrow⟩ := h2.box
    have hend := run_endLoop (P := Tryz.prog) h2.L (by simp [apRec])
    obtain ⟨W3, hW3⟩ : ∃ W3, W2.putObj (W0.heap.size + 1) (.loop { apRec fn (.func (.func g) #[] lb) w.heap.size W0.heap.size .ready none with state := .exhausted }) = W3 := ⟨_, rfl⟩
    rw [hW3] at hend
    have hg3 : W2.grownBy W3 (some (W0.heap.size + 1)) := by rw [← hW3]; exact grownBy_putObj_a _ _ _
    have hv3 : W3.heap[w.heap.size]? = some (.cells #[v] 31 (0, 0)) := by rw [← hW3]; exact (World.putObj_heap_other (by omega)).trans hv
    have hK3 : W3.heap[W0.heap.size]? = some (.deferred (some [])) := by rw [← hW3]; exact (World.putObj_heap_other (by omega)).trans h2.K
    have hrow3 := hrow.kept hg3 (ownsRow_ne_a hrow h2.L (fun cur e => by first | cases e | exact hne (Obj.cells.inj e).2.1))
    have hb3 : Below w.heap.size w W3 := h2.below.grown hg3 h2.below.size (fun k e => by cases e; omega)
    obtain ⟨hc3, hf3⟩ := cell_of_box_a hv3
    clear hW3
    refine ⟨none, W3, hend, ?_⟩
    gi_wp2
    rw [← hs0]
    refine ⟨by simp, .inl ⟨_, _, rfl, run_takeDeferred hK3, ?_⟩⟩
    exact ⟨_, results_tmp rfl _ _ _, v, ss, rfl, hS, hrow3.kept (grownBy_putObj_a _ _ _) (ownsRow_ne_a hrow3 hK3 (fun cur e => by first | cases e | exact hne (Obj.cells.inj e).2.1)), hb3.grown (grownBy_putObj_a _ _ _) hb3.size (fun k e => by cases e; omega)⟩

set_option maxRecDepth 100000 in
set_option maxHeartbeats 1000000 in
theorem collect56 (n : Nat) (hn : 3 ≤ n) (g : Nat) (lb : Array Value) (eg : ∀ args w, (callFunc g args).run Tryz.prog w = .ok (.enter g args) w)
    (Sp : List (Nat × Nat) → Prop) (N : Nat) (hN : N ≤ maxLen) (hNb : N * 16 ≤ 140737488355328) (w : World) (hseq : SeqGives Fence.wide (n - 1 - 1) Tryz.prog g lb offV Sp N w) :
    CallsIn Fence.wide n Tryz.prog 56 #[.func (.func g) #[] lb] w fun e w' => ∃ (v : Value) (ss : List (Nat × Nat)), e = .returned v ∧ Sp ss ∧ w'.ownsRow w.heap.size 101 2 v ss.length (ofC ss) ∧ Below w.heap.size w w' := by
  have hro : Fence.wide.round = none := rfl
  have h1 : 1 ≤ n := by omega
  have hf : Fence.wide.fn 89 := trivial
  have e89 : ∀ args w, (callFunc 89 args).run Tryz.prog w = .ok (.enter 89 args) w := enters_of Tryz.func89 (by kernel_rfl) rfl
  refine callsIn_of_wp Tryz.func56 rfl trivial ?_ hro
  simp only [Tryz.ntmps56, List.size_toArray, List.length_cons, List.length_nil, Nat.reduceAdd, Nat.reduceSub, Array.replicate_succ, Array.replicate_zero, List.push_toArray, List.append_toArray, List.nil_append, List.cons_append]
  gi_wp2_with (gi_at_fn 89; refine (appendSeq89 (n - 1) (by omega) g lb eg Sp N hN hNb _ hseq).mono ?_; rintro e w' ⟨v, ss, rfl, hS, hrow, hb⟩)
  go_ret
  exact ⟨v, ss, rfl, hS, hrow, hb⟩

/-- slices.SortedFunc(maps.Keys(m), byHeight): a map's pairs, sorted, in new memory. -/
theorem keys33 (w : World) (mb : Option Nat) : Calls Tryz.prog 33 #[.map mb] w fun e w' => e = .returned (.func (.func 58) #[] #[.pointer (some ⟨w.heap.size, 0, none⟩)]) ∧ w' = w.alloc (.cells #[.map mb] 94) := by
  have hmf : ∀ (fn : Fn) (first cap : Array Value) (w : World), (Instr.makeFunc fn first cap).run Tryz.prog w = .ok (.func fn first cap) w := fun _ _ _ _ => rfl
  go_enter Tryz.func33, Tryz.ntmps33
  go_wp2_with fail
  go_ret
  exact ⟨rfl, rfl⟩
theorem own_of_new {w : World} {B : Nat} {e : TypeId} {size : Nat} {v : Value} {n : Nat} {xs : List Value} (h : w.ownsRow B e size v n xs) : OwnN w e size v n xs ∧ (∀ g, v.ownBlock = some g → B ≤ g) := by
  refine ⟨⟨h.1, ?_⟩, fun g hg => (h.lt g hg).1⟩
  rcases h.2 with q | ⟨g, cap, cur, e1, _, r⟩
  · exact .inl q
  · exact .inr ⟨g, cap, cur, e1, Nat.zero_le _, r⟩
set_option maxRecDepth 100000 in
set_option maxHeartbeats 1000000 in
theorem sorted32 (w : World) (Bm b nn : Nat) (D : DataW Value) {R : Value → Option (DataW Value × List MemPlace)} (hBm : w.cell? ⟨Bm, 0, none⟩ = some (.map (some b))) (hown : w.ownsMap Tryz.prog 101 R b nn D) (hN : Maps.size D * 16 ≤ 140737488355328) :
    Calls Tryz.prog 32 #[.func (.func 58) #[] #[.pointer (some ⟨Bm, 0, none⟩)], .func (.func 34) #[] #[]] w fun e w' => ∃ v l, e = .returned v ∧ AllO D l ∧ ByOff l ∧ Ofs w' v l ∧ (∀ g, v.ownBlock = some g → w.heap.size ≤ g) ∧ Turn no w w' := by
  have hBlt : Bm < w.heap.size := World.block_lt_of_cell? w _ hBm
  have hseq : SeqGives Fence.wide 2 Tryz.prog 58 #[.pointer (some ⟨Bm, 0, none⟩)] offV (AllO D) (Maps.size D) w := fun l J W hW hJ hY h0 => by
    have hown' : W.ownsMap Tryz.prog 101 R b nn D := by
      have hbl := hown.lt
      obtain ⟨es, clock, hb, Ft, hs, hD⟩ := hown
      exact ⟨es, clock, (hW.block b hbl).trans hb, Ft, hs, hD⟩
    exact keys58 2 (by omega) l Bm b nn D J hY W hJ ((hW.cell (p := ⟨Bm, 0, none⟩) hBlt).trans hBm) hown' h0
  have e58 : ∀ args w, (callFunc 58 args).run Tryz.prog w = .ok (.enter 58 args) w := enters_of Tryz.func58 (by kernel_rfl) rfl
  have hc : Calls Tryz.prog 56 #[.func (.func 58) #[] #[.pointer (some ⟨Bm, 0, none⟩)]] w fun e w' => ∃ (v : Value) (ss : List (Nat × Nat)), e = .returned v ∧ AllO D ss ∧ w'.ownsRow w.heap.size 101 2 v ss.length (ofC ss) ∧ Below w.heap.size w w' :=
    (callsIn_wide (n := 4)).1 (collect56 4 (by omega) 58 _ e58 (AllO D) (Maps.size D) (by simp only [maxLen]; omega) hN w hseq)
  clear hseq hown
  go_enter Tryz.func32, Tryz.ntmps32
  go_wp2_with (go_at_call 56; refine hc.mono ?_; clear hc; rintro e w1 ⟨v, ss, rfl, hS, hrow, hb⟩)
  obtain ⟨ow, hnew⟩ := own_of_new hrow
  have hlen : ss.length ≤ 140737488355328 := by
    have := hS.2.2.2
    omega
  have T1 := Turn.of_below hb
  have hs := sort57 w1 v ss ow hlen
  have HS := shut hS
  have HT := shut T1
  have HN := shut hnew
  obtain ⟨a, cap, ev, -⟩ := ow.form
  subst ev
  clear hS T1 hb hrow hnew ow
  go_wp2_with (go_at_call 57; refine hs.mono ?_; clear hs; rintro e w2 ⟨rfl, l', hp, hby, hof, t2⟩)
  go_ret
  obtain ⟨h1, h2, h3, h4⟩ := HS.out
  have hl := hp.length_eq
  refine ⟨_, l', rfl, ⟨hp.nodup_iff.2 h1, fun x hx => h2 x (hp.mem_iff.1 hx), fun x hx => (hp.mem_iff).trans (h3 x hx), by omega⟩, hby, hof, HN.out, HT.out.trans t2 (fun k hk e => by
    have := HN.out k e
    omega)⟩
end Go.Proofs.YtgbcdjjnpadddaaGreatDoor
