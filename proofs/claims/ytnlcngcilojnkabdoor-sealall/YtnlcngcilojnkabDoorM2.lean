/- An op of a script; its message. -/
import Derived.Test.YtnlcngcilojnkabDoorM1
import Derived.Deep.CutRange
namespace Go.Proofs.YtnlcngcilojnkabDoor
open Go.RowKit
set_option linter.unusedVariables false

/-- One call of a script. -/
structure Opx where
  kind : Int
  who : Int
  pos : Int
  a : UInt64
  va : Value
  bs : List UInt8
  X : List UInt8
  tw : Int
  lg : Bool
def opC (x : Opx) : List Value := .int .i64 x.kind :: .int .i64 x.who :: .int .i64 x.pos :: .int .u64 x.a.toNat :: x.va :: (x.X.map bv ++ [.int .i64 x.tw, .bool x.lg])
structure Opx.ok (x : Opx) : Prop where
  lX : x.X.length = 16
  lb : x.bs.length ≤ 140737488351232
theorem opC_len {x : Opx} (h : x.ok) : (opC x).length = 23 := by simp [opC, h.lX]
theorem opC_kind (x : Opx) : (opC x).toArray[(0 : Nat)]? = some (.int .i64 x.kind) := by simp [opC]
theorem opC_who (x : Opx) : (opC x).toArray[(1 : Nat)]? = some (.int .i64 x.who) := by simp [opC]
theorem opC_pos (x : Opx) : (opC x).toArray[(2 : Nat)]? = some (.int .i64 x.pos) := by simp [opC]
theorem opC_a (x : Opx) : (opC x).toArray[(3 : Nat)]? = some (.int .u64 x.a.toNat) := by simp [opC]
theorem opC_va (x : Opx) : (opC x).toArray[(4 : Nat)]? = some x.va := by simp [opC]
theorem opC_tw {x : Opx} (h : x.ok) : (opC x).toArray[(21 : Nat)]? = some (.int .i64 x.tw) := by simp [opC, h.lX]
theorem opC_lg {x : Opx} (h : x.ok) : (opC x).toArray[(22 : Nat)]? = some (.bool x.lg) := by simp [opC, h.lX]
theorem opC_X {x : Opx} (h : x.ok) (j : Nat) (u : Value) (hu : (x.X.map bv)[j]? = some u) : (opC x).toArray[5 + j]? = some u := by
  have hj : j < x.X.length := by have := (List.getElem?_eq_some_iff.1 hu).1; simpa using this
  rw [show 5 + j = j + 1 + 1 + 1 + 1 + 1 by omega]
  simp only [opC, List.getElem?_toArray, List.getElem?_cons_succ]
  rw [List.getElem?_append_left (by simpa using hj)]
  exact hu
section
variable {P : Program} {ops : Array Oper} {rest : List Oper} {o : Oper} {a : Act} {w : World} {Q : Exit → Act → World → Prop}
theorem wpList_copyX (hgd : o.guard = none) (s x : Operand) {t tx : TypeId}
    (ho : o.op = .call { callee := .builtin .copy, args := #[s, x], argTypes := #[t, tx] }) (v xv : Value) (hs : a.eval s = v) (hx : a.eval x = xv) {r : Value} {w' : World}
    (hr : (Builtin.copy_ #[t, tx] o.type #[v, xv]).run P w = .ok r w') (h : wpList P ops Q rest (a.put o.dst r) w') : wpList P ops Q (o :: rest) a w :=
  wpList_plain hgd fun K hK => by
    unfold Oper.wp execOp
    simp only [ho, resolve, invoke, builtin, Sem.run_bind, Sem.run_pure, Result.andThen_ok, List.map_toArray, List.map_cons, List.map_nil, hs, hx, hr]
    exact hK _ _ h
end
theorem size5X : (Tryd.prog.info? 5).map (·.size) = some 1 := by kernel_rfl
theorem setRow_turn {w : World} (g : Nat) (cs : Array Value) : Turn (fun k => k = g) w (w.setRow g cs) :=
  ⟨rfl, rfl, rfl, by simp [World.setRow], fun k _ hk => setRow_other w g k cs hk⟩
/-- Bytes copied onto others. -/
theorem copy_own (w : World) (g n : Nat) (zs : List UInt8) (hz : zs.length = n) (hO : Own w 5 (.slice (some ⟨g, 0, none⟩) n n) (zs.map bv)) (va : Value) (bs : List UInt8) (hb : Bs w va bs) :
    ∃ (r : Value) (w' : World) (ms : List UInt8), (∀ ty, (Builtin.copy_ #[29, 29] ty #[.slice (some ⟨g, 0, none⟩) n n, va]).run Tryd.prog w = .ok r w') ∧ ms.length = n ∧ Own w' 5 (.slice (some ⟨g, 0, none⟩) n n) (ms.map bv) ∧ Turn (fun k => k = g) w w' := by
  obtain ⟨sa, sc, rfl⟩ := hb.slice
  by_cases h0 : Nat.min bs.length n = 0
  · exact ⟨_, w, zs, fun ty => run_copy_none w 29 29 ty 5 _ _ n n bs.length sc Tryd.underlying29 size5X h0, hz, hO, Turn.refl _ _⟩
  · have hpos : 0 < bs.length := by
      rcases Nat.eq_zero_or_pos bs.length with q | q
      · rw [q] at h0; simp at h0
      · exact q
    obtain ⟨k, hk⟩ : ∃ k, k = Nat.min bs.length n := ⟨_, rfl⟩
    have hk1 : k ≤ bs.length := by rw [hk]; exact Nat.min_le_left _ _
    have hk2 : k ≤ n := by rw [hk]; exact Nat.min_le_right _ _
    rcases hb with ⟨q, q'⟩ | ⟨A, C, e, h1, h2, h3⟩
    · subst q'; simp at hpos
    · cases e
      rcases hO.shape with ⟨e, _⟩ | ⟨g', cap, cur, e, hg, c1, c2, c3, c4⟩
      · cases e
      · simp at e
        obtain ⟨rfl, _, rfl⟩ := e
        have hcur : cur.toList = zs.map bv := by
          rw [← c4, List.take_of_length_le (by simp; omega)]
        have hr := fun ty => run_copy_row (P := Tryd.prog) w 29 29 ty 5 g 0 n n A bs.length sc cur 5 ((bs.take k).map bv) Tryd.underlying29 size5X hg (by simp; omega)
          (fun j u hu => by
            rw [List.getElem?_map] at hu
            cases hq : (bs.take k)[j]? with
            | none => rw [hq] at hu; cases hu
            | some b =>
              rw [hq] at hu
              cases hu
              rw [List.getElem?_take] at hq
              split at hq
              · exact h3 j b hq
              · cases hq) (by simp; omega) (bv_one _)
        have hl : ((bs.take k ++ zs.drop k).map bv).length = n := by simp; omega
        refine ⟨_, _, bs.take k ++ zs.drop k, hr, by simp; omega, ?_, setRow_turn g _⟩
        have ho := Own.of (w := w.setRow g (cur.toList.take 0 ++ (bs.take k).map bv ++ cur.toList.drop (0 + ((bs.take k).map bv).length)).toArray) (e := 5) (xs := (bs.take k ++ zs.drop k).map bv) (g := g) (cap := n)
          (setRow_heap w g cur _ 5 _ hg) (by rw [hl]; exact Nat.le_refl _) c2 (by simp [hcur]; omega) (by
            rw [hcur]
            have e1 : ((bs.take k).map bv).length = k := by simp; omega
            rw [e1]
            have e2 : (cur.toList.take 0 ++ (bs.take k).map bv ++ (zs.map bv).drop (0 + k)) = (bs.take k ++ zs.drop k).map bv := by simp [List.map_append, List.map_drop]
            rw [← hcur] at e2 ⊢
            rw [e2]
            exact List.take_of_length_le (Nat.le_refl _))
        rw [hl] at ho
        exact ho
theorem mkN (w : World) (n : Nat) (hn : n ≤ 140737488355328) : (Instr.makeSlice 29 (.int .i64 n) (.int .i64 n)).run Tryd.prog w = .ok (.slice (some ⟨w.heap.size, 0, none⟩) n n) (w.alloc (.cells (madeCells #[.int .u8 0] n) 5)) := by
  obtain ⟨i, hi, hz0, hz1, hz2⟩ := info_parts info5
  have := run_make (P := Tryd.prog) w 29 5 i (.int .u8 0) Tryd.underlying29 hi hz0 .i64 .i64 n n (by omega) (by omega) (by rw [hz2]; omega) (by omega)
  rw [hz1, show (Value.int .u8 0).cells = #[.int .u8 0] from rfl] at this
  simpa using this
theorem made_own (w : World) (n : Nat) (hn : n ≤ 1099511627776) : Own (w.alloc (.cells (madeCells #[.int .u8 0] n) 5)) 5 (.slice (some ⟨w.heap.size, 0, none⟩) n n) ((List.replicate n (0 : UInt8)).map bv) := by
  have hc : (madeCells #[.int .u8 0] n).toList = (List.replicate n (0 : UInt8)).map bv := by
    apply List.ext_getElem?
    intro j
    by_cases hj : j < n
    · simp [madeCells, bv, hj, Nat.mod_one]
    · rw [List.getElem?_eq_none (by simp [madeCells]; omega), List.getElem?_eq_none (by simp; omega)]
  have ho := Own.of (w := w.alloc (.cells (madeCells #[.int .u8 0] n) 5)) (e := 5) (xs := (List.replicate n (0 : UInt8)).map bv) (g := w.heap.size) (cap := n) (heap_alloc_new w _) (by simp) (by simp only [maxLen]; omega) (by rw [size_madeCells]) (by rw [hc]; simp)
  simpa using ho
set_option maxRecDepth 100000 in
set_option maxHeartbeats 1000000 in
theorem message39 (w : World) (x : Opx) (hx : x.ok) (hb : Bs w x.va x.bs) : Calls Tryd.prog 39 #[.agg (opC x).toArray] w fun e w' =>
    ∃ (v : Value) (ms : List UInt8), e = .returned v ∧ Own w' 5 v (ms.map bv) ∧ (∀ g, v.ownBlock = some g → w.heap.size ≤ g) ∧ ms.length ≤ 140737488351232 ∧ Turn no w w' := by
  obtain ⟨w0, hw0⟩ : ∃ w0, w.alloc (.cells (opC x).toArray 33) = w0 := ⟨_, rfl⟩
  have T0 : Turn no w w0 := by rw [← hw0]; exact (Turn.refl no w).alloc _
  have hrow : w0.heap[w.heap.size]? = some (.cells (opC x).toArray 33 (0, 0)) := by rw [← hw0]; exact heap_alloc_new w _
  have cell : ∀ j u, (opC x).toArray[j]? = some u → w0.cell? ⟨w.heap.size, j, none⟩ = some u := fun j u hu => by rw [cell_of_row w0 w.heap.size j _ 33 (0, 0) hrow]; exact hu
  have x4 := cell 4 _ (opC_va x)
  have x22 := cell 22 _ (opC_lg hx)
  obtain ⟨va, vc, hva⟩ := hb.slice
  have hb0 := hb.turn_no T0
  have hlb := hx.lb
  obtain ⟨v1, w1, hr1, hO1, hG1, _⟩ := run_append_src (P := Tryd.prog) (t := 29) (tx := 29) (e := 5) Tryd.underlying29 info5 rfl 29 w0 (.slice none 0 0) [] (Own.nil w0 5) x.va x.bs.length (x.bs.map bv) (hb0.src Tryd.underlying29) (by simp; omega) (by simp only [maxLen]; simp; omega)
  rw [List.nil_append] at hO1
  have T1 : Turn no w0 w1 := hG1.turn.mono (fun k _ q => by cases q)
  have f1 : ∀ g, v1.ownBlock = some g → w.heap.size ≤ g := hG1.fresh (fun g q => by cases q) T0.size
  have hr1' : ∀ ty, (Builtin.append_ #[29, 29] ty #[.slice none 0 0, x.va]).run Tryd.prog w0 = .ok v1 w1 := fun ty => hr1
  have y4 := T1.keep x4 (fun q => q)
  have y22 := T1.keep x22 (fun q => q)
  have hb1 := hb0.turn_no T1
  obtain ⟨a1, c1, hv1⟩ := hO1.bs.slice
  have HO1 := shutX hO1
  have HF1 := shutX f1
  have HT1 := shutX (T0.then_no T1)
  clear hO1 f1 T0 T1 hr1 hG1 cell hrow hb hb0
  rw [hva] at x4 y4 hr1' hb1
  subst hv1
  obtain ⟨n, hn⟩ : ∃ n, Hid (x.bs.length = n) := ⟨_, rfl⟩
  have hn' : x.bs.length = n := hn.out
  rw [hn'] at x4 y4 hr1' hb1 hlb HO1 HF1
  clear hn'
  have HHb := shutX hb1
  clear hb1 hva
  generalize hlg : x.lg = lg at *
  generalize (opC x).toArray = C at *
  cases lg with
  | false =>
    go_enter Tryd.func39, Tryd.ntmps39
    go_upto_region 1 with fail
    try rw [hw0]
    clear hw0
    go_wp2_with (at_builtin; refine wpList_append_run rfl _ _ (t := 29) (tx := 29) rfl _ _ rfl rfl (hr1' _) ?_)
    go_ret
    exact ⟨_, x.bs, rfl, HO1.out, HF1.out, by rw [hn.out]; exact hlb, HT1.out⟩
  | true =>
    obtain ⟨N, hN1, hN2⟩ : ∃ N : Nat, (1048575 : Int) + (n : Int) % 3 = (N : Int) ∧ N ≤ 1048577 := ⟨(1048575 + (n : Int) % 3).toNat, by omega, by omega⟩
    have hmk : (Instr.makeSlice 29 (.int .i64 (1048575 + (n : Int) % 3)) (.int .i64 (1048575 + (n : Int) % 3))).run Tryd.prog w1 = .ok (.slice (some ⟨w1.heap.size, 0, none⟩) N N) (w1.alloc (.cells (madeCells #[.int .u8 0] N) 5)) := by rw [hN1]; exact mkN w1 N (by omega)
    have O2 := made_own w1 N (by omega)
    have T2 : Turn no w1 (w1.alloc (.cells (madeCells #[.int .u8 0] N) 5)) := (Turn.refl no w1).alloc _
    have z4 := T2.keep y4 (fun q => q)
    obtain ⟨r3, w3, ms, hc3, hl3, O3, T3⟩ := copy_own _ w1.heap.size N (List.replicate N 0) (by simp) O2 _ _ (HHb.out.turn_no T2)
    have FIN : Shut (Own w3 5 (.slice (some ⟨w1.heap.size, 0, none⟩) N N) (ms.map bv) ∧ (∀ g, (Value.slice (some ⟨w1.heap.size, 0, none⟩) N N).ownBlock = some g → w.heap.size ≤ g) ∧ ms.length ≤ 140737488351232 ∧ Turn no w w3) := ⟨O3, fun g q => by cases q; exact HT1.out.size, by omega, (HT1.out.then_no T2).trans T3 (fun k hk q => by have q : k = w1.heap.size := q; have := HT1.out.size; omega)⟩
    clear O2 T2 O3 T3 hl3 hN1
    go_enter Tryd.func39, Tryd.ntmps39
    go_upto_region 1 with fail
    try rw [hw0]
    clear hw0
    go_wp2_with (first | (at_builtin; refine wpList_append_run rfl _ _ (t := 29) (tx := 29) rfl _ _ rfl rfl (hr1' _) ?_) | (at_builtin; refine wpList_copyX rfl _ _ (t := 29) (tx := 29) rfl _ _ rfl rfl (hc3 _) ?_))
    go_ret
    exact ⟨_, ms, rfl, FIN.out⟩
end Go.Proofs.YtnlcngcilojnkabDoor
