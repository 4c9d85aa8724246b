/- Texts in one. -/
import Derived.Test.YtnlcngcilojnkabDoorBase
import Derived.Test.YtnlcngcilojnkabDoorRows
import Derived.Deep.RegionHeld3
import Derived.LaidMore
import Derived.Laws.CopyRow
import Derived.Laws.IdiomCopy
import Derived.Laws.MakeOwn
import Derived.Laws.ResultCell
import Derived.Laws.Rows
import Derived.Lib.ConvBytes
import Derived.Deep.CutRange
/- room, left of the law. -/
namespace Go.Proofs.YtnlcngcilojnkabDoor
open Go.RowKit
set_option linter.unusedVariables false

theorem shutX {p : Prop} (h : p) : Shut p := h
theorem foldl_bytesX : ∀ (l : List UInt8) (s : ByteArray), (l.map fun b => (b.toNat : Int)).foldl (fun r n => r.push (UInt8.ofNat n.toNat)) s = ⟨s.data ++ l.toArray⟩
  | [], s => by simp
  | b :: l, s => by
    rw [List.map_cons, List.foldl_cons, foldl_bytesX l]
    simp [ByteArray.push]
/-- A slice of bytes turned into a text. -/
theorem bytes_textX {w : World} {v : Value} {bs : List UInt8} (hb : Bs w v bs) : (convert 29 9 v).run Tryd.prog w = .ok (.string ⟨bs.toArray⟩) w := by
  obtain ⟨a, c, hv⟩ := hb.slice
  subst hv
  rw [run_convert_bytes_string w 29 9 5 a bs.length c Tryd.underlying29 Tryd.underlying5 Tryd.underlying9]
  rcases hb with ⟨h, rfl⟩ | ⟨a', c', h, _, _, h3⟩
  · cases h
    simp [Conv.bytesToString]
    rfl
  · cases h
    have hl := run_loadCells_list (P := Tryd.prog) w a' (bs.map bv) (fun j u hu => by
      rw [List.getElem?_map] at hu
      cases hb : bs[j]? with
      | none => rw [hb] at hu; cases hu
      | some b => rw [hb] at hu; cases hu; exact h3 j b hb)
    have e1 : bs.map bv = (bs.map fun b => (b.toNat : Int)).map (Value.int .u8) := by rw [List.map_map]; rfl
    rw [List.length_map, e1] at hl
    rw [run_bytesToString w a' bs.length c (bs.map fun b => (b.toNat : Int)) hl, foldl_bytesX]
    simp
theorem wrap_i64 {x : Int} (h0 : -9223372036854775808 ≤ x) (h1 : x ≤ 9223372036854775807) : IntKind.i64.wrap x = x := by
  rw [IntKind.wrap_i64]
  omega
theorem Own.frozen {w : World} {e : TypeId} {g n cap : Nat} {xs : List Value} (h : Own w e (.slice (some ⟨g, 0, none⟩) n cap) xs) (k : Nat) : w.frozen? ⟨g, k, none⟩ = false := by
  rcases h.shape with ⟨e1, _⟩ | ⟨g', cap', cur, e1, hg, _⟩
  · cases e1
  · cases e1
    exact frozen_of_row w g k cur e hg
theorem take_bs {w : World} {v : Value} {bs : List UInt8} (h : Own w 5 v (bs.map bv)) (n : Nat) (hn : n ≤ bs.length) : ∃ a c, v = .slice a bs.length c ∧ bs.length ≤ c ∧ Bs w (.slice a n c) (bs.take n) := by
  have htl : (bs.take n).length = n := by rw [List.length_take]; omega
  rcases h.shape with ⟨e, q⟩ | ⟨g, cap, cur, e, hg, hc, hcm, _⟩
  · have hnil := List.map_eq_nil_iff.1 q
    rw [hnil] at hn
    simp at hn
    subst hn
    exact ⟨none, 0, by simp [e, hnil], by simp [hnil], Or.inl ⟨rfl, by simp⟩⟩
  · simp only [List.length_map] at hc e
    refine ⟨_, _, e, hc, Or.inr ⟨⟨g, 0, none⟩, cap, by rw [htl], by rw [htl]; omega, hcm, fun j u hu => ?_⟩⟩
    rw [List.getElem?_take] at hu
    split at hu
    · rw [e] at h
      have := h.cell j (bv u) (by simp [hu])
      rw [Addr.add_lit]
      simpa using this
    · cases hu

theorem wp_append_runX {P : Program} {o : Oper} {a : Act} {w : World} {K : Act → World → Prop} {Q : Exit → Act → World → Prop} (s x : Operand) {t tx : TypeId}
    (ho : o.op = .call { callee := .builtin .append, args := #[s, x], argTypes := #[t, tx] }) (v xv : Value) (hs : a.eval s = v) (hx : a.eval x = xv) {v' : Value} {w' : World}
    (hr : (Builtin.append_ #[t, tx] o.type #[v, xv]).run P w = .ok v' w') (h : K (a.put o.dst v') w') : Oper.wp P o a w K Q := by
  unfold Oper.wp execOp
  simp only [ho, resolve, invoke, builtin, Sem.run_bind, Sem.run_pure, Result.andThen_ok, List.map_toArray, List.map_cons, List.map_nil, hs, hx, hr]
  exact h
theorem wpList_append_run {P : Program} {ops : Array Oper} {rest : List Oper} {o : Oper} {a : Act} {w : World} {Q : Exit → Act → World → Prop} (hgd : o.guard = none) (s x : Operand) {t tx : TypeId}
    (ho : o.op = .call { callee := .builtin .append, args := #[s, x], argTypes := #[t, tx] }) (v xv : Value) (hs : a.eval s = v) (hx : a.eval x = xv) {v' : Value} {w' : World}
    (hr : (Builtin.append_ #[t, tx] o.type #[v, xv]).run P w = .ok v' w') (h : wpList P ops Q rest (a.put o.dst v') w') : wpList P ops Q (o :: rest) a w :=
  wpList_plain hgd fun K hK => wp_append_runX s x ho v xv hs hx hr (hK _ _ h)

theorem info5 : (Tryd.prog.info? 5).map (fun i => (i.zero, i.size, i.bytes)) = some (some (.int .u8 0), 1, 1) := by kernel_rfl
theorem mk29 (w : World) (n : Nat) (hn : n ≤ 140737488355328) : (Instr.makeSlice 29 (.int .i64 0) (.int .i64 n)).run Tryd.prog w = .ok (.slice (some ⟨w.heap.size, 0, none⟩) 0 n) (w.alloc (.cells (madeCells #[.int .u8 0] n) 5)) := by
  obtain ⟨i, hi, hz0, hz1, hz2⟩ := info_parts info5
  have := run_make (P := Tryd.prog) w 29 5 i (.int .u8 0) Tryd.underlying29 hi hz0 .i64 .i64 0 n (by omega) (by omega) (by rw [hz2]; omega) (by omega)
  rw [hz1, show (Value.int .u8 0).cells = #[.int .u8 0] from rfl] at this
  simpa using this

/-- Marks behind some bytes. -/
def marks : List UInt8 := [201, 202, 203]
set_option maxRecDepth 100000 in
set_option maxHeartbeats 2000000 in
theorem room40 (w : World) (v : Value) (b : List UInt8) (hb : Bs w v b) (hl : b.length ≤ 140737488351232) :
    Calls Tryd.prog 40 #[v] w fun e w' => ∃ g c, e = .returned (.slice (some ⟨g, 0, none⟩) (b.length + 3) c) ∧ Own w' 5 (.slice (some ⟨g, 0, none⟩) (b.length + 3) c) ((b ++ marks).map bv) ∧ w.heap.size ≤ g ∧ Turn no w w' := by
  obtain ⟨va, vc, rfl⟩ := hb.slice
  have hw3 : IntKind.i64.wrap ((b.length : Int) + 3) = ((b.length + 3 : Nat) : Int) := by rw [wrap_i64 (by omega) (by omega)]; omega
  have hmk := mk29 w (b.length + 3) (by omega)
  have T0 : Turn no w (w.alloc (.cells (madeCells #[.int .u8 0] (b.length + 3)) 5)) := (Turn.refl no w).alloc _
  have O0 : Own (w.alloc (.cells (madeCells #[.int .u8 0] (b.length + 3)) 5)) 5 (.slice (some ⟨w.heap.size, 0, none⟩) 0 (b.length + 3)) [] := Own.of (xs := []) (heap_alloc_new w _) (by simp) (by simp only [maxLen]; omega) (by rw [size_madeCells]) (by simp)
  obtain ⟨v2, w2, hr2, hO2, hG2, _⟩ := run_append_src (P := Tryd.prog) (t := 29) (tx := 29) (e := 5) Tryd.underlying29 info5 rfl 29 _ _ [] O0 (.slice va b.length vc) b.length (b.map bv) ((hb.turn_no T0).src Tryd.underlying29) (by simp; omega) (by simp only [maxLen]; simp; omega)
  rw [List.nil_append] at hO2
  have hf2 : ∀ g, v2.ownBlock = some g → w.heap.size ≤ g := hG2.fresh (fun g hg => by cases hg; exact Nat.le_refl _) T0.size
  have hq0 : ∀ k, (Value.slice (some ⟨w.heap.size, 0, none⟩) 0 (b.length + 3)).ownBlock = some k → k = w.heap.size := fun k q => by
    cases q
    rfl
  have T2 : Turn no w w2 := T0.trans hG2.turn (fun k hk q => by have := hq0 k q; omega)
  obtain ⟨a2, c2, rfl⟩ := hO2.bs.slice
  have T3 : Turn no w2 (w2.alloc (.cells #[.int .u8 201, .int .u8 202, .int .u8 203] 5)) := (Turn.refl no w2).alloc _
  have hsrc : Src Tryd.prog 1 29 (.slice (some ⟨w2.heap.size, 0, none⟩) 3 3) 3 (marks.map bv) (w2.alloc (.cells #[.int .u8 201, .int .u8 202, .int .u8 203] 5)) := src_lit (e' := 5) Tryd.underlying29 w2 marks
  obtain ⟨v4, w4, hr4, hO4, hG4, _⟩ := run_append_src (P := Tryd.prog) (t := 29) (tx := 29) (e := 5) Tryd.underlying29 info5 rfl 29 _ _ (b.map bv) (hO2.turn_no T3) _ 3 (marks.map bv) hsrc (by simp; omega) (by simp only [maxLen]; simp; omega)
  rw [← List.map_append] at hO4
  have hs2 := T2.size
  have hs3 := T3.size
  have hf4 : ∀ g, v4.ownBlock = some g → w.heap.size ≤ g := hG4.fresh hf2 (by omega)
  have T4 : Turn no w w4 := (T2.then_no T3).trans hG4.turn (fun k hk q => by have := hf2 k q; omega)
  have hlen : ((b ++ marks).map bv).length = b.length + 3 := by simp [marks]
  obtain ⟨g, c, hv4⟩ : ∃ g c, v4 = .slice (some ⟨g, 0, none⟩) (b.length + 3) c := by
    rcases hO4.shape with ⟨_, q⟩ | ⟨g, cap, cur, e, _⟩
    · have := congrArg List.length q
      rw [hlen] at this
      simp at this
    · exact ⟨g, cap, by rw [e, hlen]⟩
  subst hv4
  have FIN : Shut (Own w4 5 (.slice (some ⟨g, 0, none⟩) (b.length + 3) c) ((b ++ marks).map bv) ∧ w.heap.size ≤ g ∧ Turn no w w4) := ⟨hO4, hf4 g rfl, T4⟩
  have hr2' : ∀ ty, (Builtin.append_ #[29, 29] ty #[.slice (some ⟨w.heap.size, 0, none⟩) 0 (b.length + 3), .slice va b.length vc]).run Tryd.prog (w.alloc (.cells (madeCells #[.int .u8 0] (b.length + 3)) 5)) = .ok (.slice a2 b.length c2) w2 := fun ty => hr2
  have hr4' : ∀ ty, (Builtin.append_ #[29, 29] ty #[.slice a2 b.length c2, .slice (some ⟨w2.heap.size, 0, none⟩) 3 3]).run Tryd.prog (w2.alloc (.cells #[.int .u8 201, .int .u8 202, .int .u8 203] 5)) = .ok (.slice (some ⟨g, 0, none⟩) (b.length + 3) c) w4 := fun ty => hr4
  clear hO4 hO2 hG2 hG4 hf2 hf4 T0 T2 T3 T4 O0 hsrc hlen hb hs2 hs3 hr2 hr4
  have HR4 := shutX hr4'
  clear hr4'
  generalize hN : b.length + 3 = N at *
  have HN := shutX hN
  clear hN
  go_enter Tryd.func40, Tryd.ntmps40
  go_wp2_with (first | (at_builtin; refine wpList_append_run rfl _ _ (t := 29) (tx := 29) rfl _ _ rfl rfl (hr2' _) ?_; clear hr2') | (at_builtin; refine wpList_append_run rfl _ _ (t := 29) (tx := 29) rfl _ _ rfl rfl (HR4.out _) ?_))
  go_ret
  exact ⟨g, c, rfl, FIN.out⟩

set_option maxRecDepth 100000 in
set_option maxHeartbeats 2000000 in
theorem left43 (w : World) (g c : Nat) (b : List UInt8) (hl : b.length ≤ 140737488351232) (hf : Own w 5 (.slice (some ⟨g, 0, none⟩) (b.length + 3) c) ((b ++ marks).map bv)) (v : Value) (hb : Bs w v b) :
    Calls Tryd.prog 43 #[.slice (some ⟨g, 0, none⟩) (b.length + 3) c, v] w fun e w' => e = .returned (.bool true) ∧ Turn no w w' := by
  obtain ⟨va, vc, rfl⟩ := hb.slice
  have hn3 : b.length + 3 = (b ++ marks).length := by simp [marks]
  have c0 : w.cell? ⟨g, b.length, none⟩ = some (.int .u8 201) := hf.cell b.length _ (by simp [marks, bv])
  have c1 : w.cell? ⟨g, b.length + 1, none⟩ = some (.int .u8 202) := hf.cell (b.length + 1) _ (by simp [marks, bv])
  have c2 : w.cell? ⟨g, b.length + 2, none⟩ = some (.int .u8 203) := hf.cell (b.length + 2) _ (by simp [marks, bv])
  have hcap : b.length ≤ c := by
    rcases hf.shape with ⟨e, _⟩ | ⟨_, cap, _, e, _, h1, _⟩
    · cases e
    · simp at e h1
      have := e.2.2
      omega
  have hbt : ∀ n, Bs (w.drewN n) (.slice (some ⟨g, 0, none⟩) b.length c) b := fun n => by
    obtain ⟨a', c', e, _, hB⟩ := take_bs (hf.turn_no ((Turn.refl no w).drewN n)) b.length (by simp)
    simp at e
    obtain ⟨e1, _, e3⟩ := e
    rw [← e1, ← e3] at hB
    simpa using hB
  have cv1 := fun n => bytes_textX (hbt n)
  have cv2 := fun n => bytes_textX (hb.turn_no ((Turn.refl no w).drewN n))
  have hw3 : IntKind.i64.wrap ((b.length : Int) + 3) = (b.length : Int) + 3 := wrap_i64 (by omega) (by omega)
  have hw1 : IntKind.i64.wrap ((b.length : Int) + 1) = ((b.length + 1 : Nat) : Int) := by rw [wrap_i64 (by omega) (by omega)]; omega
  have hw2 : IntKind.i64.wrap ((b.length : Int) + 2) = ((b.length + 2 : Nat) : Int) := by rw [wrap_i64 (by omega) (by omega)]; omega
  have hx0 : (b.length : Int) < ((b.length + 3 : Nat) : Int) := by omega
  have hx1 : ((b.length + 1 : Nat) : Int) < ((b.length + 3 : Nat) : Int) := by omega
  have hx2 : ((b.length + 2 : Nat) : Int) < ((b.length + 3 : Nat) : Int) := by omega
  clear hf hb hn3
  go_enter Tryd.func43, Tryd.ntmps43
  go_wp2_with fail
  go_quiet (fail)
  have TD := shutX ((Turn.refl no w).drewN nq)
  go_wp2_with fail
  go_ret
  exact ⟨rfl, TD.out⟩

end Go.Proofs.YtnlcngcilojnkabDoor

/- An op of a script; its message. -/
namespace Go.Proofs.YtnlcngcilojnkabDoor
open Go.RowKit
set_option linter.unusedVariables false

/-- One call of a script. -/
structure Opx where
  kind : Int
  who : Int
  pos : Int
  a : UInt64
  va : Value
  bs : List UInt8
  X : List UInt8
  tw : Int
  lg : Bool
def opC (x : Opx) : List Value := .int .i64 x.kind :: .int .i64 x.who :: .int .i64 x.pos :: .int .u64 x.a.toNat :: x.va :: (x.X.map bv ++ [.int .i64 x.tw, .bool x.lg])
structure Opx.ok (x : Opx) : Prop where
  lX : x.X.length = 16
  lb : x.bs.length ≤ 140737488351232
theorem opC_len {x : Opx} (h : x.ok) : (opC x).length = 23 := by simp [opC, h.lX]
theorem opC_kind (x : Opx) : (opC x).toArray[(0 : Nat)]? = some (.int .i64 x.kind) := by simp [opC]
theorem opC_who (x : Opx) : (opC x).toArray[(1 : Nat)]? = some (.int .i64 x.who) := by simp [opC]
theorem opC_pos (x : Opx) : (opC x).toArray[(2 : Nat)]? = some (.int .i64 x.pos) := by simp [opC]
theorem opC_a (x : Opx) : (opC x).toArray[(3 : Nat)]? = some (.int .u64 x.a.toNat) := by simp [opC]
theorem opC_va (x : Opx) : (opC x).toArray[(4 : Nat)]? = some x.va := by simp [opC]
theorem opC_tw {x : Opx} (h : x.ok) : (opC x).toArray[(21 : Nat)]? = some (.int .i64 x.tw) := by simp [opC, h.lX]
theorem opC_lg {x : Opx} (h : x.ok) : (opC x).toArray[(22 : Nat)]? = some (.bool x.lg) := by simp [opC, h.lX]
theorem opC_X {x : Opx} (h : x.ok) (j : Nat) (u : Value) (hu : (x.X.map bv)[j]? = some u) : (opC x).toArray[5 + j]? = some u := by
  have hj : j < x.X.length := by have := (List.getElem?_eq_some_iff.1 hu).1; simpa using this
  rw [show 5 + j = j + 1 + 1 + 1 + 1 + 1 by omega]
  simp only [opC, List.getElem?_toArray, List.getElem?_cons_succ]
  rw [List.getElem?_append_left (by simpa using hj)]
  exact hu
section
variable {P : Program} {ops : Array Oper} {rest : List Oper} {o : Oper} {a : Act} {w : World} {Q : Exit → Act → World → Prop}
theorem wpList_copyX (hgd : o.guard = none) (s x : Operand) {t tx : TypeId}
    (ho : o.op = .call { callee := .builtin .copy, args := #[s, x], argTypes := #[t, tx] }) (v xv : Value) (hs : a.eval s = v) (hx : a.eval x = xv) {r : Value} {w' : World}
    (hr : (Builtin.copy_ #[t, tx] o.type #[v, xv]).run P w = .ok r w') (h : wpList P ops Q rest (a.put o.dst r) w') : wpList P ops Q (o :: rest) a w :=
  wpList_plain hgd fun K hK => by
    unfold Oper.wp execOp
    simp only [ho, resolve, invoke, builtin, Sem.run_bind, Sem.run_pure, Result.andThen_ok, List.map_toArray, List.map_cons, List.map_nil, hs, hx, hr]
    exact hK _ _ h
end
theorem size5X : (Tryd.prog.info? 5).map (·.size) = some 1 := by kernel_rfl
theorem setRow_turn {w : World} (g : Nat) (cs : Array Value) : Turn (fun k => k = g) w (w.setRow g cs) :=
  ⟨rfl, rfl, rfl, by simp [World.setRow], fun k _ hk => setRow_other w g k cs hk⟩
/-- Bytes copied onto others. -/
theorem copy_own (w : World) (g n : Nat) (zs : List UInt8) (hz : zs.length = n) (hO : Own w 5 (.slice (some ⟨g, 0, none⟩) n n) (zs.map bv)) (va : Value) (bs : List UInt8) (hb : Bs w va bs) :
    ∃ (r : Value) (w' : World) (ms : List UInt8), (∀ ty, (Builtin.copy_ #[29, 29] ty #[.slice (some ⟨g, 0, none⟩) n n, va]).run Tryd.prog w = .ok r w') ∧ ms.length = n ∧ Own w' 5 (.slice (some ⟨g, 0, none⟩) n n) (ms.map bv) ∧ Turn (fun k => k = g) w w' := by
  obtain ⟨sa, sc, rfl⟩ := hb.slice
  by_cases h0 : Nat.min bs.length n = 0
  · exact ⟨_, w, zs, fun ty => run_copy_none w 29 29 ty 5 _ _ n n bs.length sc Tryd.underlying29 size5X h0, hz, hO, Turn.refl _ _⟩
  · have hpos : 0 < bs.length := by
      rcases Nat.eq_zero_or_pos bs.length with q | q
      · rw [q] at h0; simp at h0
      · exact q
    obtain ⟨k, hk⟩ : ∃ k, k = Nat.min bs.length n := ⟨_, rfl⟩
    have hk1 : k ≤ bs.length := by rw [hk]; exact Nat.min_le_left _ _
    have hk2 : k ≤ n := by rw [hk]; exact Nat.min_le_right _ _
    rcases hb with ⟨q, q'⟩ | ⟨A, C, e, h1, h2, h3⟩
    · subst q'; simp at hpos
    · cases e
      rcases hO.shape with ⟨e, _⟩ | ⟨g', cap, cur, e, hg, c1, c2, c3, c4⟩
      · cases e
      · simp at e
        obtain ⟨rfl, _, rfl⟩ := e
        have hcur : cur.toList = zs.map bv := by
          rw [← c4, List.take_of_length_le (by simp; omega)]
        have hr := fun ty => run_copy_row (P := Tryd.prog) w 29 29 ty 5 g 0 n n A bs.length sc cur 5 ((bs.take k).map bv) Tryd.underlying29 size5X hg (by simp; omega)
          (fun j u hu => by
            rw [List.getElem?_map] at hu
            cases hq : (bs.take k)[j]? with
            | none => rw [hq] at hu; cases hu
            | some b =>
              rw [hq] at hu
              cases hu
              rw [List.getElem?_take] at hq
              split at hq
              · exact h3 j b hq
              · cases hq) (by simp; omega) (bv_one _)
        have hl : ((bs.take k ++ zs.drop k).map bv).length = n := by simp; omega
        refine ⟨_, _, bs.take k ++ zs.drop k, hr, by simp; omega, ?_, setRow_turn g _⟩
        have ho := Own.of (w := w.setRow g (cur.toList.take 0 ++ (bs.take k).map bv ++ cur.toList.drop (0 + ((bs.take k).map bv).length)).toArray) (e := 5) (xs := (bs.take k ++ zs.drop k).map bv) (g := g) (cap := n)
          (setRow_heap w g cur _ 5 _ hg) (by rw [hl]; exact Nat.le_refl _) c2 (by simp [hcur]; omega) (by
            rw [hcur]
            have e1 : ((bs.take k).map bv).length = k := by simp; omega
            rw [e1]
            have e2 : (cur.toList.take 0 ++ (bs.take k).map bv ++ (zs.map bv).drop (0 + k)) = (bs.take k ++ zs.drop k).map bv := by simp [List.map_append, List.map_drop]
            rw [← hcur] at e2 ⊢
            rw [e2]
            exact List.take_of_length_le (Nat.le_refl _))
        rw [hl] at ho
        exact ho
theorem mkN (w : World) (n : Nat) (hn : n ≤ 140737488355328) : (Instr.makeSlice 29 (.int .i64 n) (.int .i64 n)).run Tryd.prog w = .ok (.slice (some ⟨w.heap.size, 0, none⟩) n n) (w.alloc (.cells (madeCells #[.int .u8 0] n) 5)) := by
  obtain ⟨i, hi, hz0, hz1, hz2⟩ := info_parts info5
  have := run_make (P := Tryd.prog) w 29 5 i (.int .u8 0) Tryd.underlying29 hi hz0 .i64 .i64 n n (by omega) (by omega) (by rw [hz2]; omega) (by omega)
  rw [hz1, show (Value.int .u8 0).cells = #[.int .u8 0] from rfl] at this
  simpa using this
theorem made_own (w : World) (n : Nat) (hn : n ≤ 1099511627776) : Own (w.alloc (.cells (madeCells #[.int .u8 0] n) 5)) 5 (.slice (some ⟨w.heap.size, 0, none⟩) n n) ((List.replicate n (0 : UInt8)).map bv) := by
  have hc : (madeCells #[.int .u8 0] n).toList = (List.replicate n (0 : UInt8)).map bv := by
    apply List.ext_getElem?
    intro j
    by_cases hj : j < n
    · simp [madeCells, bv, hj, Nat.mod_one]
    · rw [List.getElem?_eq_none (by simp [madeCells]; omega), List.getElem?_eq_none (by simp; omega)]
  have ho := Own.of (w := w.alloc (.cells (madeCells #[.int .u8 0] n) 5)) (e := 5) (xs := (List.replicate n (0 : UInt8)).map bv) (g := w.heap.size) (cap := n) (heap_alloc_new w _) (by simp) (by simp only [maxLen]; omega) (by rw [size_madeCells]) (by rw [hc]; simp)
  simpa using ho
set_option maxRecDepth 100000 in
set_option maxHeartbeats 1000000 in
theorem message39 (w : World) (x : Opx) (hx : x.ok) (hb : Bs w x.va x.bs) : Calls Tryd.prog 39 #[.agg (opC x).toArray] w fun e w' =>
    ∃ (v : Value) (ms : List UInt8), e = .returned v ∧ Own w' 5 v (ms.map bv) ∧ (∀ g, v.ownBlock = some g → w.heap.size ≤ g) ∧ ms.length ≤ 140737488351232 ∧ Turn no w w' := by
  obtain ⟨w0, hw0⟩ : ∃ w0, w.alloc (.cells (opC x).toArray 33) = w0 := ⟨_, rfl⟩
  have T0 : Turn no w w0 := by rw [← hw0]; exact (Turn.refl no w).alloc _
  have hrow : w0.heap[w.heap.size]? = some (.cells (opC x).toArray 33 (0, 0)) := by rw [← hw0]; exact heap_alloc_new w _
  have cell : ∀ j u, (opC x).toArray[j]? = some u → w0.cell? ⟨w.heap.size, j, none⟩ = some u := fun j u hu => by rw [cell_of_row w0 w.heap.size j _ 33 (0, 0) hrow]; exact hu
  have x4 := cell 4 _ (opC_va x)
  have x22 := cell 22 _ (opC_lg hx)
  obtain ⟨va, vc, hva⟩ := hb.slice
  have hb0 := hb.turn_no T0
  have hlb := hx.lb
  obtain ⟨v1, w1, hr1, hO1, hG1, _⟩ := run_append_src (P := Tryd.prog) (t := 29) (tx := 29) (e := 5) Tryd.underlying29 info5 rfl 29 w0 (.slice none 0 0) [] (Own.nil w0 5) x.va x.bs.length (x.bs.map bv) (hb0.src Tryd.underlying29) (by simp; omega) (by simp only [maxLen]; simp; omega)
  rw [List.nil_append] at hO1
  have T1 : Turn no w0 w1 := hG1.turn.mono (fun k _ q => by cases q)
  have f1 : ∀ g, v1.ownBlock = some g → w.heap.size ≤ g := hG1.fresh (fun g q => by cases q) T0.size
  have hr1' : ∀ ty, (Builtin.append_ #[29, 29] ty #[.slice none 0 0, x.va]).run Tryd.prog w0 = .ok v1 w1 := fun ty => hr1
  have y4 := T1.keep x4 (fun q => q)
  have y22 := T1.keep x22 (fun q => q)
  have hb1 := hb0.turn_no T1
  obtain ⟨a1, c1, hv1⟩ := hO1.bs.slice
  have HO1 := shutX hO1
  have HF1 := shutX f1
  have HT1 := shutX (T0.then_no T1)
  clear hO1 f1 T0 T1 hr1 hG1 cell hrow hb hb0
  rw [hva] at x4 y4 hr1' hb1
  subst hv1
  obtain ⟨n, hn⟩ : ∃ n, Hid (x.bs.length = n) := ⟨_, rfl⟩
  have hn' : x.bs.length = n := hn.out
  rw [hn'] at x4 y4 hr1' hb1 hlb HO1 HF1
  clear hn'
  have HHb := shutX hb1
  clear hb1 hva
  generalize hlg : x.lg = lg at *
  generalize (opC x).toArray = C at *
  cases lg with
  | false =>
    go_enter Tryd.func39, Tryd.ntmps39
    go_upto_region 1 with fail
    try rw [hw0]
    clear hw0
    go_wp2_with (at_builtin; refine wpList_append_run rfl _ _ (t := 29) (tx := 29) rfl _ _ rfl rfl (hr1' _) ?_)
    go_ret
    exact ⟨_, x.bs, rfl, HO1.out, HF1.out, by rw [hn.out]; exact hlb, HT1.out⟩
  | true =>
    obtain ⟨N, hN1, hN2⟩ : ∃ N : Nat, (1048575 : Int) + (n : Int) % 3 = (N : Int) ∧ N ≤ 1048577 := ⟨(1048575 + (n : Int) % 3).toNat, by omega, by omega⟩
    have hmk : (Instr.makeSlice 29 (.int .i64 (1048575 + (n : Int) % 3)) (.int .i64 (1048575 + (n : Int) % 3))).run Tryd.prog w1 = .ok (.slice (some ⟨w1.heap.size, 0, none⟩) N N) (w1.alloc (.cells (madeCells #[.int .u8 0] N) 5)) := by rw [hN1]; exact mkN w1 N (by omega)
    have O2 := made_own w1 N (by omega)
    have T2 : Turn no w1 (w1.alloc (.cells (madeCells #[.int .u8 0] N) 5)) := (Turn.refl no w1).alloc _
    have z4 := T2.keep y4 (fun q => q)
    obtain ⟨r3, w3, ms, hc3, hl3, O3, T3⟩ := copy_own _ w1.heap.size N (List.replicate N 0) (by simp) O2 _ _ (HHb.out.turn_no T2)
    have FIN : Shut (Own w3 5 (.slice (some ⟨w1.heap.size, 0, none⟩) N N) (ms.map bv) ∧ (∀ g, (Value.slice (some ⟨w1.heap.size, 0, none⟩) N N).ownBlock = some g → w.heap.size ≤ g) ∧ ms.length ≤ 140737488351232 ∧ Turn no w w3) := ⟨O3, fun g q => by cases q; exact HT1.out.size, by omega, (HT1.out.then_no T2).trans T3 (fun k hk q => by have q : k = w1.heap.size := q; have := HT1.out.size; omega)⟩
    clear O2 T2 O3 T3 hl3 hN1
    go_enter Tryd.func39, Tryd.ntmps39
    go_upto_region 1 with fail
    try rw [hw0]
    clear hw0
    go_wp2_with (first | (at_builtin; refine wpList_append_run rfl _ _ (t := 29) (tx := 29) rfl _ _ rfl rfl (hr1' _) ?_) | (at_builtin; refine wpList_copyX rfl _ _ (t := 29) (tx := 29) rfl _ _ rfl rfl (hc3 _) ?_))
    go_ret
    exact ⟨_, ms, rfl, FIN.out⟩
end Go.Proofs.YtnlcngcilojnkabDoor
