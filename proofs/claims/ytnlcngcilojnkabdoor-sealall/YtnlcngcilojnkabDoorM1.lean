/- room, left of the law. -/
import Derived.Test.YtnlcngcilojnkabDoorBase
import Derived.Test.YtnlcngcilojnkabDoorRows
import Derived.Deep.RegionHeld3
import Derived.LaidMore
import Derived.Laws.CopyRow
import Derived.Laws.IdiomCopy
import Derived.Laws.MakeOwn
import Derived.Laws.ResultCell
import Derived.Laws.Rows
import Derived.Lib.ConvBytes
namespace Go.Proofs.YtnlcngcilojnkabDoor
open Go.RowKit
set_option linter.unusedVariables false

theorem shutX {p : Prop} (h : p) : Shut p := h
theorem foldl_bytesX : ∀ (l : List UInt8) (s : ByteArray), (l.map fun b => (b.toNat : Int)).foldl (fun r n => r.push (UInt8.ofNat n.toNat)) s = ⟨s.data ++ l.toArray⟩
  | [], s => by simp
  | b :: l, s => by
    rw [List.map_cons, List.foldl_cons, foldl_bytesX l]
    simp [ByteArray.push]
/-- A slice of bytes turned into a text. -/
theorem bytes_textX {w : World} {v : Value} {bs : List UInt8} (hb : Bs w v bs) : (convert 29 9 v).run Tryd.prog w = .ok (.string ⟨bs.toArray⟩) w := by
  obtain ⟨a, c, hv⟩ := hb.slice
  subst hv
  rw [run_convert_bytes_string w 29 9 5 a bs.length c Tryd.underlying29 Tryd.underlying5 Tryd.underlying9]
  rcases hb with ⟨h, rfl⟩ | ⟨a', c', h, _, _, h3⟩
  · cases h
    simp [Conv.bytesToString]
    rfl
  · cases h
    have hl := run_loadCells_list (P := Tryd.prog) w a' (bs.map bv) (fun j u hu => by
      rw [List.getElem?_map] at hu
      cases hb : bs[j]? with
      | none => rw [hb] at hu; cases hu
      | some b => rw [hb] at hu; cases hu; exact h3 j b hb)
    have e1 : bs.map bv = (bs.map fun b => (b.toNat : Int)).map (Value.int .u8) := by rw [List.map_map]; rfl
    rw [List.length_map, e1] at hl
    rw [run_bytesToString w a' bs.length c (bs.map fun b => (b.toNat : Int)) hl, foldl_bytesX]
    simp
theorem wrap_i64 {x : Int} (h0 : -9223372036854775808 ≤ x) (h1 : x ≤ 9223372036854775807) : IntKind.i64.wrap x = x := by
  rw [IntKind.wrap_i64]
  omega
theorem Own.frozen {w : World} {e : TypeId} {g n cap : Nat} {xs : List Value} (h : Own w e (.slice (some ⟨g, 0, none⟩) n cap) xs) (k : Nat) : w.frozen? ⟨g, k, none⟩ = false := by
  rcases h.shape with ⟨e1, _⟩ | ⟨g', cap', cur, e1, hg, _⟩
  · cases e1
  · cases e1
    exact frozen_of_row w g k cur e hg
theorem take_bs {w : World} {v : Value} {bs : List UInt8} (h : Own w 5 v (bs.map bv)) (n : Nat) (hn : n ≤ bs.length) : ∃ a c, v = .slice a bs.length c ∧ bs.length ≤ c ∧ Bs w (.slice a n c) (bs.take n) := by
  have htl : (bs.take n).length = n := by rw [List.length_take]; omega
  rcases h.shape with ⟨e, q⟩ | ⟨g, cap, cur, e, hg, hc, hcm, _⟩
  · have hnil := List.map_eq_nil_iff.1 q
    rw [hnil] at hn
    simp at hn
    subst hn
    exact ⟨none, 0, by simp [e, hnil], by simp [hnil], Or.inl ⟨rfl, by simp⟩⟩
  · simp only [List.length_map] at hc e
    refine ⟨_, _, e, hc, Or.inr ⟨⟨g, 0, none⟩, cap, by rw [htl], by rw [htl]; omega, hcm, fun j u hu => ?_⟩⟩
    rw [List.getElem?_take] at hu
    split at hu
    · rw [e] at h
      have := h.cell j (bv u) (by simp [hu])
      rw [Addr.add_lit]
      simpa using this
    · cases hu

theorem wp_append_runX {P : Program} {o : Oper} {a : Act} {w : World} {K : Act → World → Prop} {Q : Exit → Act → World → Prop} (s x : Operand) {t tx : TypeId}
    (ho : o.op = .call { callee := .builtin .append, args := #[s, x], argTypes := #[t, tx] }) (v xv : Value) (hs : a.eval s = v) (hx : a.eval x = xv) {v' : Value} {w' : World}
    (hr : (Builtin.append_ #[t, tx] o.type #[v, xv]).run P w = .ok v' w') (h : K (a.put o.dst v') w') : Oper.wp P o a w K Q := by
  unfold Oper.wp execOp
  simp only [ho, resolve, invoke, builtin, Sem.run_bind, Sem.run_pure, Result.andThen_ok, List.map_toArray, List.map_cons, List.map_nil, hs, hx, hr]
  exact h
theorem wpList_append_run {P : Program} {ops : Array Oper} {rest : List Oper} {o : Oper} {a : Act} {w : World} {Q : Exit → Act → World → Prop} (hgd : o.guard = none) (s x : Operand) {t tx : TypeId}
    (ho : o.op = .call { callee := .builtin .append, args := #[s, x], argTypes := #[t, tx] }) (v xv : Value) (hs : a.eval s = v) (hx : a.eval x = xv) {v' : Value} {w' : World}
    (hr : (Builtin.append_ #[t, tx] o.type #[v, xv]).run P w = .ok v' w') (h : wpList P ops Q rest (a.put o.dst v') w') : wpList P ops Q (o :: rest) a w :=
  wpList_plain hgd fun K hK => wp_append_runX s x ho v xv hs hx hr (hK _ _ h)

theorem info5 : (Tryd.prog.info? 5).map (fun i => (i.zero, i.size, i.bytes)) = some (some (.int .u8 0), 1, 1) := by kernel_rfl
theorem mk29 (w : World) (n : Nat) (hn : n ≤ 140737488355328) : (Instr.makeSlice 29 (.int .i64 0) (.int .i64 n)).run Tryd.prog w = .ok (.slice (some ⟨w.heap.size, 0, none⟩) 0 n) (w.alloc (.cells (madeCells #[.int .u8 0] n) 5)) := by
  obtain ⟨i, hi, hz0, hz1, hz2⟩ := info_parts info5
  have := run_make (P := Tryd.prog) w 29 5 i (.int .u8 0) Tryd.underlying29 hi hz0 .i64 .i64 0 n (by omega) (by omega) (by rw [hz2]; omega) (by omega)
  rw [hz1, show (Value.int .u8 0).cells = #[.int .u8 0] from rfl] at this
  simpa using this

/-- Marks behind some bytes. -/
def marks : List UInt8 := [201, 202, 203]
set_option maxRecDepth 100000 in
set_option maxHeartbeats 2000000 in
theorem room40 (w : World) (v : Value) (b : List UInt8) (hb : Bs w v b) (hl : b.length ≤ 140737488351232) :
    Calls Tryd.prog 40 #[v] w fun e w' => ∃ g c, e = .returned (.slice (some ⟨g, 0, none⟩) (b.length + 3) c) ∧ Own w' 5 (.slice (some ⟨g, 0, none⟩) (b.length + 3) c) ((b ++ marks).map bv) ∧ w.heap.size ≤ g ∧ Turn no w w' := by
  obtain ⟨va, vc, rfl⟩ := hb.slice
  have hw3 : IntKind.i64.wrap ((b.length : Int) + 3) = ((b.length + 3 : Nat) : Int) := by rw [wrap_i64 (by omega) (by omega)]; omega
  have hmk := mk29 w (b.length + 3) (by omega)
  have T0 : Turn no w (w.alloc (.cells (madeCells #[.int .u8 0] (b.length + 3)) 5)) := (Turn.refl no w).alloc _
  have O0 : Own (w.alloc (.cells (madeCells #[.int .u8 0] (b.length + 3)) 5)) 5 (.slice (some ⟨w.heap.size, 0, none⟩) 0 (b.length + 3)) [] := Own.of (xs := []) (heap_alloc_new w _) (by simp) (by simp only [maxLen]; omega) (by rw [size_madeCells]) (by simp)
  obtain ⟨v2, w2, hr2, hO2, hG2, _⟩ := run_append_src (P := Tryd.prog) (t := 29) (tx := 29) (e := 5) Tryd.underlying29 info5 rfl 29 _ _ [] O0 (.slice va b.length vc) b.length (b.map bv) ((hb.turn_no T0).src Tryd.underlying29) (by simp; omega) (by simp only [maxLen]; simp; omega)
  rw [List.nil_append] at hO2
  have hf2 : ∀ g, v2.ownBlock = some g → w.heap.size ≤ g := hG2.fresh (fun g hg => by cases hg; exact Nat.le_refl _) T0.size
  have hq0 : ∀ k, (Value.slice (some ⟨w.heap.size, 0, none⟩) 0 (b.length + 3)).ownBlock = some k → k = w.heap.size := fun k q => by
    cases q
    rfl
  have T2 : Turn no w w2 := T0.trans hG2.turn (fun k hk q => by have := hq0 k q; omega)
  obtain ⟨a2, c2, rfl⟩ := hO2.bs.slice
  have T3 : Turn no w2 (w2.alloc (.cells #[.int .u8 201, .int .u8 202, .int .u8 203] 5)) := (Turn.refl no w2).alloc _
  have hsrc : Src Tryd.prog 1 29 (.slice (some ⟨w2.heap.size, 0, none⟩) 3 3) 3 (marks.map bv) (w2.alloc (.cells #[.int .u8 201, .int .u8 202, .int .u8 203] 5)) := src_lit (e' := 5) Tryd.underlying29 w2 marks
  obtain ⟨v4, w4, hr4, hO4, hG4, _⟩ := run_append_src (P := Tryd.prog) (t := 29) (tx := 29) (e := 5) Tryd.underlying29 info5 rfl 29 _ _ (b.map bv) (hO2.turn_no T3) _ 3 (marks.map bv) hsrc (by simp; omega) (by simp only [maxLen]; simp; omega)
  rw [← List.map_append] at hO4
  have hs2 := T2.size
  have hs3 := T3.size
  have hf4 : ∀ g, v4.ownBlock = some g → w.heap.size ≤ g := hG4.fresh hf2 (by omega)
  have T4 : Turn no w w4 := (T2.then_no T3).trans hG4.turn (fun k hk q => by have := hf2 k q; omega)
  have hlen : ((b ++ marks).map bv).length = b.length + 3 := by simp [marks]
  obtain ⟨g, c, hv4⟩ : ∃ g c, v4 = .slice (some ⟨g, 0, none⟩) (b.length + 3) c := by
    rcases hO4.shape with ⟨_, q⟩ | ⟨g, cap, cur, e, _⟩
    · have := congrArg List.length q
      rw [hlen] at this
      simp at this
    · exact ⟨g, cap, by rw [e, hlen]⟩
  subst hv4
  have FIN : Shut (Own w4 5 (.slice (some ⟨g, 0, none⟩) (b.length + 3) c) ((b ++ marks).map bv) ∧ w.heap.size ≤ g ∧ Turn no w w4) := ⟨hO4, hf4 g rfl, T4⟩
  have hr2' : ∀ ty, (Builtin.append_ #[29, 29] ty #[.slice (some ⟨w.heap.size, 0, none⟩) 0 (b.length + 3), .slice va b.length vc]).run Tryd.prog (w.alloc (.cells (madeCells #[.int .u8 0] (b.length + 3)) 5)) = .ok (.slice a2 b.length c2) w2 := fun ty => hr2
  have hr4' : ∀ ty, (Builtin.append_ #[29, 29] ty #[.slice a2 b.length c2, .slice (some ⟨w2.heap.size, 0, none⟩) 3 3]).run Tryd.prog (w2.alloc (.cells #[.int .u8 201, .int .u8 202, .int .u8 203] 5)) = .ok (.slice (some ⟨g, 0, none⟩) (b.length + 3) c) w4 := fun ty => hr4
  clear hO4 hO2 hG2 hG4 hf2 hf4 T0 T2 T3 T4 O0 hsrc hlen hb hs2 hs3 hr2 hr4
  have HR4 := shutX hr4'
  clear hr4'
  generalize hN : b.length + 3 = N at *
  have HN := shutX hN
  clear hN
  go_enter Tryd.func40, Tryd.ntmps40
  go_wp2_with (first | (at_builtin; refine wpList_append_run rfl _ _ (t := 29) (tx := 29) rfl _ _ rfl rfl (hr2' _) ?_; clear hr2') | (at_builtin; refine wpList_append_run rfl _ _ (t := 29) (tx := 29) rfl _ _ rfl rfl (HR4.out _) ?_))
  go_ret
  exact ⟨g, c, rfl, FIN.out⟩

set_option maxRecDepth 100000 in
set_option maxHeartbeats 2000000 in
theorem left43 (w : World) (g c : Nat) (b : List UInt8) (hl : b.length ≤ 140737488351232) (hf : Own w 5 (.slice (some ⟨g, 0, none⟩) (b.length + 3) c) ((b ++ marks).map bv)) (v : Value) (hb : Bs w v b) :
    Calls Tryd.prog 43 #[.slice (some ⟨g, 0, none⟩) (b.length + 3) c, v] w fun e w' => e = .returned (.bool true) ∧ Turn no w w' := by
  obtain ⟨va, vc, rfl⟩ := hb.slice
  have hn3 : b.length + 3 = (b ++ marks).length := by simp [marks]
  have c0 : w.cell? ⟨g, b.length, none⟩ = some (.int .u8 201) := hf.cell b.length _ (by simp [marks, bv])
  have c1 : w.cell? ⟨g, b.length + 1, none⟩ = some (.int .u8 202) := hf.cell (b.length + 1) _ (by simp [marks, bv])
  have c2 : w.cell? ⟨g, b.length + 2, none⟩ = some (.int .u8 203) := hf.cell (b.length + 2) _ (by simp [marks, bv])
  have hcap : b.length ≤ c := by
    rcases hf.shape with ⟨e, _⟩ | ⟨_, cap, _, e, _, h1, _⟩
    · cases e
    · simp at e h1
      have := e.2.2
      omega
  have hbt : ∀ n, Bs (w.drewN n) (.slice (some ⟨g, 0, none⟩) b.length c) b := fun n => by
    obtain ⟨a', c', e, _, hB⟩ := take_bs (hf.turn_no ((Turn.refl no w).drewN n)) b.length (by simp)
    simp at e
    obtain ⟨e1, _, e3⟩ := e
    rw [← e1, ← e3] at hB
    simpa using hB
  have cv1 := fun n => bytes_textX (hbt n)
  have cv2 := fun n => bytes_textX (hb.turn_no ((Turn.refl no w).drewN n))
  have hw3 : IntKind.i64.wrap ((b.length : Int) + 3) = (b.length : Int) + 3 := wrap_i64 (by omega) (by omega)
  have hw1 : IntKind.i64.wrap ((b.length : Int) + 1) = ((b.length + 1 : Nat) : Int) := by rw [wrap_i64 (by omega) (by omega)]; omega
  have hw2 : IntKind.i64.wrap ((b.length : Int) + 2) = ((b.length + 2 : Nat) : Int) := by rw [wrap_i64 (by omega) (by omega)]; omega
  have hx0 : (b.length : Int) < ((b.length + 3 : Nat) : Int) := by omega
  have hx1 : ((b.length + 1 : Nat) : Int) < ((b.length + 3 : Nat) : Int) := by omega
  have hx2 : ((b.length + 2 : Nat) : Int) < ((b.length + 3 : Nat) : Int) := by omega
  clear hf hb hn3
  go_enter Tryd.func43, Tryd.ntmps43
  go_wp2_with fail
  go_quiet (fail)
  have TD := shutX ((Turn.refl no w).drewN nq)
  go_wp2_with fail
  go_ret
  exact ⟨rfl, TD.out⟩

end Go.Proofs.YtnlcngcilojnkabDoor
