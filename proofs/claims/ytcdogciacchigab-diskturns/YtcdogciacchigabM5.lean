/- copied, syncedFile. -/
import Derived.Test.YtcdogciacchigabM1
import Derived.Laws.CopyRow
import Derived.Laws.IdiomCopy
import Derived.Laws.MakeOwn
namespace Go.Proofs.Ytcdogciacchigab
open Go.RowKit Go.Maps
set_option linter.unusedVariables false

theorem Turn.setRow {S : Nat → Prop} {a w : World} (h : Turn S a w) (g : Nat) (cs : Array Value) (hp : g < a.heap.size → S g) : Turn S a (w.setRow g cs) :=
  h.trans (S' := fun k => k = g) ⟨rfl, rfl, rfl, by simp, fun k _ hn => setRow_other w g k _ (fun q => hn q)⟩ (fun i hi q => by subst q; exact hp hi)
theorem size5 : (Try.prog.info? 5).map (·.size) = some 1 := by kernel_rfl
theorem info5 : (Try.prog.info? 5).map (fun i => (i.zero, i.size, i.bytes)) = some (some (.int .u8 0), 1, 1) := by kernel_rfl
def over (cur : Array Value) (o : Nat) (cs : List Value) : Array Value := (cur.toList.take o ++ cs ++ cur.toList.drop (o + cs.length)).toArray
theorem run_copy_over (w : World) (ty : TypeId) (g o dLen dCap : Nat) (v : Value) (bs : List UInt8) (cur : Array Value) (t : TypeId) (hg : Row w g cur t) (hb : Bs w v bs) (hfit : o + min bs.length dLen ≤ cur.size) :
    ∃ w', (Builtin.copy_ #[28, 28] ty #[.slice (some ⟨g, o, none⟩) dLen dCap, v]).run Try.prog w = .ok (.int .i64 ((min bs.length dLen : Nat) : Int)) w' ∧ Row w' g (over cur o ((bs.take (min bs.length dLen)).map bv)) t ∧ Turn (fun k => k = g) w w' := by
  obtain ⟨a, cap, rfl⟩ := hb.slice
  by_cases h0 : min bs.length dLen = 0
  · refine ⟨w, ?_, ?_, Turn.refl _ _⟩
    · have := run_copy_none (P := Try.prog) w 28 28 ty 5 (some ⟨g, o, none⟩) a dLen dCap bs.length cap Try.underlying28 size5 h0
      rw [h0]
      exact this
    · rw [h0]
      simpa [over] using hg
  · rcases hb with ⟨h, rfl⟩ | ⟨a', c', h, h1, h2, h3⟩
    · simp at h0
    · cases h
      have hl : ((bs.take (min bs.length dLen)).map bv).length = min bs.length dLen := by simp
      have := run_copy_row (P := Try.prog) w 28 28 ty 5 g o dLen dCap a' bs.length cap cur t ((bs.take (min bs.length dLen)).map bv) Try.underlying28 size5 hg hl
        (fun j u hu => by
          rw [List.getElem?_map, List.getElem?_take] at hu
          split at hu
          · cases hq : bs[j]? with
            | none => rw [hq] at hu; cases hu
            | some x => rw [hq] at hu; cases hu; exact h3 j x hq
          · cases hu) (by rw [hl]; exact hfit) (fun u hu => by obtain ⟨x, _, rfl⟩ := List.mem_map.1 hu; rfl)
      refine ⟨_, ?_, setRow_heap w g cur _ t (0, 0) hg, (Turn.refl _ _).setRow g _ (fun _ => rfl)⟩
      rw [this]
      unfold over goInt
      rw [hl]
theorem wpList_copy {P : Program} {ops : Array Oper} {rest : List Oper} {o : Oper} {a : Act} {w : World} {Q : Exit → Act → World → Prop} (hgd : o.guard = none) (s x : Operand) {t tx : TypeId}
    (ho : o.op = .call { callee := .builtin .copy, args := #[s, x], argTypes := #[t, tx] }) (v xv : Value) (hs : a.eval s = v) (hx : a.eval x = xv) {r : Value} {w' : World}
    (hr : (Builtin.copy_ #[t, tx] o.type #[v, xv]).run P w = .ok r w') (h : wpList P ops Q rest (a.put o.dst r) w') : wpList P ops Q (o :: rest) a w :=
  wpList_plain hgd fun K hK => by
    unfold Oper.wp execOp
    simp only [ho, resolve, invoke, builtin, Sem.run_bind, Sem.run_pure, Result.andThen_ok, List.map_toArray, List.map_cons, List.map_nil, hs, hx, hr]
    exact hK _ _ h
theorem mk31 (w : World) (n : Nat) (hn : n ≤ 140737488355328) : (Instr.makeSlice 28 (.int .i64 n) (.int .i64 n)).run Try.prog w = .ok (.slice (some ⟨w.heap.size, 0, none⟩) n n) (w.alloc (.cells (madeCells #[.int .u8 0] n) 5)) := by
  obtain ⟨i, hi, hz0, hz1, hz2⟩ := info_parts info5
  have := run_make (P := Try.prog) w 28 5 i (.int .u8 0) Try.underlying28 hi hz0 .i64 .i64 n n (by omega) (Int.le_refl _) (by rw [hz2]; omega) (by omega)
  rw [hz1, show (Value.int .u8 0).cells = #[.int .u8 0] from rfl] at this
  simpa using this
set_option maxRecDepth 100000 in
set_option maxHeartbeats 1000000 in
theorem copied47 (w : World) (v : Value) (bs : List UInt8) (hb : Bs w v bs) (hn : bs.length ≤ 140737488355328) : Calls Try.prog 70 #[v] w fun e w' => ∃ v', e = .returned v' ∧ Own w' 5 v' (bs.map bv) ∧ v'.ownBlock = some w.heap.size ∧ Turn no w w' := by
  obtain ⟨a, cap, hv⟩ := hb.slice
  have hmk := mk31 w bs.length hn
  have T0 : Turn no w (w.alloc (.cells (madeCells #[.int .u8 0] bs.length) 5)) := (Turn.refl no w).alloc _
  have R0 := Row.new w (madeCells #[.int .u8 0] bs.length) 5
  have hs : (madeCells #[.int .u8 0] bs.length).size = bs.length := by rw [size_madeCells]
  obtain ⟨w2, hcopy, R2, T2⟩ := run_copy_over _ 3 w.heap.size 0 bs.length bs.length v bs _ 5 R0 (hb.turn_no T0) (by rw [hs]; omega)
  have hcopy' : ∀ ty, (Builtin.copy_ #[28, 28] ty #[.slice (some ⟨w.heap.size, 0, none⟩) bs.length bs.length, v]).run Try.prog (w.alloc (.cells (madeCells #[.int .u8 0] bs.length) 5)) = .ok (.int .i64 bs.length) w2 := fun ty => by
    have := hcopy
    rw [Nat.min_self] at this
    exact this
  have e : over (madeCells #[.int .u8 0] bs.length) 0 ((bs.take (min bs.length bs.length)).map bv) = (bs.map bv).toArray := by
    rw [Nat.min_self, List.take_length]
    have : (madeCells #[Value.int .u8 0] bs.length).toList.drop (0 + (bs.map bv).length) = [] := List.drop_eq_nil_of_le (by rw [Array.length_toList, hs]; simp)
    unfold over
    rw [this]
    simp
  rw [e] at R2
  have TT : Turn no w w2 := T0.trans T2 (fun i hi q => by omega)
  have hO : Own w2 5 (.slice (some ⟨w.heap.size, 0, none⟩) bs.length bs.length) (bs.map bv) := by
    have := Own.of (xs := bs.map bv) (cap := bs.length) R2 (by simp) hb.le (by simp) (by rw [show (bs.map bv).toArray.toList = bs.map bv from rfl, List.take_length])
    simpa using this
  generalize hW : w.alloc (.cells (madeCells #[.int .u8 0] bs.length) 5) = w1 at *
  clear hcopy R0 R2 T0 T2 e hs
  subst hv
  go_enter Try.func70, Try.ntmps70
  go_wp2_with (at_builtin; refine wpList_copy rfl _ _ (t := 28) (tx := 28) rfl _ _ rfl rfl (hcopy' _) ?_)
  go_ret
  exact ⟨_, rfl, hO, rfl, TT⟩

set_option maxRecDepth 100000 in
set_option maxHeartbeats 1000000 in
theorem syncedFile49 (w : World) (v : Value) (bs : List UInt8) (hb : Bs w v bs) (hn : bs.length ≤ 140737488355328) : Calls Try.prog 55 #[v] w fun e w' => ∃ v', e = .returned (fileV v' bs.length) ∧ Own w' 5 v' (bs.map bv) ∧ v'.ownBlock = some (w.heap.size + 1) ∧ Turn no w w' := by
  have T0 : Turn no w (w.alloc (.cells #[.slice none 0 0, .int .i64 0] 97)) := (Turn.refl no w).alloc _
  have R0 := Row.new w #[.slice none 0 0, .int .i64 0] 97
  have hc := copied47 _ v bs (hb.turn_no T0) hn
  have hlt := R0.lt
  obtain ⟨a, cap, hv⟩ := hb.slice
  clear hb
  subst hv
  go_enter Try.func55, Try.ntmps55
  go_wp2_with fail
  refine hc.mono ?_
  rintro e w2 ⟨v', rfl, hO, hB, T2⟩
  obtain ⟨a', n', cap', rfl⟩ := hO.slice
  have R2 := R0.turn T2 (fun q => q)
  have c0 := R2.cell 0 _ rfl
  have c1 := R2.cell 1 _ rfl
  have f0 := R2.frozen 0
  have f1 := R2.frozen 1
  have R3 := (R2.set 0 (.slice a' n' cap')).set 1 (.int .i64 bs.length)
  have T3 : Turn (fun k => k = w.heap.size) w2 ((w2.setCell ⟨w.heap.size, 0, none⟩ (.slice a' n' cap')).setCell ⟨w.heap.size, 1, none⟩ (.int .i64 bs.length)) := Turn.setCell (S := fun k => k = w.heap.size) (Turn.setCell (S := fun k => k = w.heap.size) (Turn.refl _ w2) (p := ⟨w.heap.size, 0, none⟩) (fun _ => rfl) _) (p := ⟨w.heap.size, 1, none⟩) (fun _ => rfl) _
  go_wp2_with fail
  refine ⟨rfl, _, results_cell_row (g := w.heap.size) (cs := #[.slice a' n' cap', .int .i64 bs.length]) (t := 97) rfl _ _ _ _ rfl R3 Try.underlying97 rfl (by kernel_rfl), _, rfl, hO.turn T3 (fun g hg q => ?_), ?_, (T0.then_no T2).trans T3 (fun i hi q => by omega)⟩
  · rw [hB] at hg; cases hg; simp at q
  · rw [hB]; simp
end Go.Proofs.Ytcdogciacchigab
