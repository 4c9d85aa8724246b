/- Walks: sizeTold, frameSize, copied, Frame. -/
import Derived.Test.YtbkbecjgphjpkabDoorK2
namespace Go.Proofs.YtbkbecjgphjpkabDoor
open Go.RowKit
set_option linter.unusedVariables false

/-- The number in a frame's head. -/
def told (b : List UInt8) : Nat := lsum ((b.take 5).drop 1) 4
theorem told_lt (b : List UInt8) : told b < 4294967296 := lsum_lt _ 4

set_option maxRecDepth 100000 in
set_option maxHeartbeats 1000000 in
theorem sizeTold_any (w : World) (v : Value) (bs : List UInt8) (hb : Bs w v bs) (h9 : 9 ≤ bs.length) :
    Calls Tryd.prog 37 #[v] w fun e w' => e = .returned (.int .u32 (told bs)) ∧ Turn no w w' := by
  obtain ⟨b, off, cap, rfl, hc, hm, hca⟩ := hb.atm (by omega)
  have hB1 := bs_sub hc hm hca 1 5 (by omega) (by omega)
  have c1 := number_any w _ _ hB1 (by simp; omega)
  rw [show lsum ((bs.take 5).drop 1) 4 = told bs from rfl] at c1
  have hcap : ¬ cap = 1 := by omega
  have hcap5 : 5 ≤ cap := by omega
  clear hca hb hB1
  go_enter Tryd.func37, Tryd.ntmps37
  go_wp2_with fail
  refine c1.mono ?_
  rintro e w1 ⟨rfl, t⟩
  go_wp2_with fail
  go_ret
  exact ⟨rfl, t⟩

set_option maxRecDepth 100000 in
set_option maxHeartbeats 1000000 in
theorem frameSize_any (w : World) (v : Value) (bs : List UInt8) (hb : Bs w v bs) (h9 : 9 ≤ bs.length) :
    Calls Tryd.prog 38 #[v] w fun e w' => e = .returned (.int .i64 ((told bs + 13 : Nat) : Int)) ∧ Turn no w w' := by
  have c1 := sizeTold_any w v bs hb h9
  have hT := told_lt bs
  generalize told bs = x at *
  have hT' : (x : Int) < 4294967296 := by omega
  obtain ⟨a, c, rfl⟩ := hb.slice
  clear hb
  go_enter Tryd.func38, Tryd.ntmps38
  go_wp2_with fail
  refine c1.mono ?_
  rintro e w1 ⟨rfl, t⟩
  go_wp2_with fail
  go_ret
  exact ⟨by congr 1, t⟩

def Row (w : World) (g : Nat) (cs : Array Value) (t : TypeId) : Prop := w.heap[g]? = some (.cells cs t (0, 0))
theorem Row.new (w : World) (cs : Array Value) (t : TypeId) : Row (w.alloc (.cells cs t)) w.heap.size cs t := heap_alloc_new w _
theorem Turn.setRow {S : Nat → Prop} {a w : World} (h : Turn S a w) (g : Nat) (cs : Array Value) (hp : g < a.heap.size → S g) : Turn S a (w.setRow g cs) :=
  h.trans (S' := fun k => k = g) ⟨rfl, rfl, rfl, by simp, fun k _ hn => setRow_other w g k _ (fun q => hn q)⟩ (fun i hi q => by subst q; exact hp hi)
theorem size5 : (Tryd.prog.info? 5).map (·.size) = some 1 := by kernel_rfl
theorem info5 : (Tryd.prog.info? 5).map (fun i => (i.zero, i.size, i.bytes)) = some (some (.int .u8 0), 1, 1) := by kernel_rfl
def over (cur : Array Value) (o : Nat) (cs : List Value) : Array Value := (cur.toList.take o ++ cs ++ cur.toList.drop (o + cs.length)).toArray
theorem run_copy_over (w : World) (ty : TypeId) (g o dLen dCap : Nat) (v : Value) (bs : List UInt8) (cur : Array Value) (t : TypeId) (hg : Row w g cur t) (hb : Bs w v bs) (hfit : o + min bs.length dLen ≤ cur.size) :
    ∃ w', (Builtin.copy_ #[55, 55] ty #[.slice (some ⟨g, o, none⟩) dLen dCap, v]).run Tryd.prog w = .ok (.int .i64 ((min bs.length dLen : Nat) : Int)) w' ∧ Row w' g (over cur o ((bs.take (min bs.length dLen)).map bv)) t ∧ Turn (fun k => k = g) w w' := by
  obtain ⟨a, cap, rfl⟩ := hb.slice
  by_cases h0 : min bs.length dLen = 0
  · refine ⟨w, ?_, ?_, Turn.refl _ _⟩
    · have := run_copy_none (P := Tryd.prog) w 55 55 ty 5 (some ⟨g, o, none⟩) a dLen dCap bs.length cap Tryd.underlying55 size5 h0
      rw [h0]
      exact this
    · rw [h0]
      simpa [over] using hg
  · rcases hb with ⟨h, rfl⟩ | ⟨a', c', h, h1, h2, h3⟩
    · simp at h0
    · cases h
      have hl : ((bs.take (min bs.length dLen)).map bv).length = min bs.length dLen := by simp
      have := run_copy_row (P := Tryd.prog) w 55 55 ty 5 g o dLen dCap a' bs.length cap cur t ((bs.take (min bs.length dLen)).map bv) Tryd.underlying55 size5 hg hl
        (fun j u hu => by
          rw [List.getElem?_map, List.getElem?_take] at hu
          split at hu
          · cases hq : bs[j]? with
            | none => rw [hq] at hu; cases hu
            | some x => rw [hq] at hu; cases hu; exact h3 j x hq
          · cases hu) (by rw [hl]; exact hfit) (fun u hu => by obtain ⟨x, _, rfl⟩ := List.mem_map.1 hu; rfl)
      refine ⟨_, ?_, setRow_heap w g cur _ t (0, 0) hg, (Turn.refl _ _).setRow g _ (fun _ => rfl)⟩
      rw [this]
      unfold over goInt
      rw [hl]
theorem wpList_copy {P : Program} {ops : Array Oper} {rest : List Oper} {o : Oper} {a : Act} {w : World} {Q : Exit → Act → World → Prop} (hgd : o.guard = none) (s x : Operand) {t tx : TypeId}
    (ho : o.op = .call { callee := .builtin .copy, args := #[s, x], argTypes := #[t, tx] }) (v xv : Value) (hs : a.eval s = v) (hx : a.eval x = xv) {r : Value} {w' : World}
    (hr : (Builtin.copy_ #[t, tx] o.type #[v, xv]).run P w = .ok r w') (h : wpList P ops Q rest (a.put o.dst r) w') : wpList P ops Q (o :: rest) a w :=
  wpList_plain hgd fun K hK => by
    unfold Oper.wp execOp
    simp only [ho, resolve, invoke, builtin, Sem.run_bind, Sem.run_pure, Result.andThen_ok, List.map_toArray, List.map_cons, List.map_nil, hs, hx, hr]
    exact hK _ _ h
theorem mk22 (w : World) (n : Nat) (hn : n ≤ 140737488355328) : (Instr.makeSlice 55 (.int .i64 n) (.int .i64 n)).run Tryd.prog w = .ok (.slice (some ⟨w.heap.size, 0, none⟩) n n) (w.alloc (.cells (madeCells #[.int .u8 0] n) 5)) := by
  obtain ⟨i, hi, hz0, hz1, hz2⟩ := info_parts info5
  have := run_make (P := Tryd.prog) w 55 5 i (.int .u8 0) Tryd.underlying55 hi hz0 .i64 .i64 n n (by omega) (Int.le_refl _) (by rw [hz2]; omega) (by omega)
  rw [hz1, show (Value.int .u8 0).cells = #[.int .u8 0] from rfl] at this
  simpa using this
set_option maxRecDepth 100000 in
set_option maxHeartbeats 1000000 in
theorem copied40 (w : World) (v : Value) (bs : List UInt8) (hb : Bs w v bs) (hn : bs.length ≤ 140737488355328) : Calls Tryd.prog 39 #[v] w fun e w' => ∃ v', e = .returned v' ∧ Own w' 5 v' (bs.map bv) ∧ v'.ownBlock = some w.heap.size ∧ Turn no w w' := by
  obtain ⟨a, cap, hv⟩ := hb.slice
  have hmk := mk22 w bs.length hn
  have T0 : Turn no w (w.alloc (.cells (madeCells #[.int .u8 0] bs.length) 5)) := (Turn.refl no w).alloc _
  have R0 := Row.new w (madeCells #[.int .u8 0] bs.length) 5
  have hs : (madeCells #[.int .u8 0] bs.length).size = bs.length := by rw [size_madeCells]
  obtain ⟨w2, hcopy, R2, T2⟩ := run_copy_over _ 3 w.heap.size 0 bs.length bs.length v bs _ 5 R0 (hb.turn_no T0) (by rw [hs]; omega)
  have hcopy' : ∀ ty, (Builtin.copy_ #[55, 55] ty #[.slice (some ⟨w.heap.size, 0, none⟩) bs.length bs.length, v]).run Tryd.prog (w.alloc (.cells (madeCells #[.int .u8 0] bs.length) 5)) = .ok (.int .i64 bs.length) w2 := fun ty => by
    have := hcopy
    rw [Nat.min_self] at this
    exact this
  have e : over (madeCells #[.int .u8 0] bs.length) 0 ((bs.take (min bs.length bs.length)).map bv) = (bs.map bv).toArray := by
    rw [Nat.min_self, List.take_length]
    have : (madeCells #[Value.int .u8 0] bs.length).toList.drop (0 + (bs.map bv).length) = [] := List.drop_eq_nil_of_le (by rw [Array.length_toList, hs]; simp)
    unfold over
    rw [this]
    simp
  rw [e] at R2
  have TT : Turn no w w2 := T0.trans T2 (fun i hi q => by omega)
  have hO : Own w2 5 (.slice (some ⟨w.heap.size, 0, none⟩) bs.length bs.length) (bs.map bv) := by
    have := Own.of (xs := bs.map bv) (cap := bs.length) R2 (by simp) hb.le (by simp) (by rw [show (bs.map bv).toArray.toList = bs.map bv from rfl, List.take_length])
    simpa using this
  generalize hW : w.alloc (.cells (madeCells #[.int .u8 0] bs.length) 5) = w1 at *
  clear hcopy R0 R2 T0 T2 e hs
  subst hv
  go_enter Tryd.func39, Tryd.ntmps39
  go_wp2_with (at_builtin; refine wpList_copy rfl _ _ (t := 55) (tx := 55) rfl _ _ rfl rfl (hcopy' _) ?_)
  go_ret
  exact ⟨_, rfl, hO, rfl, TT⟩


/-- How a record lies in a file. -/
def headB (n : Nat) : List UInt8 := leB 167 1 ++ leB n 4
def frameB (r : List UInt8) : List UInt8 := headB r.length ++ leB (crc (headB r.length)) 4 ++ r ++ leB (crc r) 4
theorem frameB_len (r : List UInt8) : (frameB r).length = r.length + 13 := by simp [frameB, headB, leB_length]; omega

/-- A Writer that was made behind w. -/
def Wk (w w1 : World) (p : Nat) (bs : List UInt8) : Prop := ∃ v, Wr w1 p v bs 0 ∧ (∀ k, wfoot p v k → w.heap.size ≤ k) ∧ Turn no w w1
theorem Wk.step {w w1 w2 : World} {p : Nat} {v : Value} {bs : List UInt8} (hf : ∀ k, wfoot p v k → w.heap.size ≤ k) (t : Turn no w w1) (h : Laid w1 p v bs 0 w2) : Wk w w2 p bs := by
  obtain ⟨v', hw, t2, n⟩ := h
  refine ⟨v', hw, fun k q => ?_, t.trans t2 (fun i hi q => by have := hf i q; omega)⟩
  rcases q with q | q
  · exact hf k (Or.inl q)
  · rcases n with r | ⟨g, r, hg⟩
    · rw [r] at q; exact hf k (Or.inr q)
    · rw [r] at q; cases q; have := t.size; omega

set_option maxRecDepth 100000 in
set_option maxHeartbeats 1000000 in
theorem frame_big (w : World) (v : Value) (bs : List UInt8) (hb : Bs w v bs) (hbig : 262400 < bs.length) :
    Calls Tryd.prog 44 #[v] w fun e w' => e = .returned (.tuple #[.slice none 0 0, .int .i64 4]) ∧ w' = w := by
  obtain ⟨a, c, rfl⟩ := hb.slice
  have h' : (262400 : Int) < (bs.length : Int) := by omega
  clear hb
  go_enter Tryd.func44, Tryd.ntmps44
  go_wp2_with fail
  go_ret2
  exact ⟨rfl, rfl⟩

set_option maxRecDepth 100000 in
set_option maxHeartbeats 1000000 in
theorem frame_good (w : World) (v : Value) (bs : List UInt8) (hb : Bs w v bs) (hL : LaidT w) (hs : bs.length ≤ 262400) :
    Calls Tryd.prog 44 #[v] w fun e w' => ∃ v', e = .returned (.tuple #[v', .int .i64 0]) ∧ Own w' 5 v' ((frameB bs).map bv) ∧ (∀ g, v'.ownBlock = some g → w.heap.size ≤ g) ∧ Turn no w w' := by
  obtain ⟨a, c, rfl⟩ := hb.slice
  have h' : ¬ (262400 : Int) < (bs.length : Int) := by omega
  have h2 : (bs.length : Int) < 4294967296 := by omega
  have hN : Hid (frameB bs = headB bs.length ++ leB (crc (headB bs.length)) 4 ++ bs ++ leB (crc bs) 4) := rfl
  have hcl := crc_lt bs
  have hch := crc_lt (headB bs.length)
  have hhl : (headB bs.length).length = 5 := by simp [headB, leB_length]
  go_enter Tryd.func44, Tryd.ntmps44
  go_wp2_with fail
  refine (newWriter_any _).mono ?_
  rintro e w1 ⟨rfl, W1, t1⟩
  have F1 : ∀ k, wfoot w.heap.size (.slice none 0 0) k → w.heap.size ≤ k := fun k q => by
    rcases q with q | q
    · omega
    · cases q
  obtain ⟨p, hp⟩ : ∃ p, w.heap.size = p := ⟨_, rfl⟩
  rw [hp] at W1 ⊢
  rw [hp] at F1
  rw [← hp] at F1
  rw [show wfoot w.heap.size = wfoot p by rw [hp]] at F1
  have c2 := wbyte_made w1 p _ [] W1 167 (by omega) (by simp)
  go_wp2_with fail
  refine c2.mono ?_
  rintro e w2 ⟨rfl, q⟩
  obtain ⟨v2, W2, F2, t2⟩ := Wk.step F1 t1 q
  clear c2 q W1 F1 t1
  have c3 := wu32_made w2 p _ _ W2 bs.length (by omega) (by simp [leB_length])
  go_wp2_with fail
  refine c3.mono ?_
  rintro e w3 ⟨rfl, q⟩
  obtain ⟨v3, W3, F3, t3⟩ := Wk.step F2 t2 q
  clear c3 q W2 F2 t2
  rw [show [] ++ leB 167 1 ++ leB bs.length 4 = headB bs.length from rfl] at W3
  have c4 := out_made w3 p _ _ W3 (by omega)
  go_wp2_with fail
  refine c4.mono ?_
  rintro e w4 ⟨hv, rfl, O4, f4, t4⟩
  obtain ⟨ha, hn, hcp, rfl⟩ := O4.form
  have W4 := W3.turn_no t4
  have T4 := t3.then_no t4
  have c5 := check_any w4 _ _ O4.bs (hL.turn_no T4)
  generalize headB bs.length = H at *
  generalize crc H = hc at *
  clear c4 W3 t3 t4 O4 f4
  go_wp2_with fail
  refine c5.mono ?_
  rintro e w5 ⟨rfl, rfl⟩
  have c6 := wu32_made w5 p _ _ W4 hc hch (by omega)
  go_wp2_with fail
  refine c6.mono ?_
  rintro e w6 ⟨rfl, q⟩
  obtain ⟨v6, W6, F6, t6⟩ := Wk.step F3 T4 q
  clear c5 c6 q W4 F3 T4
  have hb6 := hb.turn_no t6
  have c7 := wraw_made w6 p _ _ W6 _ _ hb6 (by simp [leB_length, hhl]; omega)
  go_wp2_with fail
  refine c7.mono ?_
  rintro e w7 ⟨rfl, q⟩
  obtain ⟨v7, W7, F7, t7⟩ := Wk.step F6 t6 q
  clear c7 q W6 F6 t6 hb6
  have c8 := check_any w7 _ _ (hb.turn_no t7) (hL.turn_no t7)
  generalize crc bs = rc at *
  go_wp2_with fail
  refine c8.mono ?_
  rintro e w8 ⟨rfl, rfl⟩
  have c9 := wu32_made w8 p _ _ W7 rc hcl (by simp [leB_length, hhl]; omega)
  go_wp2_with fail
  refine c9.mono ?_
  rintro e w9 ⟨rfl, q⟩
  obtain ⟨v9, W9, F9, t9⟩ := Wk.step F7 t7 q
  clear c8 c9 q W7 F7 t7
  rw [← show frameB bs = _ from hN.out] at W9
  have c10 := out_made w9 p _ _ W9 (by rw [frameB_len]; omega)
  go_wp2_with fail
  refine c10.mono ?_
  rintro e w10 ⟨v10, rfl, O10, f10, t10⟩
  obtain ⟨ra, rn, rcp, rfl⟩ := O10.form
  clear c10
  go_wp2_with fail
  go_ret2
  exact ⟨_, rfl, O10, fun g hg => Nat.le_trans t9.size (f10 g hg), t9.then_no t10⟩
end Go.Proofs.YtbkbecjgphjpkabDoor
