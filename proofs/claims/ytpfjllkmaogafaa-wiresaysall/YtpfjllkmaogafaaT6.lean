/- A chain's name and a thing, built beside each other; TxBytes of the program. -/
import Derived.Test.YtpfjllkmaogafaaT5
import Derived.Laws.Tables
namespace Go.Proofs.Ytpfjllkmaogafaa
open Go.RowKit
set_option linter.unusedVariables false

theorem putPart (off : Nat) : ∀ (l : List Value) (k : Nat) (Z : Array Value), (l.zipIdx k).foldl (fun cs (c, j) => cs.setIfInBounds (off + j) c) Z = (l.zipIdx k).foldl (fun cs x => cs.setIfInBounds (off + x.2) x.1) Z := fun _ _ _ => rfl
theorem fold_size (off : Nat) : ∀ (l : List Value) (k : Nat) (Z : Array Value), ((l.zipIdx k).foldl (fun cs (x : Value × Nat) => cs.setIfInBounds (off + x.2) x.1) Z).size = Z.size
  | [], _, _ => rfl
  | v :: l, k, Z => by
    rw [List.zipIdx_cons, List.foldl_cons, fold_size off l (k + 1)]
    simp
theorem fold_get (off : Nat) : ∀ (l : List Value) (k : Nat) (Z : Array Value) (i : Nat), off + k + l.length ≤ Z.size → ((l.zipIdx k).foldl (fun cs (x : Value × Nat) => cs.setIfInBounds (off + x.2) x.1) Z)[i]? = if off + k ≤ i ∧ i < off + k + l.length then l[i - (off + k)]? else Z[i]?
  | [], k, Z, i, _ => by
    rw [if_neg (by simp only [List.length_nil]; omega)]
    rfl
  | v :: l, k, Z, i, h => by
    simp only [List.length_cons] at h
    rw [List.zipIdx_cons, List.foldl_cons, fold_get off l (k + 1) _ i (by simp; omega)]
    simp only [List.length_cons, Array.getElem?_setIfInBounds]
    by_cases h1 : i = off + k
    · subst h1
      rw [if_neg (by omega), if_pos rfl, if_pos (by omega), if_pos (by omega)]
      simp
    · by_cases h2 : off + (k + 1) ≤ i ∧ i < off + (k + 1) + l.length
      · rw [if_pos h2, if_pos (by omega)]
        rw [show i - (off + k) = (i - (off + (k + 1))) + 1 by omega]
        simp
      · rw [if_neg h2, if_neg (fun q => h1 q.symm), if_neg (by omega)]
theorem fill_gen (Z : Array Value) (ua ub : Value) (n m : Nat) (hz : Z.size = n + m) (ha : ua.cells.size = n) (hb : ub.cells.size = m) (place : Nat → Option (Nat × Nat)) (h0 : place 0 = some (0, n)) (h1 : place 1 = some (n, m)) :
    Instr.fill place Z [(0, ua), (1, ub)] = some (ua.cells ++ ub.cells) := by
  have e : ∀ (off : Nat) (C Y : Array Value), (C.zipIdx.foldl (fun cs (x : Value × Nat) => cs.setIfInBounds (off + x.2) x.1) Y) = (C.toList.zipIdx 0).foldl (fun cs (x : Value × Nat) => cs.setIfInBounds (off + x.2) x.1) Y := fun off C Y => by
    rw [← Array.foldl_toList, Array.toList_zipIdx]
  simp only [Instr.fill, h0, h1]
  generalize ua.cells = A at *
  generalize ub.cells = B at *
  simp only [ha, hb]
  have s1 : ((A.toList.zipIdx 0).foldl (fun cs (x : Value × Nat) => cs.setIfInBounds (0 + x.2) x.1) Z).size = n + m := by rw [fold_size]; exact hz
  rw [if_neg (by simp; omega)]
  have e1 := e 0 A Z
  rw [e1, if_neg (by rw [s1]; simp)]
  congr 1
  rw [e n B]
  apply Array.ext_getElem?
  intro i
  rw [fold_get n B.toList 0 _ i (by rw [s1]; simp [hb]), fold_get 0 A.toList 0 _ i (by simp [ha, hz])]
  simp only [Array.length_toList, ha, hb, Nat.add_zero, Nat.zero_add, Nat.zero_le, true_and, Nat.sub_zero, Array.getElem?_append, Array.getElem?_toList]
  by_cases h2 : i < n
  · rw [if_neg (by omega), if_pos h2, if_pos h2]
  · rw [if_neg h2]
    by_cases h3 : i < n + m
    · rw [if_pos (by omega), if_neg h2]
    · rw [if_neg (by omega), if_neg h2]
      rw [Array.getElem?_eq_none (by omega), Array.getElem?_eq_none (by omega)]
theorem built67 (ch : ByteArray) (B : List Value) (hb : B.length = 22) : Try.prog.built 67 [(0, .string ch), (1, .agg B.toArray)] = some (.string ch :: B).toArray := by
  obtain ⟨it, hit, z, hz, hzs⟩ : ∃ it, Try.prog.info? 67 = some it ∧ ∃ z, it.zero = some z ∧ z.cells.size = 1 + 22 := by
    have h : ((Try.prog.info? 67).bind (·.zero)).map (fun z => z.cells.size) = some (1 + 22) := by kernel_rfl
    cases hq : Try.prog.info? 67 with
    | none => rw [hq] at h; cases h
    | some it =>
      rw [hq] at h
      cases hz : it.zero with
      | none => simp [hz] at h
      | some z => simp [hz] at h; exact ⟨it, rfl, z, hz, h⟩
  obtain ⟨fs, hu, pl, hp, h0, h1⟩ : ∃ fs, Try.prog.underlying 67 = some (.struct fs) ∧ ∃ pl, fs.toList.mapM (fun f => (Try.prog.info? f.type).map fun i => (f.offset, i.size)) = some pl ∧ pl.toArray[0]? = some (0, 1) ∧ pl.toArray[1]? = some (1, 22) := by
    refine ⟨Try.prog.fieldsOf 67, by kernel_rfl, [(0, 1), (1, 22)], by kernel_rfl, rfl, rfl⟩
  unfold Program.built
  simp only [hit, hu, hz, hp]
  have := fill_gen z.cells (.string ch) (.agg B.toArray) 1 22 hzs rfl (by simpa [Value.cells] using hb) _ h0 h1
  rw [this]
  simp [Value.cells]
section
variable {P : Program} {ops : Array Oper} {rest : List Oper} {o : Oper} {a : Act} {w : World} {Q : Exit → Act → World → Prop}
theorem wpList_build_as (hg : o.guard = none) (t : TypeId) (i0 i1 : Nat) (x0 x1 : Operand) (ho : o.op = .build t #[(i0, x0), (i1, x1)]) (v0 v1 : Value) (h0 : a.eval x0 = v0) (h1 : a.eval x1 = v1) (cells : Array Value)
    (hf : P.built t [(i0, v0), (i1, v1)] = some cells) (h : wpList P ops Q rest (a.put o.dst (.agg cells)) w) : wpList P ops Q (o :: rest) a w := by
  have e : (#[(i0, x0), (i1, x1)].map fun (i, x) => (i, a.eval x)).toList = [(i0, v0), (i1, v1)] := by simp [h0, h1]
  exact wpList_build hg t _ ho (by rw [e, hf]; rfl) (by rw [e, hf]; exact h)
end
set_option maxRecDepth 100000 in
set_option maxHeartbeats 4000000 in
theorem encSt26 (w : World) (ch : ByteArray) (x : Tx) (ho : x.ok) : Calls Try.prog 26 #[.int .u8 84, .agg (stC ch x).toArray, .func (.func 27) #[] #[], .func (.func 28) #[] #[]] w (Told w (plainS ch x) (sB ch x)) := by
  have hz : (Try.prog.info? 67).map (·.size) = some (stC ch x).length := by rw [stC_len ho]; exact size67
  obtain ⟨w4, hw4⟩ : ∃ W, (((w.alloc (.cells #[.int .u8 84] 5)).alloc (.cells (stC ch x).toArray 67)).alloc (.cells #[.func (.func 27) #[] #[]] 68)).alloc (.cells #[.func (.func 28) #[] #[]] 69) = W := ⟨_, rfl⟩
  have r1 : Row w4 w.heap.size #[.int .u8 84] 5 := by rw [← hw4]; exact ((((Row.new w _ 5).alloc _).alloc _).alloc _)
  have r2 : Row w4 (w.heap.size + 1) (stC ch x).toArray 67 := by rw [← hw4]; exact ((Row.newAt _ _ 67 _ (by simp)).alloc _).alloc _
  have r3 : Row w4 (w.heap.size + 2) #[.func (.func 27) #[] #[]] 68 := by rw [← hw4]; exact (Row.newAt _ _ 68 _ (by simp)).alloc _
  have r4 : Row w4 (w.heap.size + 3) #[.func (.func 28) #[] #[]] 69 := by rw [← hw4]; exact Row.newAt _ _ 69 _ (by simp)
  have t4 : Turn no w w4 := by rw [← hw4]; exact ((((Turn.refl no w).alloc _).alloc _).alloc _).alloc _
  obtain ⟨_, _, cr⟩ := r2.st
  have C := enc55 w4 ch x ho (w.heap.size + 2) w.heap.size (w.heap.size + 3) (r3.cell 0 _ rfl) (r1.cell 0 _ rfl) (r4.cell 0 _ rfl)
  clear r1 r2 r3 r4
  generalize plainS ch x = pe at *
  generalize sB ch x = SB at *
  generalize stC ch x = D at *
  go_enter Try.func26, Try.ntmps26
  go_upto_region 1 with fail
  try rw [hw4]
  go_wp2_with (first | (guard_target =~ wpList _ _ _ ({ dst := _, op := Op.load 67 _, .. } :: _) _ _; refine wpList_load_mid rfl 67 (.tmp 5) rfl (w.heap.size + 1) 0 rfl D _ cr Try.underlying67 rfl hz ?_) | (go_at_call 55; refine C.mono ?_; rintro e w5 ⟨v5, rfl, o5, n5, t5⟩; obtain ⟨a5, l5, c5, rfl⟩ := o5.form))
  go_ret2
  exact ⟨_, rfl, o5, fun g hg => Nat.le_trans t4.size (n5 g hg), t4.then_no t5⟩
set_option maxRecDepth 100000 in
set_option maxHeartbeats 4000000 in
theorem txBytes7 (w : World) (ch : ByteArray) (x : Tx) (ho : x.ok) : Calls Try.prog 7 #[.string ch, .agg x.cs.toArray] w (Told w (plainS ch x) (sB ch x)) := by
  have hz : (Try.prog.info? 27).map (·.size) = some x.cs.length := by rw [x.len ho]; exact size27
  have cr := ((Row.new w x.cs.toArray 27).tx).all
  have t0 : Turn no w (w.alloc (.cells x.cs.toArray 27)) := (Turn.refl no w).alloc _
  have hb := built67 ch x.cs (x.len ho)
  have C := encSt26 (w.alloc (.cells x.cs.toArray 27)) ch x ho
  unfold stC at C
  generalize plainS ch x = pe at *
  generalize sB ch x = SB at *
  generalize x.cs = D at *
  go_enter Try.func7, Try.ntmps7
  go_wp2_with (first | (guard_target =~ wpList _ _ _ ({ dst := _, op := Op.load 27 _, .. } :: _) _ _; refine wpList_load_mid rfl 27 (.tmp 3) rfl w.heap.size 0 rfl D _ cr Try.underlying27 rfl hz ?_) | (guard_target =~ wpList _ _ _ ({ dst := _, op := Op.build 67 _, .. } :: _) _ _; refine wpList_build_as rfl 67 0 1 (.tmp 6) (.tmp 7) rfl (.string ch) (.agg D.toArray) rfl rfl _ hb ?_) | (go_at_call 26; refine C.mono ?_; rintro e w5 ⟨v5, rfl, o5, n5, t5⟩; obtain ⟨a5, l5, c5, rfl⟩ := o5.form))
  go_ret2
  exact ⟨_, rfl, o5, fun g hg => Nat.le_trans t0.size (n5 g hg), t0.then_no t5⟩
end Go.Proofs.Ytpfjllkmaogafaa
