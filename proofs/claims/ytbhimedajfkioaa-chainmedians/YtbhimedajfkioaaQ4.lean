/- A block out of a certificate; its certificate. -/
import Derived.Test.YtbhimedajfkioaaQ2
import Derived.Test.YtbhimedajfkioaaN1
namespace Go.Proofs.Ytbhimedajfkioaa
open Go.RowKit
set_option linter.unusedVariables false

theorem putPart (off : Nat) : ∀ (l : List Value) (k : Nat) (Z : Array Value), (l.zipIdx k).foldl (fun cs (c, j) => cs.setIfInBounds (off + j) c) Z = (l.zipIdx k).foldl (fun cs x => cs.setIfInBounds (off + x.2) x.1) Z := fun _ _ _ => rfl
theorem fold_size (off : Nat) : ∀ (l : List Value) (k : Nat) (Z : Array Value), ((l.zipIdx k).foldl (fun cs (x : Value × Nat) => cs.setIfInBounds (off + x.2) x.1) Z).size = Z.size
  | [], _, _ => rfl
  | v :: l, k, Z => by
    rw [List.zipIdx_cons, List.foldl_cons, fold_size off l (k + 1)]
    simp
theorem fold_get (off : Nat) : ∀ (l : List Value) (k : Nat) (Z : Array Value) (i : Nat), off + k + l.length ≤ Z.size → ((l.zipIdx k).foldl (fun cs (x : Value × Nat) => cs.setIfInBounds (off + x.2) x.1) Z)[i]? = if off + k ≤ i ∧ i < off + k + l.length then l[i - (off + k)]? else Z[i]?
  | [], k, Z, i, _ => by
    rw [if_neg (by simp only [List.length_nil]; omega)]
    rfl
  | v :: l, k, Z, i, h => by
    simp only [List.length_cons] at h
    rw [List.zipIdx_cons, List.foldl_cons, fold_get off l (k + 1) _ i (by simp; omega)]
    simp only [List.length_cons, Array.getElem?_setIfInBounds]
    by_cases h1 : i = off + k
    · subst h1
      rw [if_neg (by omega), if_pos rfl, if_pos (by omega), if_pos (by omega)]
      simp
    · by_cases h2 : off + (k + 1) ≤ i ∧ i < off + (k + 1) + l.length
      · rw [if_pos h2, if_pos (by omega)]
        rw [show i - (off + k) = (i - (off + (k + 1))) + 1 by omega]
        simp
      · rw [if_neg h2, if_neg (fun q => h1 q.symm), if_neg (by omega)]
/-- The block of a certificate. -/
def blk (Z C : Array Value) : Array Value := Z.extract 0 230 ++ C
theorem fill_one (Z C : Array Value) (hz : Z.size = 265) (hc : C.size = 35) (place : Nat → Option (Nat × Nat)) (h3 : place 3 = some (230, 35)) :
    Instr.fill place Z [(3, .agg C)] = some (Z.extract 0 230 ++ C) := by
  have e : ∀ (off : Nat) (C Y : Array Value), (C.zipIdx.foldl (fun cs (x : Value × Nat) => cs.setIfInBounds (off + x.2) x.1) Y) = (C.toList.zipIdx 0).foldl (fun cs (x : Value × Nat) => cs.setIfInBounds (off + x.2) x.1) Y := fun off C Y => by
    rw [← Array.foldl_toList, Array.toList_zipIdx]
  simp only [Instr.fill, h3, Value.cells, hc]
  rw [if_neg (by simp; omega)]
  congr 1
  rw [e 230 C Z]
  apply Array.ext_getElem?
  intro i
  rw [fold_get 230 C.toList 0 _ i (by simp [hc, hz])]
  simp only [Array.length_toList, hc, Nat.add_zero, Array.getElem?_append, Array.size_extract, hz, Array.getElem?_toList]
  by_cases h2 : 230 ≤ i ∧ i < 230 + 35
  · rw [if_pos h2, if_neg (by omega)]
    congr 1
  · rw [if_neg h2]
    by_cases h4 : i < 230
    · rw [if_pos (by omega), Array.getElem?_extract, if_pos (by omega)]
      congr 1
      omega
    · rw [if_neg (by omega), Array.getElem?_eq_none (by omega), Array.getElem?_eq_none (by omega)]
theorem built38 (C : Array Value) (hc : C.size = 35) : Try.prog.built 38 [(3, .agg C)] = some (blk Try.zeroCells38 C) := by
  obtain ⟨it, hit, z, hz, hzs⟩ : ∃ it, Try.prog.info? 38 = some it ∧ ∃ z, it.zero = some z ∧ z.cells = Try.zeroCells38 := by
    have h : ((Try.prog.info? 38).bind (·.zero)).map (fun z => z.cells) = some Try.zeroCells38 := by kernel_rfl
    cases hq : Try.prog.info? 38 with
    | none => rw [hq] at h; cases h
    | some it =>
      rw [hq] at h
      cases hz : it.zero with
      | none => simp [hz] at h
      | some z => simp [hz] at h; exact ⟨it, rfl, z, hz, h⟩
  obtain ⟨fs, hu, pl, hp, h3⟩ : ∃ fs, Try.prog.underlying 38 = some (.struct fs) ∧ ∃ pl, fs.toList.mapM (fun f => (Try.prog.info? f.type).map fun i => (f.offset, i.size)) = some pl ∧ pl.toArray[3]? = some (230, 35) := by
    refine ⟨Try.prog.fieldsOf 38, by kernel_rfl, [(0, 228), (228, 1), (229, 1), (230, 35)], by kernel_rfl, rfl⟩
  unfold Program.built
  simp only [hit, hu, hz, hp, hzs]
  exact fill_one Try.zeroCells38 C zero38 hc _ h3
theorem low_size : (Try.zeroCells38.extract 0 230).size = 230 := by rw [Array.size_extract, zero38]; rfl
theorem blk_size {C : Array Value} (hc : C.size = 35) : (blk Try.zeroCells38 C).size = 265 := by rw [blk, Array.size_append, low_size, hc]
theorem blk_low {C : Array Value} (i : Nat) (h : i < 230) : (blk Try.zeroCells38 C)[i]? = Try.zeroCells38[i]? := by
  rw [blk, Array.getElem?_append, low_size, if_pos h, Array.getElem?_extract, if_pos (by rw [zero38]; omega), Nat.zero_add]
theorem blk_high {C : Array Value} (i : Nat) : (blk Try.zeroCells38 C)[230 + i]? = C[i]? := by
  rw [blk, Array.getElem?_append, low_size, if_neg (by omega), Nat.add_sub_cancel_left]
theorem zero38_one : Try.zeroCells38.all (·.oneCell') = true := by kernel_rfl
theorem blk_one {C : Array Value} (hc : C.all (·.oneCell') = true) : (blk Try.zeroCells38 C).all (·.oneCell') = true := by
  rw [Array.all_eq_true'] at hc ⊢
  intro u hu
  simp only [blk, Array.mem_append] at hu
  rcases hu with hu | hu
  · have hz := zero38_one
    rw [Array.all_eq_true'] at hz
    obtain ⟨i, hi, e⟩ := Array.mem_iff_getElem.1 hu
    rw [Array.getElem_extract] at e
    exact hz u (e ▸ Array.getElem_mem _)
  · exact hc u hu
theorem ctL_one (h : Nat) (r : Int) (id : List UInt8) (v : Value) (hv : v.oneCell' = true) : (ctL h r id v).toArray.all (·.oneCell') = true := by
  rw [Array.all_eq_true']
  intro u hu
  simp only [ctL, List.mem_toArray, List.mem_cons, List.mem_append, List.not_mem_nil, or_false] at hu
  rcases hu with rfl | rfl | hu | rfl
  · rfl
  · rfl
  · exact bv_one id u hu
  · exact hv
/-- The certificate of the block, as ownBlock leaves it. -/
theorem own_cert (h : Nat) (r : Int) (id : List UInt8) (hid : id.length = 32) (v v' s1 s2 : Value) : ((((blk Try.zeroCells38 (ctL h r id v).toArray).setIfInBounds 228 s1).setIfInBounds 229 s2).setIfInBounds 264 v').extract 230 265 = (ctL h r id v').toArray := by
  have hc : (ctL h r id v).toArray.size = 35 := by simpa using ctL_len h r id hid v
  have hc' : (ctL h r id v').toArray.size = 35 := by simpa using ctL_len h r id hid v'
  have hb := blk_size hc
  apply Array.ext_getElem?
  intro i
  rw [Array.getElem?_extract]
  simp only [Array.size_setIfInBounds, hb]
  by_cases hi : i < 35
  · rw [if_pos (by omega), Array.getElem?_setIfInBounds]
    by_cases h4 : 264 = 230 + i
    · rw [if_pos h4, if_pos (by simp only [Array.size_setIfInBounds, hb]; omega)]
      have : i = 34 := by omega
      subst this
      exact (ctL_34 h r id hid v').symm
    · rw [if_neg h4, Array.getElem?_setIfInBounds_ne (by omega), Array.getElem?_setIfInBounds_ne (by omega), blk_high]
      rcases i with _ | _ | j
      · rfl
      · rfl
      · simp only [ctL, List.getElem?_toArray, List.getElem?_cons_succ]
        rw [List.getElem?_append_left (by simp [hid]; omega), List.getElem?_append_left (by simp [hid]; omega)]
  · rw [if_neg (by omega), Array.getElem?_eq_none (by omega)]
theorem agg_part4 {t : TypeId} (w : World) {xs ys : Array Value} {o n : Nat} (ha : (isAgg t).run Try.prog w = .ok true w) (hs : (Try.prog.info? t).map (·.size) = some n) (h : xs.extract o (o + n) = ys) : (part t xs o).run Try.prog w = .ok (.agg ys) w := by
  cases hq : Try.prog.info? t with
  | none => simp [hq] at hs
  | some i =>
    have hi : i.size = n := by simpa [hq] using hs
    simp [part, ha, sizeOf, typeInfo, hq, hi, h]
theorem size30c : (Try.prog.info? 30).map (·.size) = some 35 := by kernel_rfl
theorem field38 (w : World) (D : Array Value) : (Instr.field 38 (.agg D) 3).run Try.prog w = .ok (.agg (D.extract 230 265)) w := by
  obtain ⟨fs, hu, hf⟩ : ∃ fs, Try.prog.underlying 38 = some (.struct fs) ∧ (fs[3]?).map (fun f => (f.type, f.offset)) = some (30, 230) := ⟨Try.prog.fieldsOf 38, by kernel_rfl, by kernel_rfl⟩
  cases hq : fs[3]? with
  | none => simp [hq] at hf
  | some f =>
    have hf1 : f.type = 30 ∧ f.offset = 230 := by simpa [hq] using hf
    have hp := agg_part4 w (t := 30) (xs := D) (o := 230) (by kernel_rfl) size30c rfl
    simp [Instr.field, run_underlying hu, hq, asAgg, hf1.1, hf1.2, hp]
section
variable {P : Program} {ops : Array Oper} {rest : List Oper} {o : Oper} {a : Act} {w : World} {Q : Exit → Act → World → Prop}
theorem wpList_build_one (hg : o.guard = none) (t : TypeId) (i0 : Nat) (x0 : Operand) (ho : o.op = .build t #[(i0, x0)]) (v0 : Value) (h0 : a.eval x0 = v0) (cells : Array Value)
    (hf : P.built t [(i0, v0)] = some cells) (h : wpList P ops Q rest (a.put o.dst (.agg cells)) w) : wpList P ops Q (o :: rest) a w := by
  have e : (#[(i0, x0)].map fun (i, x) => (i, a.eval x)).toList = [(i0, v0)] := by simp [h0]
  exact wpList_build hg t _ ho (by rw [e, hf]; rfl) (by rw [e, hf]; exact h)
theorem wpList_field_as (hg : o.guard = none) (t : TypeId) (x : Operand) (f : Nat) (ho : o.op = .field t x f) (v u : Value) (hx : a.eval x = v) (hr : (Instr.field t v f).run P w = .ok u w) (h : wpList P ops Q rest (a.put o.dst u) w) : wpList P ops Q (o :: rest) a w :=
  wpList_plain hg fun K hK => by
    unfold Oper.wp execOp
    simp only [ho, hx, Sem.run_bind, hr, Result.andThen_ok, Sem.run_pure]
    exact hK _ _ h
end
end Go.Proofs.Ytbhimedajfkioaa
