/- R4, R5, R6 in one. -/
import Derived.Test.YtpfjllkmaogafaaRa
import Derived.Test.YtpfjllkmaogafaaT6
import Derived.Test.YtpfjllkmaogafaaH1
import Derived.Deep.WholeRow
/- Structs that are built of parts; blocks written in the middle; readSeal where there is none. -/
namespace Go.Proofs.Ytpfjllkmaogafaa
open Go.RowKit
set_option linter.unusedVariables false

/-- Parts that lie one behind the other, from a place on. -/
def Seq (place : Nat → Option (Nat × Nat)) : Nat → List (Nat × Value) → Prop
  | _, [] => True
  | off, (i, v) :: ps => place i = some (off, v.cells.size) ∧ Seq place (off + v.cells.size) ps
def cat (ps : List (Nat × Value)) : List Value := ps.flatMap fun x => x.2.cells.toList
theorem fill_seq (place : Nat → Option (Nat × Nat)) : ∀ (ps : List (Nat × Value)) (off : Nat) (pre : List Value) (Z : Array Value), Seq place off ps → Z.toList.take off = pre → off + (cat ps).length = Z.size → Instr.fill place Z ps = some (pre ++ cat ps).toArray
  | [], off, pre, Z, _, hp, hz => by
    have : Z.toList.take off = Z.toList := List.take_of_length_le (by simp [cat] at hz; simp; omega)
    rw [this] at hp
    subst hp
    simp [Instr.fill, cat]
  | (i, v) :: ps, off, pre, Z, ⟨h0, hs⟩, hp, hz => by
    have hc : (cat ((i, v) :: ps)).length = v.cells.size + (cat ps).length := by simp [cat]
    have e : ∀ (off : Nat) (C Y : Array Value), (C.zipIdx.foldl (fun cs (x : Value × Nat) => cs.setIfInBounds (off + x.2) x.1) Y) = (C.toList.zipIdx 0).foldl (fun cs (x : Value × Nat) => cs.setIfInBounds (off + x.2) x.1) Y := fun off C Y => by
      rw [← Array.foldl_toList, Array.toList_zipIdx]
    rw [hc] at hz
    simp only [Instr.fill, h0]
    rw [if_neg (by simp; omega), e off v.cells Z]
    have hsz := fold_size off v.cells.toList 0 Z
    have hget := fun j => fold_get off v.cells.toList 0 Z j (by simp; omega)
    generalize (v.cells.toList.zipIdx 0).foldl (fun cs (x : Value × Nat) => cs.setIfInBounds (off + x.2) x.1) Z = Y at *
    have hpl : pre.length = off := by rw [← hp]; simp; omega
    rw [fill_seq place ps (off + v.cells.size) (pre ++ v.cells.toList) Y hs ?_ (by omega)]
    · simp [cat]
    · apply List.ext_getElem?
      intro j
      rw [List.getElem?_take, List.getElem?_append, hpl]
      have := hget j
      simp only [Array.length_toList, Nat.add_zero] at this
      rw [Array.getElem?_toList, this]
      by_cases h1 : j < off
      · rw [if_pos (by omega), if_neg (by omega), if_pos h1, ← hp, List.getElem?_take, if_pos h1, Array.getElem?_toList]
      · by_cases h2 : j < off + v.cells.size
        · rw [if_pos h2, if_pos (by omega), if_neg h1]
        · rw [if_neg h2, if_neg h1, List.getElem?_eq_none (by simp; omega)]
theorem built_seq (t : TypeId) (n : Nat) (pl : List (Nat × Nat)) (ps : List (Nat × Value)) (hz : ((Try.prog.info? t).bind (·.zero)).map (fun z => z.cells.size) = some n) (hu : Try.prog.underlying t = some (.struct (Try.prog.fieldsOf t)))
    (hp : (Try.prog.fieldsOf t).toList.mapM (fun f => (Try.prog.info? f.type).map fun i => (f.offset, i.size)) = some pl) (hs : Seq (pl.toArray[·]?) 0 ps) (hn : (cat ps).length = n) : Try.prog.built t ps = some (cat ps).toArray := by
  obtain ⟨it, hit, z, hz1, hzs⟩ : ∃ it, Try.prog.info? t = some it ∧ ∃ z, it.zero = some z ∧ z.cells.size = n := by
    cases hq : Try.prog.info? t with
    | none => rw [hq] at hz; cases hz
    | some it =>
      rw [hq] at hz
      cases hz' : it.zero with
      | none => simp [hz'] at hz
      | some z => simp [hz'] at hz; exact ⟨it, rfl, z, hz', hz⟩
  unfold Program.built
  simp only [hit, hu, hz1, hp]
  rw [fill_seq _ ps 0 [] z.cells hs (by simp) (by omega)]
  rfl
theorem built31 (x : Vt) (ho : x.ok) : Try.prog.built 31 [(0, .int .i64 x.k), (1, .int .u64 x.h), (2, .int .i64 x.r), (3, .agg (x.id.map bv).toArray), (4, .int .u64 x.t), (5, .int .u64 x.f), (6, .agg (x.se.map bv).toArray)] = some x.cs.toArray := by
  rw [built_seq 31 53 [(0, 1), (1, 1), (2, 1), (3, 32), (35, 1), (36, 1), (37, 16)] _ (by kernel_rfl) (by kernel_rfl) (by kernel_rfl) ?_ ?_]
  · simp [cat, Value.cells, Vt.cs]
  · simp [Seq, Value.cells, ho.1, ho.2]
  · simp [cat, Value.cells, ho.1, ho.2]
theorem built33 (x : Po) (ho : x.ok) : Try.prog.built 33 [(0, .int .u64 x.h), (1, .int .i64 x.r), (2, .int .i64 x.vr), (3, .agg (x.id.map bv).toArray), (4, .int .u64 x.f), (5, .agg (x.se.map bv).toArray)] = some x.cs.toArray := by
  rw [built_seq 33 52 [(0, 1), (1, 1), (2, 1), (3, 32), (35, 1), (36, 16)] _ (by kernel_rfl) (by kernel_rfl) (by kernel_rfl) ?_ ?_]
  · simp [cat, Value.cells, Po.cs]
  · simp [Seq, Value.cells, ho.1, ho.2.1]
  · simp [cat, Value.cells, ho.1, ho.2.1]
section
variable {P : Program} {ops : Array Oper} {rest : List Oper} {o : Oper} {a : Act} {w : World} {Q : Exit → Act → World → Prop}
theorem wpList_build_ev (hg : o.guard = none) (t : TypeId) (parts : Array (Nat × Operand)) (ho : o.op = .build t parts) (ev : List (Nat × Value)) (he : (parts.map fun (i, x) => (i, a.eval x)).toList = ev) (cells : Array Value)
    (hf : P.built t ev = some cells) (h : wpList P ops Q rest (a.put o.dst (.agg cells)) w) : wpList P ops Q (o :: rest) a w :=
  wpList_build hg t parts ho (by rw [he, hf]; rfl) (by rw [he, hf]; exact h)
end
/-- Zero bytes. -/
def z16 : List UInt8 := List.replicate 16 0
def z32 : List UInt8 := List.replicate 32 0
set_option maxRecDepth 100000 in
theorem seal94 (w : World) : Calls Try.prog 94 #[.func (.func 90) #[] #[]] w fun e w' => e = .returned (.agg (z16.map bv).toArray) ∧ Turn no w w' := by
  have C := none90
  obtain ⟨Z, hZ, hZ1⟩ : ∃ Z : Array Value, Z = #[.int .u8 0, .int .u8 0, .int .u8 0, .int .u8 0, .int .u8 0, .int .u8 0, .int .u8 0, .int .u8 0, .int .u8 0, .int .u8 0, .int .u8 0, .int .u8 0, .int .u8 0, .int .u8 0, .int .u8 0, .int .u8 0] ∧ Z = (z16.map bv).toArray := ⟨_, rfl, rfl⟩
  have hZs : Z.size = 16 := by rw [hZ1]; rfl
  have hSi : (Try.prog.info? 25).map (·.size) = some Z.size := by rw [hZs]; kernel_rfl
  have hSo : Z.all (·.oneCell') = true := by rw [hZ1]; simp [bv, Value.oneCell']
  rw [← hZ1]
  clear hZ1
  go_enter Try.func94, Try.ntmps94
  go_wp2_with fail
  rw [← hZ]
  clear hZ
  have hA := Row.new w Z 25
  have hB := Row.newAt (w.alloc (.cells Z 25)) Z 25 (w.heap.size + 1) (by simp)
  have hA2 := hA.alloc (.cells Z 25)
  have T2 : Turn no w ((w.alloc (.cells Z 25)).alloc (.cells Z 25)) := ((Turn.refl no w).alloc _).alloc _
  clear hA
  generalize (w.alloc (.cells Z 25)).alloc (.cells Z 25) = w2 at *
  generalize hg : w.heap.size = g at *
  have cp : (Builtin.copy_ #[36, 36] 3 #[.slice (some ⟨g + 1, 0, none⟩) 16 16, .slice none 0 0]).run Try.prog w2.drew = .ok (.int .i64 0) w2.drew := run_copy_none (P := Try.prog) w2.drew 36 36 3 5 (some ⟨g + 1, 0, none⟩) none 16 16 0 0 Try.underlying36 size5 (by decide)
  have S2 : Turn no w2 w2.drew := (Turn.refl no w2).drew
  refine wp_region_held_drew (S := fun W => Turn no w2 W) (by kernel_rfl) (Turn.refl _ w2).drew (fun hHeld => ?_)
  refine' wpAnyH_take (i := 0) (v := .slice (some ⟨g + 1, 0, none⟩) 16 16) rfl (by kernel_rfl) (by kernel_rfl) (by kernel_rfl) (fun _ _ _ h => h) (Or.inl ⟨by kernel_rfl, fun W hW => ?y1⟩) hHeld ?r1
  · go_simp
  refine' wpAnyH_take (i := 1) (v := .func (.func 90) #[] #[]) rfl (by kernel_rfl) (by kernel_rfl) (by kernel_rfl) (fun _ _ _ h => h) (Or.inl ⟨by kernel_rfl, fun W hW => ?y2⟩) hHeld ?r2
  · go_simp
  refine wpAnyH_ready (rs := [2]) (by kernel_rfl) (by simp) ?_
  refine AllReadyH.cons rfl (fun K hK => ?_) AllReadyH.nil
  go_simp
  refine (C _ _).mono ?_
  rintro e w4 ⟨rfl, rfl⟩
  refine hK.out _ _ S2 (fun hHeld => ?_)
  clear hK
  refine wpAnyH_ready (rs := [3]) (by kernel_rfl) (by simp) ?_
  refine AllReadyH.cons rfl (fun K hK => ?_) AllReadyH.nil
  rw [if_pos (by rfl)]
  refine wp_copy_run _ _ rfl _ _ rfl rfl cp ?_
  refine hK.out _ _ S2 (fun hHeld => ?_)
  clear hK
  refine wpAnyH_done (by kernel_rfl) ?_ _
  have hA5 := hA2.turn S2 (fun q => q)
  have R5 := hB.turn S2 (fun q => q)
  have T5 := T2.then_no S2
  generalize w2.drew = w5 at *
  go_wp2_with (first | (refine wpList_load_row rfl 25 (.tmp 3) rfl (g + 1) rfl 25 Z (0, 0) _ R5 Try.underlying25 rfl hSi ?_) | (refine wpList_store_row rfl 25 (.tmp 2) (.tmp 8) rfl g Z rfl rfl 25 Z hA5 hSi (by omega) hSo ?_))
  have hz' : (w5.setRow g Z).heap[g]? = some (.cells Z 25 (0, 0)) := setRow_heap _ _ _ _ _ _ hA5
  refine bodyPost_ret (v := .agg Z) ?_ rfl ⟨rfl, T5.setRow _ _ (fun q => by omega)⟩
  exact results_cell_row (P := Try.prog) Try.results94 _ _ g 25 Z (0, 0) _ rfl hz' Try.underlying25 rfl hSi
set_option maxRecDepth 100000 in
theorem seal104 (w : World) (q : Nat) : Calls Try.prog 104 #[.pointer (some ⟨q, 0, none⟩), .bool false] w fun e w' => e = .returned (.agg (z16.map bv).toArray) ∧ Turn no w w' := by
  obtain ⟨Z, hZ, hZ1⟩ : ∃ Z : Array Value, Z = #[.int .u8 0, .int .u8 0, .int .u8 0, .int .u8 0, .int .u8 0, .int .u8 0, .int .u8 0, .int .u8 0, .int .u8 0, .int .u8 0, .int .u8 0, .int .u8 0, .int .u8 0, .int .u8 0, .int .u8 0, .int .u8 0] ∧ Z = (z16.map bv).toArray := ⟨_, rfl, rfl⟩
  have hZs : Z.size = 16 := by rw [hZ1]; rfl
  have hSi : (Try.prog.info? 25).map (·.size) = some Z.size := by rw [hZs]; kernel_rfl
  have hSo : Z.all (·.oneCell') = true := by rw [hZ1]; simp [bv, Value.oneCell']
  rw [← hZ1]
  clear hZ1
  have hA := Row.new w Z 25
  have hB := Row.newAt (w.alloc (.cells Z 25)) Z 25 (w.heap.size + 1) (by simp)
  have hA2 := hA.alloc (.cells Z 25)
  have T2 : Turn no w ((w.alloc (.cells Z 25)).alloc (.cells Z 25)) := ((Turn.refl no w).alloc _).alloc _
  clear hA
  generalize hw2 : (w.alloc (.cells Z 25)).alloc (.cells Z 25) = w2 at *
  go_enter Try.func104, Try.ntmps104
  go_upto_region 3 with fail
  rw [← hZ, hw2]
  clear hZ
  generalize hg : w.heap.size = g at *
  go_wp2_with (first | (refine wpList_load_row rfl 25 (.tmp 5) rfl (g + 1) rfl 25 Z (0, 0) _ hB Try.underlying25 rfl hSi ?_) | (refine wpList_store_row rfl 25 (.tmp 4) (.tmp 11) rfl g Z rfl rfl 25 Z hA2 hSi (by omega) hSo ?_))
  refine bodyPost_ret (v := .agg Z) ?_ rfl ⟨rfl, T2⟩
  exact results_cell_row (P := Try.prog) Try.results104 _ _ g 25 Z (0, 0) _ rfl hA2 Try.underlying25 rfl hSi
end Go.Proofs.Ytpfjllkmaogafaa

/- readVote, readProposal of the program. -/
namespace Go.Proofs.Ytpfjllkmaogafaa
open Go.RowKit
set_option linter.unusedVariables false

theorem wpList_build_l {P : Program} {ops : Array Oper} {rest : List Oper} {o : Oper} {a : Act} {w : World} {Q : Exit → Act → World → Prop} (hg : o.guard = none) (t : TypeId) (parts : List (Nat × Operand)) (ho : o.op = .build t parts.toArray) (ev : List (Nat × Value)) (he : parts.map (fun x => (x.1, a.eval x.2)) = ev) (cells : Array Value)
    (hf : P.built t ev = some cells) (h : wpList P ops Q rest (a.put o.dst (.agg cells)) w) : wpList P ops Q (o :: rest) a w :=
  wpList_build_ev hg t _ ho ev (by rw [← he]; simp) cells hf h
theorem gB_lt (bs : List UInt8) (i : Nat) (e : Int) : (gB bs i e).1 < 256 := by
  unfold gB rfix
  split
  · split
    · simp
    · have := lsum_lt (bs.drop i) 1
      simpa using this
  · simp
/-- A vote that is read, where it stands then, its error. -/
def rdV (bs : List UInt8) (i : Nat) (e : Int) : Vt × Nat × Int :=
  let a := gB bs i e
  let b := gV bs a.2.1 a.2.2
  let c := gV bs b.2.1 b.2.2
  let d := gR bs c.2.1 c.2.2 32
  let t := gV bs d.2.1 d.2.2
  let f := gV bs t.2.1 t.2.2
  (⟨a.1, b.1, cap31 c.1, pad 32 d.1, t.1, f.1, z16⟩, f.2.1, f.2.2)
def rdP (bs : List UInt8) (i : Nat) (e : Int) : Po × Nat × Int :=
  let b := gV bs i e
  let c := gV bs b.2.1 b.2.2
  let s := gV bs c.2.1 c.2.2
  let d := gR bs s.2.1 s.2.2 32
  let f := gV bs d.2.1 d.2.2
  (⟨b.1, cap31 c.1, (cap31 s.1 : Int) - 1, pad 32 d.1, f.1, z16⟩, f.2.1, f.2.2)
theorem cap31_le (n : Nat) : cap31 n ≤ 2147483647 := by
  unfold cap31
  split <;> omega
theorem gB_le (bs : List UInt8) (i : Nat) (e : Int) (h : i ≤ bs.length) : (gB bs i e).2.1 ≤ bs.length := by
  unfold gB rfix
  split
  · split
    · exact h
    · show i + 1 ≤ _
      omega
  · exact h
theorem gV_le (bs : List UInt8) (i : Nat) (e : Int) (h : i ≤ bs.length) : (gV bs i e).2.1 ≤ bs.length := by
  unfold gV
  split
  · obtain ⟨x, j, er, hr, _, _, h2, _⟩ := rvar_facts bs i h
    rw [hr]
    exact h2
  · exact h
theorem gR_le (bs : List UInt8) (i : Nat) (e : Int) (n : Nat) (h : i ≤ bs.length) : (gR bs i e n).2.1 ≤ bs.length := by
  unfold gR rraw
  split
  · split
    · exact h
    · rw [Int.toNat_natCast]
      split
      · exact h
      · show i + n ≤ _
        omega
  · exact h
theorem rdV_ok (bs : List UInt8) (i : Nat) (e : Int) : (rdV bs i e).1.ok := ⟨pad_len 32 _ (gR_len bs _ _ 32), rfl⟩
theorem rdP_ok (bs : List UInt8) (i : Nat) (e : Int) (h : i ≤ bs.length) : (rdP bs i e).1.ok :=
  ⟨pad_len 32 _ (gR_len bs _ _ 32), rfl, gV_lt bs i e h, gV_lt bs _ _ (gR_le bs _ _ 32 (gV_le bs _ _ (gV_le bs _ _ (gV_le bs _ _ h))))⟩
theorem Po.one (x : Po) : ∀ u ∈ x.cs, u.oneCell' = true := by
  intro u hu
  simp only [Po.cs, List.mem_cons, List.mem_append, List.mem_map] at hu
  rcases hu with rfl | rfl | rfl | ⟨b, _, rfl⟩ | rfl | ⟨b, _, rfl⟩ <;> rfl
/-- A Reader as it was left, and what has turned since. -/
def Rt (w0 w : World) (p : Nat) (v : Value) (bs : List UInt8) (i : Nat) (e : Int) : Prop := Rd w p v bs i e ∧ Turn (fun k => k = p) w0 w
def Rn (w0 w : World) (p : Nat) (v : Value) (bs : List UInt8) (i : Nat) (e : Int) : Prop := Rq w p v bs i e ∧ Turn (fun k => k = p) w0 w
section
variable {w0 w : World} {p : Nat} {v : Value} {bs : List UInt8} {i : Nat} {e0 : Int}
theorem byte88t (hle : bs.length ≤ 140737488355328) (h : Rt w0 w p v bs i e0) : Calls Try.prog 88 #[.pointer (some ⟨p, 0, none⟩)] w fun e w' => e = .returned (.int .u8 (gB bs i e0).1) ∧ Rt w0 w' p v bs (gB bs i e0).2.1 (gB bs i e0).2.2 :=
  (byte88 h.1).mono fun e w' ⟨a, b, c⟩ => ⟨a, b, h.2.trans c (fun _ _ q => q)⟩
theorem var91t (hle : bs.length ≤ 140737488355328) (h : Rt w0 w p v bs i e0) : Calls Try.prog 91 #[.pointer (some ⟨p, 0, none⟩)] w fun e w' => e = .returned (.int .u64 (gV bs i e0).1) ∧ Rt w0 w' p v bs (gV bs i e0).2.1 (gV bs i e0).2.2 :=
  (var91 h.1 hle).mono fun e w' ⟨a, b, c⟩ => ⟨a, b, h.2.trans c (fun _ _ q => q)⟩
theorem int92t (hle : bs.length ≤ 140737488355328) (h : Rt w0 w p v bs i e0) : Calls Try.prog 92 #[.pointer (some ⟨p, 0, none⟩)] w fun e w' => e = .returned (.int .i64 (cap31 (gV bs i e0).1)) ∧ Rt w0 w' p v bs (gV bs i e0).2.1 (gV bs i e0).2.2 :=
  (int92 h.1 hle).mono fun e w' ⟨a, b, c⟩ => ⟨a, b, h.2.trans c (fun _ _ q => q)⟩
theorem hash93t (hle : bs.length ≤ 140737488355328) (h : Rt w0 w p v bs i e0) : Calls Try.prog 93 #[.pointer (some ⟨p, 0, none⟩)] w fun e w' => e = .returned (.agg ((pad 32 (gR bs i e0 32).1).map bv).toArray) ∧ Rt w0 w' p v bs (gR bs i e0 32).2.1 (gR bs i e0 32).2.2 :=
  (hash93 h.1 hle).mono fun e w' ⟨a, b, c⟩ => ⟨a, b, h.2.trans c (fun _ _ q => q)⟩
theorem seal94t (h : Rt w0 w p v bs i e0) : Calls Try.prog 94 #[.func (.func 90) #[] #[]] w fun e w' => e = .returned (.agg (z16.map bv).toArray) ∧ Rt w0 w' p v bs i e0 :=
  (seal94 w).mono fun e w' ⟨a, b⟩ => ⟨a, h.1.turn_no b, h.2.then_no b⟩
theorem byte99t (hle : bs.length ≤ 140737488355328) (h : Rn w0 w p v bs i e0) : Calls Try.prog 99 #[.pointer (some ⟨p, 0, none⟩)] w fun e w' => e = .returned (.int .u8 (gB bs i e0).1) ∧ Rn w0 w' p v bs (gB bs i e0).2.1 (gB bs i e0).2.2 :=
  (byte99 h.1 hle).mono fun e w' ⟨a, b, c⟩ => ⟨a, b, h.2.trans c (fun _ _ q => q)⟩
theorem var101t (hle : bs.length ≤ 140737488355328) (h : Rn w0 w p v bs i e0) : Calls Try.prog 101 #[.pointer (some ⟨p, 0, none⟩)] w fun e w' => e = .returned (.int .u64 (gV bs i e0).1) ∧ Rn w0 w' p v bs (gV bs i e0).2.1 (gV bs i e0).2.2 :=
  (var101 h.1 hle).mono fun e w' ⟨a, b, c⟩ => ⟨a, b, h.2.trans c (fun _ _ q => q)⟩
theorem hash103t (hle : bs.length ≤ 140737488355328) (h : Rn w0 w p v bs i e0) : Calls Try.prog 103 #[.pointer (some ⟨p, 0, none⟩)] w fun e w' => e = .returned (.agg ((pad 32 (gR bs i e0 32).1).map bv).toArray) ∧ Rn w0 w' p v bs (gR bs i e0 32).2.1 (gR bs i e0 32).2.2 :=
  (hash103 h.1 hle).mono fun e w' ⟨a, b, c⟩ => ⟨a, b, h.2.trans c (fun _ _ q => q)⟩
theorem seal104t (h : Rn w0 w p v bs i e0) (q : Nat) : Calls Try.prog 104 #[.pointer (some ⟨q, 0, none⟩), .bool false] w fun e w' => e = .returned (.agg (z16.map bv).toArray) ∧ Rn w0 w' p v bs i e0 :=
  (seal104 w q).mono fun e w' ⟨a, b⟩ => ⟨a, h.1.turn_no b, h.2.then_no b⟩
set_option maxRecDepth 100000 in
set_option maxHeartbeats 1000000 in
theorem vote44 (h : Rd w p v bs i e0) (hle : bs.length ≤ 140737488355328) : Calls Try.prog 44 #[.pointer (some ⟨p, 0, none⟩), .func (.func 90) #[] #[]] w fun e w' => e = .returned (.agg (rdV bs i e0).1.cs.toArray) ∧ Rd w' p v bs (rdV bs i e0).2.1 (rdV bs i e0).2.2 ∧ Turn (fun k => k = p) w w' := by
  have hlt := h.lt
  have hown : ∀ b, v.ownBlock = some b → b < w.heap.size := fun b q => h.own.lt q
  have hb : IntKind.i64.wrap (((gB bs i e0).1 : Nat) : Int) = (((gB bs i e0).1 : Nat) : Int) := by have := gB_lt bs i e0; rw [IntKind.wrap_i64]; omega
  have C1 := fun w0 W (k : Rt w0 W p v bs i e0) => byte88t hle k
  simp only [rdV]
  generalize gB bs i e0 = a at *
  obtain ⟨a1, a2, a3⟩ := a
  dsimp only at *
  have C2 := fun w0 W (k : Rt w0 W p v bs a2 a3) => var91t hle k
  generalize gV bs a2 a3 = b at *
  obtain ⟨b1, b2, b3⟩ := b
  dsimp only at *
  have C3 := fun w0 W (k : Rt w0 W p v bs b2 b3) => int92t hle k
  generalize gV bs b2 b3 = c at *
  obtain ⟨c1, c2, c3⟩ := c
  dsimp only at *
  have C4 := fun w0 W (k : Rt w0 W p v bs c2 c3) => hash93t hle k
  have hpl := pad_len 32 _ (gR_len bs c2 c3 32)
  generalize gR bs c2 c3 32 = d at *
  obtain ⟨d1, d2, d3⟩ := d
  dsimp only at *
  have C5 := fun w0 W (k : Rt w0 W p v bs d2 d3) => var91t hle k
  generalize gV bs d2 d3 = t at *
  obtain ⟨t1, t2, t3⟩ := t
  dsimp only at *
  have C6 := fun w0 W (k : Rt w0 W p v bs t2 t3) => var91t hle k
  generalize gV bs t2 t3 = f at *
  obtain ⟨f1, f2, f3⟩ := f
  dsimp only at *
  have C7 := fun w0 W (k : Rt w0 W p v bs f2 f3) => seal94t k
  generalize cap31 c1 = c1' at *
  generalize pad 32 d1 = d1' at *
  have hB := built31 ⟨(a1 : Int), (b1 : Int), (c1' : Int), d1', (t1 : Int), (f1 : Int), z16⟩ ⟨hpl, rfl⟩
  have hl := Vt.size (v := ⟨(a1 : Int), (b1 : Int), (c1' : Int), d1', (t1 : Int), (f1 : Int), z16⟩) ⟨hpl, rfl⟩
  have ho := all_oneCell_toArray (Vt.one ⟨(a1 : Int), (b1 : Int), (c1' : Int), d1', (t1 : Int), (f1 : Int), z16⟩)
  dsimp only at hB
  generalize (z16.map bv).toArray = s16 at *
  generalize (d1'.map bv).toArray = d32 at *
  generalize (Vt.mk (a1 : Int) (b1 : Int) (c1' : Int) d1' (t1 : Int) (f1 : Int) z16).cs.toArray = VV at *
  have hSi : (Try.prog.info? 31).map (·.size) = some VV.size := by rw [hl]; exact size29
  go_enter Try.func44, Try.ntmps44
  go_upto_region 1 with fail
  obtain ⟨Z, hZ, hZs⟩ : ∃ Z : Array Value, Z = #[.int .i64 0, .int .u64 0, .int .i64 0, .int .u8 0, .int .u8 0, .int .u8 0, .int .u8 0, .int .u8 0, .int .u8 0, .int .u8 0, .int .u8 0, .int .u8 0, .int .u8 0, .int .u8 0, .int .u8 0, .int .u8 0, .int .u8 0, .int .u8 0, .int .u8 0, .int .u8 0, .int .u8 0, .int .u8 0, .int .u8 0, .int .u8 0, .int .u8 0, .int .u8 0, .int .u8 0, .int .u8 0, .int .u8 0, .int .u8 0, .int .u8 0, .int .u8 0, .int .u8 0, .int .u8 0, .int .u8 0, .int .u64 0, .int .u64 0, .int .u8 0, .int .u8 0, .int .u8 0, .int .u8 0, .int .u8 0, .int .u8 0, .int .u8 0, .int .u8 0, .int .u8 0, .int .u8 0, .int .u8 0, .int .u8 0, .int .u8 0, .int .u8 0, .int .u8 0, .int .u8 0] ∧ Z.size = 53 := ⟨_, rfl, rfl⟩
  rw [← hZ]
  clear hZ
  have hA := Row.new w Z 31
  have T1 : Turn no w (w.alloc (.cells Z 31)) := (Turn.refl no w).alloc _
  have K0 : Rt (w.alloc (.cells Z 31)) (w.alloc (.cells Z 31)) p v bs i e0 := ⟨h.turn_no T1, Turn.refl _ _⟩
  generalize w.alloc (.cells Z 31) = w1 at *
  generalize hg : w.heap.size = g at *
  go_wp2_with (first | (go_at_call 88; refine Calls.mono (C1 _ _ (by assumption)) ?_; rintro e w2 ⟨rfl, K1⟩) | (go_at_call 91; (first | refine Calls.mono (C2 _ _ (by assumption)) ?_ | refine Calls.mono (C5 _ _ (by assumption)) ?_ | refine Calls.mono (C6 _ _ (by assumption)) ?_); rintro e wv ⟨rfl, Kv⟩) | (go_at_call 92; refine Calls.mono (C3 _ _ (by assumption)) ?_; rintro e w4 ⟨rfl, K4⟩) | (go_at_call 93; refine Calls.mono (C4 _ _ (by assumption)) ?_; rintro e w5 ⟨rfl, K5⟩) | (go_at_call 94; refine Calls.mono (C7 _ _ (by assumption)) ?_; rintro e w9 ⟨rfl, K9⟩) | (guard_target =~ wpList _ _ _ ({ dst := _, op := Op.build 31 _, .. } :: _) _ _; refine wpList_build_l rfl 31 _ rfl _ ?he VV hB ?_; (case he => rfl)) | (guard_target =~ wpList _ _ _ ({ dst := _, op := Op.store 31 _ _, .. } :: _) _ _; refine wpList_store_row rfl 31 (.tmp 4) (.tmp 20) rfl g VV rfl rfl 31 Z (hA.turn K9.2 (fun q => by omega)) hSi (by omega) ho ?_))
  have R9 := hA.turn K9.2 (fun q => by omega)
  have hz' : (w9.setRow g VV).heap[g]? = some (.cells VV 31 (0, 0)) := setRow_heap _ _ _ _ _ _ R9
  have TT : Turn (fun k => k = p) w w9 := T1.of_no.trans K9.2 (fun _ _ q => q)
  refine bodyPost_ret (v := .agg VV) ?_ rfl ⟨rfl, K9.1.turn (S := fun k => k = g) ((Turn.refl _ w9).setRow g VV (fun _ => rfl)) (fun k q e => ?_), TT.setRow _ _ (fun q => by omega)⟩
  · exact results_cell_row (P := Try.prog) Try.results44 _ _ g 31 VV (0, 0) _ rfl hz' Try.underlying31 rfl hSi
  · rcases q with q | q
    · omega
    · have := hown _ q; omega
set_option maxRecDepth 100000 in
set_option maxHeartbeats 1000000 in
theorem prop46 (h : Rd w p v bs i e0) (hle : bs.length ≤ 140737488355328) : Calls Try.prog 46 #[.pointer (some ⟨p, 0, none⟩), .func (.func 90) #[] #[]] w fun e w' => e = .returned (.agg (rdP bs i e0).1.cs.toArray) ∧ Rd w' p v bs (rdP bs i e0).2.1 (rdP bs i e0).2.2 ∧ Turn (fun k => k = p) w w' := by
  have hlt := h.lt
  have hok := rdP_ok bs i e0 h.le
  have hown : ∀ b, v.ownBlock = some b → b < w.heap.size := fun b q => h.own.lt q
  simp only [rdP] at hok ⊢
  have C2 := fun w0 W (k : Rt w0 W p v bs i e0) => var91t hle k
  generalize gV bs i e0 = b at *
  obtain ⟨b1, b2, b3⟩ := b
  dsimp only at *
  have C3 := fun w0 W (k : Rt w0 W p v bs b2 b3) => int92t hle k
  generalize gV bs b2 b3 = c at *
  obtain ⟨c1, c2, c3⟩ := c
  dsimp only at *
  have C1 := fun w0 W (k : Rt w0 W p v bs c2 c3) => int92t hle k
  generalize gV bs c2 c3 = s at *
  obtain ⟨s1, s2, s3⟩ := s
  dsimp only at *
  have C4 := fun w0 W (k : Rt w0 W p v bs s2 s3) => hash93t hle k
  generalize gR bs s2 s3 32 = d at *
  obtain ⟨d1, d2, d3⟩ := d
  dsimp only at *
  have C6 := fun w0 W (k : Rt w0 W p v bs d2 d3) => var91t hle k
  generalize gV bs d2 d3 = f at *
  obtain ⟨f1, f2, f3⟩ := f
  dsimp only at *
  have C7 := fun w0 W (k : Rt w0 W p v bs f2 f3) => seal94t k
  have hs : IntKind.i64.wrap ((cap31 s1 : Int) - 1) = (cap31 s1 : Int) - 1 := by have := cap31_le s1; rw [IntKind.wrap_i64]; omega
  generalize cap31 c1 = c1' at *
  generalize cap31 s1 = s1' at *
  generalize pad 32 d1 = d1' at *
  have hB := built33 _ hok
  have hl : (Po.mk b1 (c1' : Int) ((s1' : Int) - 1) d1' f1 z16).cs.toArray.size = 52 := by simpa using Po.len hok
  have ho := all_oneCell_toArray (Po.one ⟨b1, (c1' : Int), (s1' : Int) - 1, d1', f1, z16⟩)
  dsimp only at hB
  generalize (z16.map bv).toArray = s16 at *
  generalize (d1'.map bv).toArray = d32 at *
  generalize (Po.mk b1 (c1' : Int) ((s1' : Int) - 1) d1' f1 z16).cs.toArray = VV at *
  clear hok
  have hSi : (Try.prog.info? 33).map (·.size) = some VV.size := by rw [hl]; kernel_rfl
  go_enter Try.func46, Try.ntmps46
  go_upto_region 1 with fail
  obtain ⟨Z, hZ, hZs⟩ : ∃ Z : Array Value, Z = #[.int .u64 0, .int .i64 0, .int .i64 0, .int .u8 0, .int .u8 0, .int .u8 0, .int .u8 0, .int .u8 0, .int .u8 0, .int .u8 0, .int .u8 0, .int .u8 0, .int .u8 0, .int .u8 0, .int .u8 0, .int .u8 0, .int .u8 0, .int .u8 0, .int .u8 0, .int .u8 0, .int .u8 0, .int .u8 0, .int .u8 0, .int .u8 0, .int .u8 0, .int .u8 0, .int .u8 0, .int .u8 0, .int .u8 0, .int .u8 0, .int .u8 0, .int .u8 0, .int .u8 0, .int .u8 0, .int .u8 0, .int .u64 0, .int .u8 0, .int .u8 0, .int .u8 0, .int .u8 0, .int .u8 0, .int .u8 0, .int .u8 0, .int .u8 0, .int .u8 0, .int .u8 0, .int .u8 0, .int .u8 0, .int .u8 0, .int .u8 0, .int .u8 0, .int .u8 0] ∧ Z.size = 52 := ⟨_, rfl, rfl⟩
  rw [← hZ]
  clear hZ
  have hA := Row.new w Z 33
  have T1 : Turn no w (w.alloc (.cells Z 33)) := (Turn.refl no w).alloc _
  have K0 : Rt (w.alloc (.cells Z 33)) (w.alloc (.cells Z 33)) p v bs i e0 := ⟨h.turn_no T1, Turn.refl _ _⟩
  generalize w.alloc (.cells Z 33) = w1 at *
  generalize hg : w.heap.size = g at *
  go_wp2_with (first | (go_at_call 91; (first | refine Calls.mono (C2 _ _ (by assumption)) ?_ | refine Calls.mono (C6 _ _ (by assumption)) ?_); rintro e wv ⟨rfl, Kv⟩) | (go_at_call 92; (first | refine Calls.mono (C3 _ _ (by assumption)) ?_ | refine Calls.mono (C1 _ _ (by assumption)) ?_); rintro e w4 ⟨rfl, K4⟩) | (go_at_call 93; refine Calls.mono (C4 _ _ (by assumption)) ?_; rintro e w5 ⟨rfl, K5⟩) | (go_at_call 94; refine Calls.mono (C7 _ _ (by assumption)) ?_; rintro e w9 ⟨rfl, K9⟩) | (guard_target =~ wpList _ _ _ ({ dst := _, op := Op.build 33 _, .. } :: _) _ _; refine wpList_build_l rfl 33 _ rfl _ ?he VV hB ?_; (case he => rfl)) | (guard_target =~ wpList _ _ _ ({ dst := _, op := Op.store 33 _ _, .. } :: _) _ _; refine wpList_store_row rfl 33 (.tmp 4) (.tmp 18) rfl g VV rfl rfl 33 Z (hA.turn K9.2 (fun q => by omega)) hSi (by omega) ho ?_))
  have R9 := hA.turn K9.2 (fun q => by omega)
  have hz' : (w9.setRow g VV).heap[g]? = some (.cells VV 33 (0, 0)) := setRow_heap _ _ _ _ _ _ R9
  have TT : Turn (fun k => k = p) w w9 := T1.of_no.trans K9.2 (fun _ _ q => q)
  refine bodyPost_ret (v := .agg VV) ?_ rfl ⟨rfl, K9.1.turn (S := fun k => k = g) ((Turn.refl _ w9).setRow g VV (fun _ => rfl)) (fun k q e => ?_), TT.setRow _ _ (fun q => by omega)⟩
  · exact results_cell_row (P := Try.prog) Try.results46 _ _ g 33 VV (0, 0) _ rfl hz' Try.underlying33 rfl hSi
  · rcases q with q | q
    · omega
    · have := hown _ q; omega
end
end Go.Proofs.Ytpfjllkmaogafaa

/- readVote, readProposal of the document. -/
namespace Go.Proofs.Ytpfjllkmaogafaa
open Go.RowKit
set_option linter.unusedVariables false

theorem Row.frozen {w : World} {g : Nat} {cs : Array Value} {e : TypeId} (h : Row w g cs e) (j : Nat) : w.frozen? ⟨g, j, none⟩ = false := frozen_of_row w g j cs e h
theorem Row.set1 {w : World} {g : Nat} {cs : Array Value} {e : TypeId} (h : Row w g cs e) (j : Nat) (u : Value) : Row (w.setCell ⟨g, j, none⟩ u) g (cs.setIfInBounds j u) e := heap_setCell_same w g j cs e u h
theorem over_cons (cur : Array Value) (o : Nat) (c : Value) (cs : List Value) (h : o < cur.size) : over cur o (c :: cs) = over (cur.setIfInBounds o c) (o + 1) cs := by
  unfold over
  congr 1
  have e1 : (cur.setIfInBounds o c).toList = cur.toList.set o c := by simp
  rw [e1]
  apply List.ext_getElem?
  intro j
  simp only [List.getElem?_append, List.getElem?_take, List.getElem?_drop, List.length_append, List.length_take, List.length_cons, List.getElem?_set, List.length_set, Array.length_toList]
  rw [Nat.min_eq_left (by omega), Nat.min_eq_left (by omega)]
  by_cases h1 : j < o
  · rw [if_pos (by omega), if_pos h1, if_pos h1, if_pos (by omega), if_pos (by omega), if_pos (by omega), if_neg (by omega)]
  · by_cases h2 : j = o
    · subst h2
      rw [if_pos (by omega), if_neg (by omega), if_pos (by omega), if_pos (by omega), if_pos (by omega), if_pos rfl, if_pos (by omega)]
      simp
    · by_cases h3 : j < o + (cs.length + 1)
      · rw [if_pos h3, if_neg h1, if_pos (by omega), if_neg (by omega)]
        rw [show j - o = (j - (o + 1)) + 1 by omega]
        simp
      · rw [if_neg h3, if_neg (by omega), if_neg (by omega)]
        congr 1
        omega
theorem Row.setCells : ∀ (l : List Value) {w : World} {g o : Nat} {cs : Array Value} {e : TypeId}, Row w g cs e → o + l.length ≤ cs.size → Row (w.setCells g o l) g (over cs o l) e
  | [], w, g, o, cs, e, h, hl => by
    have : over cs o [] = cs := by simp [over]
    rw [this]
    exact h
  | c :: l, w, g, o, cs, e, h, hl => by
    simp only [List.length_cons] at hl
    rw [over_cons cs o c l (by omega)]
    exact Row.setCells l (h.set1 o c) (by simp; omega)
theorem Turn.setCells : ∀ (l : List Value) {S : Nat → Prop} {a w : World} {g o : Nat}, Turn S a w → (g < a.heap.size → S g) → Turn S a (w.setCells g o l)
  | [], _, _, _, _, _, h, _ => h
  | c :: l, S, a, w, g, o, h, hs => Turn.setCells l (h.setCell (p := ⟨g, o, none⟩) hs c) hs
/-- A Read, and a struct that is being filled. -/
structure Sv (w : World) (p : Nat) (v : Value) (bs : List UInt8) (g4 g5 : Nat) (Z : Array Value) (t : TypeId) (W : World) (i : Nat) (e : Int) (X : Array Value) : Prop where
  rq : Rq W p v bs i e
  tt : Turn (fun k => k = p) w W
  r4 : Row W g4 Z t
  r5 : Row W g5 X t
  hp : p < w.heap.size
  hv : ∀ b, v.ownBlock = some b → b < w.heap.size
  h4 : w.heap.size ≤ g4
  h5 : w.heap.size ≤ g5
  h45 : g4 ≠ g5
section
variable {w W W' : World} {p : Nat} {v : Value} {bs : List UInt8} {g4 g5 : Nat} {Z : Array Value} {t : TypeId} {i i' : Nat} {e e' : Int} {X : Array Value}
theorem Sv.read (h : Sv w p v bs g4 g5 Z t W i e X) (r : Rq W' p v bs i' e') (T : Turn (fun k => k = p) W W') : Sv w p v bs g4 g5 Z t W' i' e' X :=
  ⟨r, h.tt.trans T (fun _ _ q => q), h.r4.turn T (fun q => by have := h.h4; have := h.hp; omega), h.r5.turn T (fun q => by have := h.h5; have := h.hp; omega), h.hp, h.hv, h.h4, h.h5, h.h45⟩
theorem Sv.keep (h : Sv w p v bs g4 g5 Z t W i e X) (Y : Array Value) (T : Turn (fun k => k = g5) W W') (r : Row W' g5 Y t) : Sv w p v bs g4 g5 Z t W' i e Y :=
  ⟨h.rq.turn T (fun k q r => by
    have h1 := h.h5
    rcases q with q | q
    · have := h.hp; omega
    · have := h.hv _ q; omega), h.tt.trans T (fun k hk q => by have := h.h5; omega), h.r4.turn T (fun q => h.h45 q), r, h.hp, h.hv, h.h4, h.h5, h.h45⟩
theorem Sv.set1 (h : Sv w p v bs g4 g5 Z t W i e X) (j : Nat) (u : Value) : Sv w p v bs g4 g5 Z t (W.setCell ⟨g5, j, none⟩ u) i e (X.setIfInBounds j u) :=
  h.keep _ ((Turn.refl (fun k => k = g5) W).setCell (p := ⟨g5, j, none⟩) (fun _ => rfl) u) (h.r5.set1 j u)
theorem Sv.setN (h : Sv w p v bs g4 g5 Z t W i e X) (o : Nat) (l : List Value) (hl : o + l.length ≤ X.size) : Sv w p v bs g4 g5 Z t (W.setCells g5 o l) i e (over X o l) :=
  h.keep _ (Turn.setCells l (Turn.refl (fun k => k = g5) W) (fun _ => rfl)) (Row.setCells l h.r5 hl)
theorem Sv.there (h : Sv w p v bs g4 g5 Z t W i e X) (o n : Nat) (hn : o + n ≤ X.size) : W.there g5 o n := fun j hj => by
  have hc := h.r5.cell (o + j) (X[o + j]'(by omega)) (by simp)
  exact ⟨by rw [hc]; rfl, h.r5.frozen _⟩
theorem sv99 (hle : bs.length ≤ 140737488355328) (h : Sv w p v bs g4 g5 Z t W i e X) : Calls Try.prog 99 #[.pointer (some ⟨p, 0, none⟩)] W fun e1 w' => e1 = .returned (.int .u8 (gB bs i e).1) ∧ Sv w p v bs g4 g5 Z t w' (gB bs i e).2.1 (gB bs i e).2.2 X :=
  (byte99 h.rq hle).mono fun e w' ⟨a, b, c⟩ => ⟨a, h.read b c⟩
theorem sv101 (hle : bs.length ≤ 140737488355328) (h : Sv w p v bs g4 g5 Z t W i e X) : Calls Try.prog 101 #[.pointer (some ⟨p, 0, none⟩)] W fun e1 w' => e1 = .returned (.int .u64 (gV bs i e).1) ∧ Sv w p v bs g4 g5 Z t w' (gV bs i e).2.1 (gV bs i e).2.2 X :=
  (var101 h.rq hle).mono fun e w' ⟨a, b, c⟩ => ⟨a, h.read b c⟩
theorem sv103 (hle : bs.length ≤ 140737488355328) (h : Sv w p v bs g4 g5 Z t W i e X) : Calls Try.prog 103 #[.pointer (some ⟨p, 0, none⟩)] W fun e1 w' => e1 = .returned (.agg ((pad 32 (gR bs i e 32).1).map bv).toArray) ∧ Sv w p v bs g4 g5 Z t w' (gR bs i e 32).2.1 (gR bs i e 32).2.2 X :=
  (hash103 h.rq hle).mono fun e w' ⟨a, b, c⟩ => ⟨a, h.read b c⟩
theorem sv104 (h : Sv w p v bs g4 g5 Z t W i e X) : Calls Try.prog 104 #[.pointer (some ⟨p, 0, none⟩), .bool false] W fun e1 w' => e1 = .returned (.agg (z16.map bv).toArray) ∧ Sv w p v bs g4 g5 Z t w' i e X :=
  (seal104 W p).mono fun e w' ⟨a, b⟩ => ⟨a, h.read (h.rq.turn_no b) b.of_no⟩
end
theorem set_h (x : Vt) (n : Int) : x.cs.toArray.setIfInBounds 1 (.int .u64 n) = { x with h := n }.cs.toArray := by simp [Vt.cs]
theorem set_r (x : Vt) (n : Int) : x.cs.toArray.setIfInBounds 2 (.int .i64 n) = { x with r := n }.cs.toArray := by simp [Vt.cs]
theorem set_id (x : Vt) (ho : x.ok) (l : List UInt8) (hl : l.length = 32) : over x.cs.toArray 3 (l.map bv) = { x with id := l }.cs.toArray := by
  have h1 := ho.1
  simp [over, Vt.cs, hl, h1]
theorem set_t (x : Vt) (ho : x.ok) (n : Int) : x.cs.toArray.setIfInBounds 35 (.int .u64 n) = { x with t := n }.cs.toArray := by
  have h1 := ho.1
  simp [Vt.cs, h1]
theorem set_f (x : Vt) (ho : x.ok) (n : Int) : x.cs.toArray.setIfInBounds 36 (.int .u64 n) = { x with f := n }.cs.toArray := by
  have h1 := ho.1
  simp [Vt.cs, h1]
theorem set_se (x : Vt) (ho : x.ok) (l : List UInt8) (hl : l.length = 16) : over x.cs.toArray 37 (l.map bv) = { x with se := l }.cs.toArray := by
  have h1 := ho.1
  have h2 := ho.2
  simp [over, Vt.cs, hl, h1, List.take_append, List.drop_append]
  rw [List.take_of_length_le (by simp; omega), List.drop_eq_nil_of_le (by simp; omega), List.drop_eq_nil_of_le (by simp; omega)]
  simp
theorem pset_r (x : Po) (n : Int) : x.cs.toArray.setIfInBounds 1 (.int .i64 n) = { x with r := n }.cs.toArray := by simp [Po.cs]
theorem pset_vr (x : Po) (n : Int) : x.cs.toArray.setIfInBounds 2 (.int .i64 n) = { x with vr := n }.cs.toArray := by simp [Po.cs]
theorem pset_id (x : Po) (h1 : x.id.length = 32) (l : List UInt8) (hl : l.length = 32) : over x.cs.toArray 3 (l.map bv) = { x with id := l }.cs.toArray := by
  simp [over, Po.cs, hl, h1]
theorem pset_f (x : Po) (h1 : x.id.length = 32) (n : Nat) : x.cs.toArray.setIfInBounds 35 (.int .u64 n) = { x with f := n }.cs.toArray := by
  simp [Po.cs, h1]
theorem pset_se (x : Po) (h1 : x.id.length = 32) (h2 : x.se.length = 16) (l : List UInt8) (hl : l.length = 16) : over x.cs.toArray 36 (l.map bv) = { x with se := l }.cs.toArray := by
  simp [over, Po.cs, hl, h1, List.take_append, List.drop_append]
  rw [List.take_of_length_le (by simp; omega), List.drop_eq_nil_of_le (by simp; omega), List.drop_eq_nil_of_le (by simp; omega)]
  simp
theorem built31_0 (k : Int) : Try.prog.built 31 [(0, .int .i64 k)] = some (Vt.mk k 0 0 z32 0 0 z16).cs.toArray := by kernel_rfl
theorem built33_0 (h : Nat) : Try.prog.built 33 [(0, .int .u64 h)] = some (Po.mk h 0 0 z32 0 z16).cs.toArray := by kernel_rfl

set_option maxRecDepth 100000 in
set_option maxHeartbeats 1000000 in
theorem vote48 {w : World} {p : Nat} {v : Value} {bs : List UInt8} {i : Nat} {e0 : Int} (h : Rq w p v bs i e0) (hle : bs.length ≤ 140737488355328) : Calls Try.prog 48 #[.pointer (some ⟨p, 0, none⟩), .bool false] w fun e w' => e = .returned (.agg (rdV bs i e0).1.cs.toArray) ∧ Rq w' p v bs (rdV bs i e0).2.1 (rdV bs i e0).2.2 ∧ Turn (fun k => k = p) w w' := by
  have hlt := h.lt
  have hown : ∀ b, v.ownBlock = some b → b < w.heap.size := fun b q => h.own.lt q
  have hb : IntKind.i64.wrap (((gB bs i e0).1 : Nat) : Int) = (((gB bs i e0).1 : Nat) : Int) := by have := gB_lt bs i e0; rw [IntKind.wrap_i64]; omega
  have C1 := fun w0 W (k : Rn w0 W p v bs i e0) => byte99t hle k
  have l1 := gB_le bs i e0 h.le
  simp only [rdV]
  generalize gB bs i e0 = a at *
  obtain ⟨a1, a2, a3⟩ := a
  dsimp only at *
  have C2 := fun w' g4 g5 Z t W X (k : Sv w' p v bs g4 g5 Z t W a2 a3 X) => sv101 hle k
  have l2 := gV_le bs a2 a3 l1
  generalize gV bs a2 a3 = b at *
  obtain ⟨b1, b2, b3⟩ := b
  dsimp only at *
  have C3 := fun w' g4 g5 Z t W X (k : Sv w' p v bs g4 g5 Z t W b2 b3 X) => sv101 hle k
  have C3' := fun W => small102 W _ (gV_lt bs b2 b3 l2)
  generalize gV bs b2 b3 = c at *
  obtain ⟨c1, c2, c3⟩ := c
  dsimp only at *
  have C4 := fun w' g4 g5 Z t W X (k : Sv w' p v bs g4 g5 Z t W c2 c3 X) => sv103 hle k
  have hpl := pad_len 32 _ (gR_len bs c2 c3 32)
  generalize gR bs c2 c3 32 = d at *
  obtain ⟨d1, d2, d3⟩ := d
  dsimp only at *
  have C5 := fun w' g4 g5 Z t W X (k : Sv w' p v bs g4 g5 Z t W d2 d3 X) => sv101 hle k
  generalize gV bs d2 d3 = t at *
  obtain ⟨t1, t2, t3⟩ := t
  dsimp only at *
  have C6 := fun w' g4 g5 Z t W X (k : Sv w' p v bs g4 g5 Z t W t2 t3 X) => sv101 hle k
  generalize gV bs t2 t3 = f at *
  obtain ⟨f1, f2, f3⟩ := f
  dsimp only at *
  have C7 := fun w' g4 g5 Z t W X (k : Sv w' p v bs g4 g5 Z t W f2 f3 X) => sv104 k
  generalize cap31 c1 = c1' at *
  generalize pad 32 d1 = d1' at *
  have hi31 : (Try.prog.info? 31).map (·.size) = some 53 := size29
  have hB := built31_0 (a1 : Int)
  have o0 : (Vt.mk (a1 : Int) 0 0 z32 0 0 z16).ok := ⟨rfl, rfl⟩
  have hl0 := Vt.size o0
  have ho0 := all_oneCell_toArray (Vt.one (Vt.mk (a1 : Int) 0 0 z32 0 0 z16))
  have hsd : (d1'.map bv).toArray.size = 32 := by simpa using hpl
  have hss : (z16.map bv).toArray.size = 16 := rfl
  have hod : (d1'.map bv).toArray.all (·.oneCell') = true := by simp [bv, Value.oneCell']
  have hos : (z16.map bv).toArray.all (·.oneCell') = true := by simp [bv, Value.oneCell']
  have hi29 : (Try.prog.info? 29).map (·.size) = some (d1'.map bv).toArray.size := by rw [hsd]; exact size24
  have hi25 : (Try.prog.info? 25).map (·.size) = some (z16.map bv).toArray.size := by rw [hss]; kernel_rfl
  generalize hD : (d1'.map bv).toArray = d32 at *
  generalize hS : (z16.map bv).toArray = s16 at *
  generalize hX0 : (Vt.mk (a1 : Int) 0 0 z32 0 0 z16).cs.toArray = X0 at *
  have hlF := Vt.size (v := ⟨(a1 : Int), (b1 : Int), (c1' : Int), d1', (t1 : Int), (f1 : Int), z16⟩) ⟨hpl, rfl⟩
  have hoF := all_oneCell_toArray (Vt.one ⟨(a1 : Int), (b1 : Int), (c1' : Int), d1', (t1 : Int), (f1 : Int), z16⟩)
  generalize hVV : (Vt.mk (a1 : Int) (b1 : Int) (c1' : Int) d1' (t1 : Int) (f1 : Int) z16).cs.toArray = VV at *
  have hSi : (Try.prog.info? 31).map (·.size) = some VV.size := by rw [hlF]; exact hi31
  go_enter Try.func48, Try.ntmps48
  go_upto_region 1 with fail
  obtain ⟨Z, hZ, hZs⟩ : ∃ Z : Array Value, Z = #[.int .i64 0, .int .u64 0, .int .i64 0, .int .u8 0, .int .u8 0, .int .u8 0, .int .u8 0, .int .u8 0, .int .u8 0, .int .u8 0, .int .u8 0, .int .u8 0, .int .u8 0, .int .u8 0, .int .u8 0, .int .u8 0, .int .u8 0, .int .u8 0, .int .u8 0, .int .u8 0, .int .u8 0, .int .u8 0, .int .u8 0, .int .u8 0, .int .u8 0, .int .u8 0, .int .u8 0, .int .u8 0, .int .u8 0, .int .u8 0, .int .u8 0, .int .u8 0, .int .u8 0, .int .u8 0, .int .u8 0, .int .u64 0, .int .u64 0, .int .u8 0, .int .u8 0, .int .u8 0, .int .u8 0, .int .u8 0, .int .u8 0, .int .u8 0, .int .u8 0, .int .u8 0, .int .u8 0, .int .u8 0, .int .u8 0, .int .u8 0, .int .u8 0, .int .u8 0, .int .u8 0] ∧ Z.size = 53 := ⟨_, rfl, rfl⟩
  rw [← hZ]
  clear hZ
  have hA := Row.new w Z 31
  have T1 : Turn no w (w.alloc (.cells Z 31)) := (Turn.refl no w).alloc _
  have K0 : Rn (w.alloc (.cells Z 31)) (w.alloc (.cells Z 31)) p v bs i e0 := ⟨h.turn_no T1, Turn.refl _ _⟩
  generalize w.alloc (.cells Z 31) = w1 at *
  have hlt1 := hA.lt
  go_upto_region 2 with (first | (go_at_call 99; refine Calls.mono (C1 _ _ K0) ?_; rintro e w2 ⟨rfl, K1⟩) | (guard_target =~ wpList _ _ _ ({ dst := _, op := Op.build 31 _, .. } :: _) _ _; refine wpList_build_l rfl 31 _ rfl _ ?he X0 hB ?_; (case he => rfl)) | (guard_target =~ wpList _ _ _ ({ dst := _, op := Op.store 31 _ _, .. } :: _) _ _; refine wpList_store_row rfl 31 (.tmp 5) (.tmp 9) rfl w2.heap.size X0 rfl rfl 31 _ (heap_alloc_new w2 _) (by rw [hl0]; exact hi31) (by rw [hl0]; rfl) ho0 ?_))
  rw [World.setRow_alloc_new]
  have S0 : Sv w p v bs w.heap.size w2.heap.size Z 31 (w2.alloc (.cells X0 31)) a2 a3 X0 := by
    have tA : Turn no w2 (w2.alloc (.cells X0 31)) := (Turn.refl no w2).alloc _
    have s2 := K1.2.size
    exact ⟨K1.1.turn_no tA, (T1.of_no.trans K1.2 (fun _ _ q => q)).then_no tA, ((hA.turn K1.2 (fun q => by omega)).turn tA (fun q => q)), Row.new w2 X0 31, hlt, hown, Nat.le_refl _, by omega, by omega⟩
  generalize w2.alloc (.cells X0 31) = W0 at *
  generalize w2.heap.size = g5 at *
  generalize hg : w.heap.size = g at *
  rw [← hX0] at S0
  clear hX0 hB hl0 ho0 K0 K1 hA T1 C1 hlt1
  go_upto_region 3 with (first | (go_at_call 101; refine Calls.mono (C2 _ _ _ _ _ _ _ S0) ?_; rintro e W1 ⟨rfl, S1⟩; have c1 := S1.r5.cell 1 _ (Vt.c1 _); have f1 := S1.r5.frozen 1))
  have Q1 := S1.set1 1 (.int .u64 (b1 : Int))
  rw [set_h] at Q1
  clear c1 f1 S1 S0 C2
  generalize W1.setCell ⟨g5, 1, none⟩ (.int .u64 (b1 : Int)) = Y1 at *
  go_upto_region 4 with (first | (go_at_call 101; refine Calls.mono (C3 _ _ _ _ _ _ _ Q1) ?_; rintro e W2 ⟨rfl, S2⟩; have c2 := S2.r5.cell 2 _ (Vt.c2 _); have f2 := S2.r5.frozen 2) | (go_at_call 102; refine (C3' _).mono ?_; rintro e w9 ⟨rfl, h9⟩; have h9' := h9.symm; subst h9'))
  have Q2 := S2.set1 2 (.int .i64 (c1' : Int))
  rw [set_r] at Q2
  clear c2 f2 S2 Q1 C3
  generalize W2.setCell ⟨g5, 2, none⟩ (.int .i64 (c1' : Int)) = Y2 at *
  go_upto_region 5 with (first | (go_at_call 103; refine Calls.mono (C4 _ _ _ _ _ _ _ Q2) ?_; rintro e W3 ⟨rfl, S3⟩) | (guard_target =~ wpList _ _ _ ({ dst := _, op := Op.store 29 _ _, .. } :: _) _ _; refine wpList_store_mid rfl 29 (.tmp 19) (.tmp 18) rfl g5 3 d32 rfl rfl (S3.there 3 _ (by rw [hsd, Vt.size ⟨rfl, rfl⟩]; omega)) hi29 hod ?_))
  have Q3 := S3.setN 3 d32.toList (by rw [Array.length_toList, hsd, Vt.size ⟨rfl, rfl⟩]; omega)
  clear S3 Q2 C4
  generalize W3.setCells g5 3 d32.toList = Y3 at *
  rw [← hD, List.toList_toArray, set_id _ ⟨rfl, rfl⟩ _ hpl] at Q3
  go_upto_region 6 with (first | (go_at_call 101; refine Calls.mono (C5 _ _ _ _ _ _ _ Q3) ?_; rintro e W4 ⟨rfl, S4⟩; have c4 := S4.r5.cell 35 _ (Vt.c35 ⟨hpl, rfl⟩); have f4 := S4.r5.frozen 35))
  have Q4 := S4.set1 35 (.int .u64 (t1 : Int))
  rw [set_t _ ⟨hpl, rfl⟩] at Q4
  clear c4 f4 S4 Q3 C5
  generalize W4.setCell ⟨g5, 35, none⟩ (.int .u64 (t1 : Int)) = Y4 at *
  go_upto_region 7 with (first | (go_at_call 101; refine Calls.mono (C6 _ _ _ _ _ _ _ Q4) ?_; rintro e W5 ⟨rfl, S5⟩; have c5 := S5.r5.cell 36 _ (Vt.c36 ⟨hpl, rfl⟩); have f5 := S5.r5.frozen 36))
  have Q5 := S5.set1 36 (.int .u64 (f1 : Int))
  rw [set_f _ ⟨hpl, rfl⟩] at Q5
  clear c5 f5 S5 Q4 C6
  generalize W5.setCell ⟨g5, 36, none⟩ (.int .u64 (f1 : Int)) = Y5 at *
  go_upto_region 8 with (first | (go_at_call 104; refine Calls.mono (C7 _ _ _ _ _ _ _ Q5) ?_; rintro e W6 ⟨rfl, S6⟩) | (guard_target =~ wpList _ _ _ ({ dst := _, op := Op.store 25 _ _, .. } :: _) _ _; refine wpList_store_mid rfl 25 (.tmp 29) (.tmp 28) rfl g5 37 s16 rfl rfl (S6.there 37 _ (by rw [hss, Vt.size ⟨hpl, rfl⟩]; omega)) hi25 hos ?_))
  have Q6 := S6.setN 37 s16.toList (by rw [Array.length_toList, hss, Vt.size ⟨hpl, rfl⟩]; omega)
  clear S6 Q5 C7
  generalize W6.setCells g5 37 s16.toList = Y6 at *
  rw [← hS, List.toList_toArray, set_se _ ⟨hpl, rfl⟩ _ rfl] at Q6
  dsimp only at Q6
  rw [hVV] at Q6
  go_wp2_with (first | (refine wpList_load_row rfl 31 (.tmp 5) rfl g5 rfl 31 VV (0, 0) _ Q6.r5 Try.underlying31 rfl hSi ?_) | (refine wpList_store_row rfl 31 (.tmp 4) (.tmp 30) rfl g VV rfl rfl 31 Z Q6.r4 hSi (by omega) hoF ?_))
  have hz' : (Y6.setRow g VV).heap[g]? = some (.cells VV 31 (0, 0)) := setRow_heap _ _ _ _ _ _ Q6.r4
  refine bodyPost_ret (v := .agg VV) ?_ rfl ⟨rfl, Q6.rq.turn (S := fun k => k = g) ((Turn.refl _ Y6).setRow g VV (fun _ => rfl)) (fun k q e => ?_), Q6.tt.setRow _ _ (fun q => by omega)⟩
  · exact results_cell_row (P := Try.prog) Try.results48 _ _ g 31 VV (0, 0) _ rfl hz' Try.underlying31 rfl hSi
  · rcases q with q | q
    · omega
    · have := hown _ q; omega

theorem Po.c1 (x : Po) : x.cs.toArray[(1 : Nat)]? = some (.int .i64 x.r) := by simp [Po.cs]
theorem Po.c2 (x : Po) : x.cs.toArray[(2 : Nat)]? = some (.int .i64 x.vr) := by simp [Po.cs]
theorem Po.c35 (x : Po) (h : x.id.length = 32) : x.cs.toArray[(35 : Nat)]? = some (.int .u64 x.f) := by simp [Po.cs, h]
theorem Po.size (x : Po) (h1 : x.id.length = 32) (h2 : x.se.length = 16) : x.cs.toArray.size = 52 := by simp [Po.cs, h1, h2]
set_option maxRecDepth 100000 in
set_option maxHeartbeats 1000000 in
theorem prop50 {w : World} {p : Nat} {v : Value} {bs : List UInt8} {i : Nat} {e0 : Int} (h : Rq w p v bs i e0) (hle : bs.length ≤ 140737488355328) : Calls Try.prog 50 #[.pointer (some ⟨p, 0, none⟩), .bool false] w fun e w' => e = .returned (.agg (rdP bs i e0).1.cs.toArray) ∧ Rq w' p v bs (rdP bs i e0).2.1 (rdP bs i e0).2.2 ∧ Turn (fun k => k = p) w w' := by
  have hlt := h.lt
  have hown : ∀ b, v.ownBlock = some b → b < w.heap.size := fun b q => h.own.lt q
  have C1 := fun w0 W (k : Rn w0 W p v bs i e0) => var101t hle k
  have l1 := gV_le bs i e0 h.le
  simp only [rdP]
  generalize gV bs i e0 = b at *
  obtain ⟨b1, b2, b3⟩ := b
  dsimp only at *
  have C3 := fun w' g4 g5 Z t W X (k : Sv w' p v bs g4 g5 Z t W b2 b3 X) => sv101 hle k
  have C3' := fun W => small102 W _ (gV_lt bs b2 b3 l1)
  have l2 := gV_le bs b2 b3 l1
  generalize gV bs b2 b3 = c at *
  obtain ⟨c1, c2, c3⟩ := c
  dsimp only at *
  have C2 := fun w' g4 g5 Z t W X (k : Sv w' p v bs g4 g5 Z t W c2 c3 X) => sv101 hle k
  have C2' := fun W => small102 W _ (gV_lt bs c2 c3 l2)
  generalize gV bs c2 c3 = s at *
  obtain ⟨s1, s2, s3⟩ := s
  dsimp only at *
  have C4 := fun w' g4 g5 Z t W X (k : Sv w' p v bs g4 g5 Z t W s2 s3 X) => sv103 hle k
  have hpl := pad_len 32 _ (gR_len bs s2 s3 32)
  generalize gR bs s2 s3 32 = d at *
  obtain ⟨d1, d2, d3⟩ := d
  dsimp only at *
  have C6 := fun w' g4 g5 Z t W X (k : Sv w' p v bs g4 g5 Z t W d2 d3 X) => sv101 hle k
  generalize gV bs d2 d3 = f at *
  obtain ⟨f1, f2, f3⟩ := f
  dsimp only at *
  have C7 := fun w' g4 g5 Z t W X (k : Sv w' p v bs g4 g5 Z t W f2 f3 X) => sv104 k
  have hs : IntKind.i64.wrap ((cap31 s1 : Int) - 1) = (cap31 s1 : Int) - 1 := by have := cap31_le s1; rw [IntKind.wrap_i64]; omega
  generalize cap31 c1 = c1' at *
  generalize cap31 s1 = s1' at *
  generalize pad 32 d1 = d1' at *
  have hi33 : (Try.prog.info? 33).map (·.size) = some 52 := by kernel_rfl
  have hB := built33_0 b1
  have hl0 := Po.size (Po.mk b1 0 0 z32 0 z16) rfl rfl
  have ho0 := all_oneCell_toArray (Po.one (Po.mk b1 0 0 z32 0 z16))
  have hsd : (d1'.map bv).toArray.size = 32 := by simpa using hpl
  have hss : (z16.map bv).toArray.size = 16 := rfl
  have hod : (d1'.map bv).toArray.all (·.oneCell') = true := by simp [bv, Value.oneCell']
  have hos : (z16.map bv).toArray.all (·.oneCell') = true := by simp [bv, Value.oneCell']
  have hi29 : (Try.prog.info? 29).map (·.size) = some (d1'.map bv).toArray.size := by rw [hsd]; exact size24
  have hi25 : (Try.prog.info? 25).map (·.size) = some (z16.map bv).toArray.size := by rw [hss]; kernel_rfl
  generalize hD : (d1'.map bv).toArray = d32 at *
  generalize hS : (z16.map bv).toArray = s16 at *
  generalize hX0 : (Po.mk b1 0 0 z32 0 z16).cs.toArray = X0 at *
  have hlF := Po.size (Po.mk b1 (c1' : Int) ((s1' : Int) - 1) d1' f1 z16) hpl rfl
  have hoF := all_oneCell_toArray (Po.one (Po.mk b1 (c1' : Int) ((s1' : Int) - 1) d1' f1 z16))
  generalize hVV : (Po.mk b1 (c1' : Int) ((s1' : Int) - 1) d1' f1 z16).cs.toArray = VV at *
  have hSi : (Try.prog.info? 33).map (·.size) = some VV.size := by rw [hlF]; exact hi33
  go_enter Try.func50, Try.ntmps50
  go_upto_region 1 with fail
  obtain ⟨Z, hZ, hZs⟩ : ∃ Z : Array Value, Z = #[.int .u64 0, .int .i64 0, .int .i64 0, .int .u8 0, .int .u8 0, .int .u8 0, .int .u8 0, .int .u8 0, .int .u8 0, .int .u8 0, .int .u8 0, .int .u8 0, .int .u8 0, .int .u8 0, .int .u8 0, .int .u8 0, .int .u8 0, .int .u8 0, .int .u8 0, .int .u8 0, .int .u8 0, .int .u8 0, .int .u8 0, .int .u8 0, .int .u8 0, .int .u8 0, .int .u8 0, .int .u8 0, .int .u8 0, .int .u8 0, .int .u8 0, .int .u8 0, .int .u8 0, .int .u8 0, .int .u8 0, .int .u64 0, .int .u8 0, .int .u8 0, .int .u8 0, .int .u8 0, .int .u8 0, .int .u8 0, .int .u8 0, .int .u8 0, .int .u8 0, .int .u8 0, .int .u8 0, .int .u8 0, .int .u8 0, .int .u8 0, .int .u8 0, .int .u8 0] ∧ Z.size = 52 := ⟨_, rfl, rfl⟩
  rw [← hZ]
  clear hZ
  have hA := Row.new w Z 33
  have T1 : Turn no w (w.alloc (.cells Z 33)) := (Turn.refl no w).alloc _
  have K0 : Rn (w.alloc (.cells Z 33)) (w.alloc (.cells Z 33)) p v bs i e0 := ⟨h.turn_no T1, Turn.refl _ _⟩
  generalize w.alloc (.cells Z 33) = w1 at *
  have hlt1 := hA.lt
  go_upto_region 2 with (first | (go_at_call 101; refine Calls.mono (C1 _ _ K0) ?_; rintro e w2 ⟨rfl, K1⟩) | (guard_target =~ wpList _ _ _ ({ dst := _, op := Op.build 33 _, .. } :: _) _ _; refine wpList_build_l rfl 33 _ rfl _ ?he X0 hB ?_; (case he => rfl)) | (guard_target =~ wpList _ _ _ ({ dst := _, op := Op.store 33 _ _, .. } :: _) _ _; refine wpList_store_row rfl 33 (.tmp 5) (.tmp 8) rfl w2.heap.size X0 rfl rfl 33 _ (heap_alloc_new w2 _) (by rw [hl0]; exact hi33) (by rw [hl0]; rfl) ho0 ?_))
  rw [World.setRow_alloc_new]
  have S0 : Sv w p v bs w.heap.size w2.heap.size Z 33 (w2.alloc (.cells X0 33)) b2 b3 X0 := by
    have tA : Turn no w2 (w2.alloc (.cells X0 33)) := (Turn.refl no w2).alloc _
    have s2 := K1.2.size
    exact ⟨K1.1.turn_no tA, (T1.of_no.trans K1.2 (fun _ _ q => q)).then_no tA, ((hA.turn K1.2 (fun q => by omega)).turn tA (fun q => q)), Row.new w2 X0 33, hlt, hown, Nat.le_refl _, by omega, by omega⟩
  generalize w2.alloc (.cells X0 33) = W0 at *
  generalize w2.heap.size = g5 at *
  generalize hg : w.heap.size = g at *
  rw [← hX0] at S0
  clear hX0 hB hl0 ho0 K0 K1 hA T1 C1 hlt1
  go_upto_region 3 with (first | (go_at_call 101; refine Calls.mono (C3 _ _ _ _ _ _ _ S0) ?_; rintro e W1 ⟨rfl, S1⟩; have c1 := S1.r5.cell 1 _ (Po.c1 _); have f1 := S1.r5.frozen 1) | (go_at_call 102; refine (C3' _).mono ?_; rintro e w9 ⟨rfl, h9⟩; have h9' := h9.symm; subst h9'))
  have Q1 := S1.set1 1 (.int .i64 (c1' : Int))
  rw [pset_r] at Q1
  clear c1 f1 S1 S0 C3
  generalize W1.setCell ⟨g5, 1, none⟩ (.int .i64 (c1' : Int)) = Y1 at *
  go_upto_region 4 with (first | (go_at_call 101; refine Calls.mono (C2 _ _ _ _ _ _ _ Q1) ?_; rintro e W2 ⟨rfl, S2⟩; have c2 := S2.r5.cell 2 _ (Po.c2 _); have f2 := S2.r5.frozen 2) | (go_at_call 102; refine (C2' _).mono ?_; rintro e w9 ⟨rfl, h9⟩; have h9' := h9.symm; subst h9'))
  have Q2 := S2.set1 2 (.int .i64 ((s1' : Int) - 1))
  rw [pset_vr] at Q2
  clear c2 f2 S2 Q1 C2
  generalize W2.setCell ⟨g5, 2, none⟩ (.int .i64 ((s1' : Int) - 1)) = Y2 at *
  go_upto_region 5 with (first | (go_at_call 103; refine Calls.mono (C4 _ _ _ _ _ _ _ Q2) ?_; rintro e W3 ⟨rfl, S3⟩) | (guard_target =~ wpList _ _ _ ({ dst := _, op := Op.store 29 _ _, .. } :: _) _ _; refine wpList_store_mid rfl 29 (.tmp 20) (.tmp 19) rfl g5 3 d32 rfl rfl (S3.there 3 _ (by rw [hsd, Po.size _ rfl rfl]; omega)) hi29 hod ?_))
  have Q3 := S3.setN 3 d32.toList (by rw [Array.length_toList, hsd, Po.size _ rfl rfl]; omega)
  clear S3 Q2 C4
  generalize W3.setCells g5 3 d32.toList = Y3 at *
  rw [← hD, List.toList_toArray, pset_id _ rfl _ hpl] at Q3
  go_upto_region 6 with (first | (go_at_call 101; refine Calls.mono (C6 _ _ _ _ _ _ _ Q3) ?_; rintro e W4 ⟨rfl, S4⟩; have c4 := S4.r5.cell 35 _ (Po.c35 _ hpl); have f4 := S4.r5.frozen 35))
  have Q4 := S4.set1 35 (.int .u64 (f1 : Int))
  rw [pset_f _ hpl] at Q4
  clear c4 f4 S4 Q3 C6
  generalize W4.setCell ⟨g5, 35, none⟩ (.int .u64 (f1 : Int)) = Y4 at *
  go_upto_region 7 with (first | (go_at_call 104; refine Calls.mono (C7 _ _ _ _ _ _ _ Q4) ?_; rintro e W5 ⟨rfl, S5⟩) | (guard_target =~ wpList _ _ _ ({ dst := _, op := Op.store 25 _ _, .. } :: _) _ _; refine wpList_store_mid rfl 25 (.tmp 27) (.tmp 26) rfl g5 36 s16 rfl rfl (S5.there 36 _ (by rw [hss, Po.size _ hpl rfl]; omega)) hi25 hos ?_))
  have Q5 := S5.setN 36 s16.toList (by rw [Array.length_toList, hss, Po.size _ hpl rfl]; omega)
  clear S5 Q4 C7
  generalize W5.setCells g5 36 s16.toList = Y5 at *
  rw [← hS, List.toList_toArray, pset_se _ hpl rfl _ rfl] at Q5
  dsimp only at Q5
  rw [hVV] at Q5
  go_wp2_with (first | (refine wpList_load_row rfl 33 (.tmp 5) rfl g5 rfl 33 VV (0, 0) _ Q5.r5 Try.underlying33 rfl hSi ?_) | (refine wpList_store_row rfl 33 (.tmp 4) (.tmp 28) rfl g VV rfl rfl 33 Z Q5.r4 hSi (by omega) hoF ?_))
  have hz' : (Y5.setRow g VV).heap[g]? = some (.cells VV 33 (0, 0)) := setRow_heap _ _ _ _ _ _ Q5.r4
  refine bodyPost_ret (v := .agg VV) ?_ rfl ⟨rfl, Q5.rq.turn (S := fun k => k = g) ((Turn.refl _ Y5).setRow g VV (fun _ => rfl)) (fun k q e => ?_), Q5.tt.setRow _ _ (fun q => by omega)⟩
  · exact results_cell_row (P := Try.prog) Try.results50 _ _ g 33 VV (0, 0) _ rfl hz' Try.underlying33 rfl hSi
  · rcases q with q | q
    · omega
    · have := hown _ q; omega
end Go.Proofs.Ytpfjllkmaogafaa
