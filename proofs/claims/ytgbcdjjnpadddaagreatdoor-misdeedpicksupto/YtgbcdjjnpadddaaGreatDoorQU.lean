/- Texts in one. -/
import Derived.Test.YtgbcdjjnpadddaaGreatDoorQW
import Derived.Test.YtgbcdjjnpadddaaGreatDoorDq
import Derived.Test.YtgbcdjjnpadddaaGreatDoorRows
import Derived.ChangeKeysEq
import Derived.Laws.Rows
import Derived.Laws.ResultCell
import Derived.Deep.MidRow
import Derived.Deep.RegionHeld3
import Derived.Lib.Bytealg
/- A vote as plain data and as cells; blocks of cells; arrays of bytes held against each other. -/
namespace Go.Proofs.YtgbcdjjnpadddaaGreatDoor
open Go.RowKit
set_option linter.unusedVariables false

section
variable {w : World} {g : Nat} {cs : Array Value} {e : TypeId}
theorem Row.setSame (h : Row w g cs e) (ds : Array Value) : Row (w.setRow g ds) g ds e := setRow_heap w g cs ds e _ h
theorem Row.setOther (h : Row w g cs e) {k : Nat} (hk : k ≠ g) (ds : Array Value) : Row (w.setRow k ds) g cs e := by
  unfold Row at *
  rw [setRow_other w k g ds (fun q => hk q.symm)]
  exact h
end
/-- A vote. -/
structure Vt where
  k : Int
  h : Int
  r : Int
  id : List UInt8
  t : Int
  f : Int
  se : List UInt8

def Vt.ok (v : Vt) : Prop := v.id.length = 32 ∧ v.se.length = 16

/-- A vote's cells. -/
def Vt.cs (v : Vt) : List Value := .int .i64 v.k :: .int .u64 v.h :: .int .i64 v.r :: (v.id.map bv ++ .int .u64 v.t :: .int .u64 v.f :: v.se.map bv)
theorem Vt.len {v : Vt} (h : v.ok) : v.cs.length = 53 := by simp [Vt.cs, h.1, h.2]
theorem Vt.size {v : Vt} (h : v.ok) : v.cs.toArray.size = 53 := by simpa using v.len h
theorem Vt.one (v : Vt) : ∀ u ∈ v.cs, u.oneCell' = true := by
  intro u hu
  simp only [Vt.cs, List.mem_cons, List.mem_append, List.mem_map] at hu
  rcases hu with rfl | rfl | rfl | ⟨b, _, rfl⟩ | rfl | rfl | ⟨b, _, rfl⟩ <;> rfl
theorem Vt.c0 (v : Vt) : v.cs.toArray[(0 : Nat)]? = some (.int .i64 v.k) := by simp [Vt.cs]
theorem Vt.c1 (v : Vt) : v.cs.toArray[(1 : Nat)]? = some (.int .u64 v.h) := by simp [Vt.cs]
theorem Vt.c2 (v : Vt) : v.cs.toArray[(2 : Nat)]? = some (.int .i64 v.r) := by simp [Vt.cs]
theorem Vt.c35 {v : Vt} (h : v.ok) : v.cs.toArray[(35 : Nat)]? = some (.int .u64 v.t) := by
  simp [Vt.cs, h.1]
theorem Vt.c36 {v : Vt} (h : v.ok) : v.cs.toArray[(36 : Nat)]? = some (.int .u64 v.f) := by
  simp [Vt.cs, List.getElem?_append, h.1]
theorem Vt.cid {v : Vt} (h : v.ok) (j : Nat) (u : Value) (hu : (v.id.map bv)[j]? = some u) : v.cs.toArray[3 + j]? = some u := by
  have hj : j < v.id.length := by have := (List.getElem?_eq_some_iff.1 hu).1; simpa using this
  rw [show 3 + j = j + 1 + 1 + 1 by omega]
  simp only [Vt.cs, List.getElem?_toArray, List.getElem?_cons_succ]
  rw [List.getElem?_append_left (by simpa using hj)]
  exact hu
theorem Vt.cse {v : Vt} (h : v.ok) (j : Nat) (u : Value) (hu : (v.se.map bv)[j]? = some u) : v.cs.toArray[37 + j]? = some u := by
  have h1 := h.1
  rw [show 37 + j = (34 + j) + 1 + 1 + 1 by omega]
  simp only [Vt.cs, List.getElem?_toArray, List.getElem?_cons_succ]
  rw [List.getElem?_append_right (by simp; omega)]
  rw [show 34 + j - (v.id.map bv).length = j + 1 + 1 by simp; omega]
  simp only [List.getElem?_cons_succ]
  exact hu
/-- What a block with a vote in it shows. -/
structure At (w : World) (g : Nat) (v : Vt) : Prop where
  c0 : w.cell? ⟨g, 0, none⟩ = some (.int .i64 v.k)
  c1 : w.cell? ⟨g, 1, none⟩ = some (.int .u64 v.h)
  c2 : w.cell? ⟨g, 2, none⟩ = some (.int .i64 v.r)
  c35 : w.cell? ⟨g, 35, none⟩ = some (.int .u64 v.t)
  c36 : w.cell? ⟨g, 36, none⟩ = some (.int .u64 v.f)
  cid : w.rangeAt g 3 (v.id.map bv)
theorem Row.vt {w : World} {g : Nat} {v : Vt} (r : Row w g v.cs.toArray 50) (h : v.ok) : At w g v :=
  ⟨r.cell 0 _ v.c0, r.cell 1 _ v.c1, r.cell 2 _ v.c2, r.cell 35 _ (Vt.c35 h), r.cell 36 _ (Vt.c36 h), fun j u hu => r.cell (3 + j) _ (Vt.cid h j u hu)⟩


theorem qsize24 : (Tryz.prog.info? 26).map (·.size) = some 32 := by kernel_rfl
theorem qsize29 : (Tryz.prog.info? 50).map (·.size) = some 53 := by kernel_rfl
theorem qsize5 : (Tryz.prog.info? 5).map (·.size) = some 1 := by kernel_rfl

theorem cells5 : Tryz.prog.cellsOf 5 = 1 := by kernel_rfl
theorem eqIn24 (w : World) (d : Nat) (X Y : List UInt8) (hx : X.length = 32) (hy : Y.length = 32) : (Op.equalIn (d + 2) 26 (.agg (X.map bv).toArray) (.agg (Y.map bv).toArray)).run Tryz.prog w = .ok (X == Y) w := by
  obtain ⟨i, hi⟩ : ∃ i, Tryz.prog.info? 5 = some i := by
    cases hq : Tryz.prog.info? 5 with
    | none => have := qsize5; simp [hq] at this
    | some i => exact ⟨i, rfl⟩
  rw [run_equalIn_array w (d + 1) _ _ Tryz.underlying26 hi, cells5, eqItems_u8 w d X Y _ (fun j hj => by simp at hj; omega), all_range X Y 32 hx hy]
theorem eqIn27 (w : World) (d : Nat) (X Y : List UInt8) (hx : X.length = 16) (hy : Y.length = 16) : (Op.equalIn (d + 2) 48 (.agg (X.map bv).toArray) (.agg (Y.map bv).toArray)).run Tryz.prog w = .ok (X == Y) w := by
  obtain ⟨i, hi⟩ : ∃ i, Tryz.prog.info? 5 = some i := by
    cases hq : Tryz.prog.info? 5 with
    | none => have := qsize5; simp [hq] at this
    | some i => exact ⟨i, rfl⟩
  rw [run_equalIn_array w (d + 1) _ _ Tryz.underlying48 hi, cells5, eqItems_u8 w d X Y _ (fun j hj => by simp at hj; omega), all_range X Y 16 hx hy]
theorem eql24 (w : World) (X Y : List UInt8) (hx : X.length = 32) (hy : Y.length = 32) : (binOp .eql 26 (.agg (X.map bv).toArray) (.agg (Y.map bv).toArray)).run Tryz.prog w = .ok (.bool (X == Y)) w := by
  rw [run_eql_struct, eqIn24 w 9998 X Y hx hy]
  rfl
theorem neq24 (w : World) (X Y : List UInt8) (hx : X.length = 32) (hy : Y.length = 32) : (binOp .neq 26 (.agg (X.map bv).toArray) (.agg (Y.map bv).toArray)).run Tryz.prog w = .ok (.bool (!(X == Y))) w := by
  rw [run_neq_struct, eqIn24 w 9998 X Y hx hy]
  rfl
section
variable {P : Program} {ops : Array Oper} {rest : List Oper} {op : Oper} {a : Act} {w : World} {Q : Exit → Act → World → Prop}
theorem wpList_want (hg : Region.wanted op (yielded ops a.tmps) = true) (h : ∀ K : Act → World → Prop, (∀ a w, wpList P ops Q rest a w → K a w) → op.wp P a w K Q) : wpList P ops Q (op :: rest) a w :=
  wpList_step fun K hK => by simp only [hg, if_true]; exact h K hK
/-- A load of many cells whose guard is on. -/
theorem wpList_load_midG (hgd : Region.wanted op (yielded ops a.tmps) = true) (ty : TypeId) (x : Operand) (ho : op.op = .load ty x)
    (b o : Nat) (hx : a.eval x = .pointer (some ⟨b, o, none⟩)) (cs : List Value) (d : TypeDesc) (hc : w.rangeAt b o cs)
    (hu : P.underlying ty = some d) (hd : d.isRow = true) (hi : (P.info? ty).map (·.size) = some cs.length)
    (h : wpList P ops Q rest (a.put op.dst (.agg cs.toArray)) w) : wpList P ops Q (op :: rest) a w :=
  wpList_want hgd fun _ hK => wp_load_mid ty x ho b o hx cs d hc hu hd hi (hK _ _ h)
end
end Go.Proofs.YtgbcdjjnpadddaaGreatDoor



/- PlainVote of the program and of the document. -/
namespace Go.Proofs.YtgbcdjjnpadddaaGreatDoor
open Go.RowKit
set_option linter.unusedVariables false

def zid : List UInt8 := List.replicate 32 0
def hB (h : Int) : Bool := decide (1 ≤ h) && decide (h ≤ 1099511627776)
def rB (r : Int) : Bool := decide (0 ≤ r) && decide (r ≤ 65535)
def tB (t : Int) : Bool := decide (t ≤ 1125899906842624)

theorem zid_lit : (zid.map bv).toArray = #[.int .u8 0, .int .u8 0, .int .u8 0, .int .u8 0, .int .u8 0, .int .u8 0, .int .u8 0, .int .u8 0, .int .u8 0, .int .u8 0, .int .u8 0, .int .u8 0, .int .u8 0, .int .u8 0, .int .u8 0, .int .u8 0, .int .u8 0, .int .u8 0, .int .u8 0, .int .u8 0, .int .u8 0, .int .u8 0, .int .u8 0, .int .u8 0, .int .u8 0, .int .u8 0, .int .u8 0, .int .u8 0, .int .u8 0, .int .u8 0, .int .u8 0, .int .u8 0] := rfl
theorem eqz (w : World) (X : List UInt8) (hx : X.length = 32) : (Op.equalIn 10000 26 (.agg (X.map bv).toArray) (.agg #[.int .u8 0, .int .u8 0, .int .u8 0, .int .u8 0, .int .u8 0, .int .u8 0, .int .u8 0, .int .u8 0, .int .u8 0, .int .u8 0, .int .u8 0, .int .u8 0, .int .u8 0, .int .u8 0, .int .u8 0, .int .u8 0, .int .u8 0, .int .u8 0, .int .u8 0, .int .u8 0, .int .u8 0, .int .u8 0, .int .u8 0, .int .u8 0, .int .u8 0, .int .u8 0, .int .u8 0, .int .u8 0, .int .u8 0, .int .u8 0, .int .u8 0, .int .u8 0])).run Tryz.prog w = .ok (X == zid) w := by
  rw [← zid_lit]
  exact eqIn24 w 9998 X zid hx (by decide)

set_option maxRecDepth 100000 in
theorem none15 (w : World) (X : List UInt8) (hx : X.length = 32) : Calls Tryz.prog 72 #[.agg (X.map bv).toArray] w fun e w' => e = .returned (.bool (X == zid)) ∧ Turn no w w' := by
  have he := fun W => eqz W X hx
  have hs : (X.map bv).toArray.size = 32 := by simpa using hx
  generalize (X.map bv).toArray = A at *
  have hi : (Tryz.prog.info? 26).map (·.size) = some A.size := by rw [hs]; exact qsize24
  go_enter Tryz.func72, Tryz.ntmps72
  go_wp2_with (refine wpList_load_row rfl 26 _ rfl w.heap.size rfl 26 A _ _ (Row.new w A 26) Tryz.underlying26 rfl hi ?_)
  go_ret
  exact ⟨rfl, (Turn.refl no w).alloc _⟩
theorem height18 (w : World) (h : Int) : Calls Tryz.prog 75 #[.int .u64 h] w fun e w' => e = .returned (.bool (hB h)) ∧ w = w' := by
  by_cases h1 : 1 ≤ h
  · go_enter Tryz.func75, Tryz.ntmps75
    go_wp2_with fail
    go_ret
    exact ⟨by simp [hB, h1], rfl⟩
  · have h2 : h < 1 := by omega
    go_enter Tryz.func75, Tryz.ntmps75
    go_wp2_with fail
    go_ret
    exact ⟨by simp [hB]; omega, rfl⟩
theorem height21 (w : World) (h : Int) : Calls Tryz.prog 106 #[.int .u64 h] w fun e w' => e = .returned (.bool (hB h)) ∧ w = w' := by
  by_cases h1 : 1 ≤ h
  · go_enter Tryz.func106, Tryz.ntmps106
    go_wp2_with fail
    go_ret
    exact ⟨by simp [hB, h1], rfl⟩
  · have h2 : h < 1 := by omega
    go_enter Tryz.func106, Tryz.ntmps106
    go_wp2_with fail
    go_ret
    exact ⟨by simp [hB]; omega, rfl⟩
theorem round19 (w : World) (h : Int) : Calls Tryz.prog 76 #[.int .i64 h] w fun e w' => e = .returned (.bool (rB h)) ∧ w = w' := by
  by_cases h1 : 0 ≤ h
  · go_enter Tryz.func76, Tryz.ntmps76
    go_wp2_with fail
    go_ret
    exact ⟨by simp [rB, h1], rfl⟩
  · have h2 : h < 0 := by omega
    go_enter Tryz.func76, Tryz.ntmps76
    go_wp2_with fail
    go_ret
    exact ⟨by simp [rB]; omega, rfl⟩
theorem round22 (w : World) (h : Int) : Calls Tryz.prog 107 #[.int .i64 h] w fun e w' => e = .returned (.bool (rB h)) ∧ w = w' := by
  by_cases h1 : 0 ≤ h
  · go_enter Tryz.func107, Tryz.ntmps107
    go_wp2_with fail
    go_ret
    exact ⟨by simp [rB, h1], rfl⟩
  · have h2 : h < 0 := by omega
    go_enter Tryz.func107, Tryz.ntmps107
    go_wp2_with fail
    go_ret
    exact ⟨by simp [rB]; omega, rfl⟩
theorem time16 (w : World) (h : Int) : Calls Tryz.prog 73 #[.int .u64 h] w fun e w' => e = .returned (.bool (tB h)) ∧ w = w' := by
  go_enter Tryz.func73, Tryz.ntmps73
  go_wp2_with fail
  go_ret
  exact ⟨rfl, rfl⟩
theorem time23 (w : World) (h : Int) : Calls Tryz.prog 108 #[.int .u64 h] w fun e w' => e = .returned (.bool (tB h)) ∧ w = w' := by
  go_enter Tryz.func108, Tryz.ntmps108
  go_wp2_with fail
  go_ret
  exact ⟨rfl, rfl⟩
/-- What fieldUnless answers. -/
def fieldE (b : Bool) : Int := if b then 0 else 41
theorem unless17 (w : World) (b : Bool) : Calls Tryz.prog 74 #[.bool b] w fun e w' => e = .returned (.int .i64 (fieldE b)) ∧ w = w' := by
  cases b
  · go_enter Tryz.func74, Tryz.ntmps74
    go_wp2_with fail
    go_ret
    exact ⟨rfl, rfl⟩
  · go_enter Tryz.func74, Tryz.ntmps74
    go_wp2_with fail
    go_ret
    exact ⟨rfl, rfl⟩
/-- What PlainVote answers. -/
def plainE (v : Vt) : Int :=
  if v.k = 1 then fieldE (hB v.h && rB v.r && (tB v.t && v.t == 0) && v.f != 0)
  else if v.k = 2 then fieldE (hB v.h && rB v.r && (tB v.t && (!(v.id == zid) || v.t == 0)) && v.f != 0)
  else 40

theorem plainE_1 {v : Vt} (hk : v.k = 1) : plainE v = fieldE (hB v.h && rB v.r && (tB v.t && v.t == 0) && v.f != 0) := by simp only [plainE, hk, if_true]
theorem plainE_2 {v : Vt} (hk : v.k = 2) : plainE v = fieldE (hB v.h && rB v.r && (tB v.t && (!(v.id == zid) || v.t == 0)) && v.f != 0) := by
  unfold plainE
  rw [if_neg (by omega), if_pos hk]
theorem plainE_0 {v : Vt} (h1 : ¬ v.k = 1) (h2 : ¬ v.k = 2) : plainE v = 40 := by
  unfold plainE
  rw [if_neg h1, if_neg h2]
theorem cut3 {p : Prop} (a b : Bool) (h1 : a = false → p) (h2 : a = true → b = false → p) (h3 : a = true → b = true → p) : p := by
  cases a
  · exact h1 rfl
  · cases b
    · exact h2 rfl rfl
    · exact h3 rfl rfl
theorem cut4 {p : Prop} (a b c : Bool) (h1 : a = false → p) (h2 : a = true → b = false → p) (h3 : a = true → b = true → c = false → p) (h4 : a = true → b = true → c = true → p) : p := by
  cases a
  · exact h1 rfl
  · cases b
    · exact h2 rfl rfl
    · cases c
      · exact h3 rfl rfl rfl
      · exact h4 rfl rfl rfl

set_option maxRecDepth 100000 in
set_option maxHeartbeats 4000000 in
theorem plain9_0 (w : World) (v : Vt) (ho : v.ok) (h1 : ¬ v.k = 1) (h2 : ¬ v.k = 2) : Calls Tryz.prog 44 #[.agg v.cs.toArray] w fun e w' => e = .returned (.int .i64 (plainE v)) ∧ Turn no w w' := by
  rw [plainE_0 h1 h2]
  have g1 : (v.k != 1) = true := by simpa using h1
  have g2 : (v.k != 2) = true := by simpa using h2
  obtain ⟨c0, _, _, _, _, _⟩ := (Row.new w v.cs.toArray 50).vt ho
  generalize v.cs.toArray = C at *
  go_enter Tryz.func44, Tryz.ntmps44
  go_wp2_with fail
  go_ret
  exact ⟨rfl, (Turn.refl no w).alloc _⟩
set_option maxRecDepth 100000 in
set_option maxHeartbeats 4000000 in
theorem plain9_1 (w : World) (v : Vt) (ho : v.ok) (h1 : v.k = 1) : Calls Tryz.prog 44 #[.agg v.cs.toArray] w fun e w' => e = .returned (.int .i64 (plainE v)) ∧ Turn no w w' := by
  rw [plainE_1 h1]
  obtain ⟨c0, c1, c2, c35, c36, cid⟩ := (Row.new w v.cs.toArray 50).vt ho
  generalize v.cs.toArray = C at *
  rw [h1] at c0
  clear h1 cid
  generalize v.h = vh at *
  generalize v.r = vr at *
  generalize v.t = vt at *
  generalize v.f = vf at *
  clear ho
  refine cut3 (tB vt) (vt == 0) ?_ ?_ ?_ <;> refine cut3 (hB vh) (rB vr) ?_ ?_ ?_ <;> intros
  all_goals (
    go_enter Tryz.func44, Tryz.ntmps44
    go_wp2_with (first | (go_at_call 73; refine (time16 _ _).mono ?_; rintro e w' ⟨rfl, rfl⟩) | (go_at_call 75; refine (height18 _ _).mono ?_; rintro e w' ⟨rfl, rfl⟩) | (go_at_call 76; refine (round19 _ _).mono ?_; rintro e w' ⟨rfl, rfl⟩) | (go_at_call 74; refine (unless17 _ _).mono ?_; rintro e w' ⟨rfl, rfl⟩))
    go_ret
    exact ⟨by simp [*], (Turn.refl no w).alloc _⟩)
set_option maxRecDepth 100000 in
set_option maxHeartbeats 4000000 in
theorem plain9_2 (w : World) (v : Vt) (ho : v.ok) (h1 : v.k = 2) : Calls Tryz.prog 44 #[.agg v.cs.toArray] w fun e w' => e = .returned (.int .i64 (plainE v)) ∧ Turn no w w' := by
  rw [plainE_2 h1]
  obtain ⟨c0, c1, c2, c35, c36, cid⟩ := (Row.new w v.cs.toArray 50).vt ho
  have hi : (Tryz.prog.info? 26).map (·.size) = some (v.id.map bv).length := by rw [List.length_map, ho.1]; exact qsize24
  have hn := none15 (w.alloc (.cells v.cs.toArray 50)) v.id ho.1
  have K : ∀ w', Turn no (w.alloc (.cells v.cs.toArray 50)) w' → w'.cell? ⟨w.heap.size, 1, none⟩ = some (.int .u64 v.h) ∧ w'.cell? ⟨w.heap.size, 2, none⟩ = some (.int .i64 v.r) ∧ w'.cell? ⟨w.heap.size, 35, none⟩ = some (.int .u64 v.t) ∧ w'.cell? ⟨w.heap.size, 36, none⟩ = some (.int .u64 v.f) ∧ Turn no w w' := fun w' t =>
    ⟨t.keep c1 (fun q => q), t.keep c2 (fun q => q), t.keep c35 (fun q => q), t.keep c36 (fun q => q), ((Turn.refl no w).alloc _).then_no t⟩
  have HK := shutX K
  generalize v.cs.toArray = C at *
  rw [h1] at c0
  clear h1 K c1 c2 c35 c36
  generalize v.id.map bv = D at *
  generalize (v.id == zid) = B at *
  generalize v.h = vh at *
  generalize v.r = vr at *
  generalize v.t = vt at *
  generalize v.f = vf at *
  clear ho
  go_enter Tryz.func44, Tryz.ntmps44
  go_wp2_with (refine wpList_load_midG (by rfl) 26 _ rfl w.heap.size 3 rfl D _ cid Tryz.underlying26 rfl hi ?_)
  refine hn.mono ?_
  rintro e w1 ⟨rfl, t1⟩
  obtain ⟨c1, c2, c35, c36, t2⟩ := HK.out w1 t1
  have HT := shutX t2
  clear hn HK c0 t1 t2 cid hi
  refine cut4 (tB vt) B (vt == 0) ?_ ?_ ?_ ?_ <;> refine cut3 (hB vh) (rB vr) ?_ ?_ ?_ <;> intros
  all_goals (
    go_wp2_with (first | (go_at_call 73; refine (time16 _ _).mono ?_; rintro e w' ⟨rfl, rfl⟩) | (go_at_call 75; refine (height18 _ _).mono ?_; rintro e w' ⟨rfl, rfl⟩) | (go_at_call 76; refine (round19 _ _).mono ?_; rintro e w' ⟨rfl, rfl⟩) | (go_at_call 74; refine (unless17 _ _).mono ?_; rintro e w' ⟨rfl, rfl⟩))
    go_ret
    exact ⟨by simp [*], HT.out⟩)
theorem plain9 (w : World) (v : Vt) (ho : v.ok) : Calls Tryz.prog 44 #[.agg v.cs.toArray] w fun e w' => e = .returned (.int .i64 (plainE v)) ∧ Turn no w w' := by
  by_cases h1 : v.k = 1
  · exact plain9_1 w v ho h1
  · by_cases h2 : v.k = 2
    · exact plain9_2 w v ho h2
    · exact plain9_0 w v ho h1 h2
end Go.Proofs.YtgbcdjjnpadddaaGreatDoor



/- PlainVote of the document. -/
namespace Go.Proofs.YtgbcdjjnpadddaaGreatDoor
open Go.RowKit
set_option linter.unusedVariables false

theorem bne_of {a b : Int} {x : Bool} (h : (a == b) = x) : (a != b) = !x := by simp [bne, h]
set_option maxRecDepth 100000 in
set_option maxHeartbeats 4000000 in
theorem plain12_0 (w : World) (v : Vt) (ho : v.ok) (h1 : ¬ v.k = 1) (h2 : ¬ v.k = 2) : Calls Tryz.prog 81 #[.agg v.cs.toArray] w fun e w' => e = .returned (.int .i64 (plainE v)) ∧ Turn no w w' := by
  rw [plainE_0 h1 h2]
  have g1 : (v.k != 1) = true := by simpa using h1
  have g2 : (v.k != 2) = true := by simpa using h2
  obtain ⟨c0, _, _, _, _, _⟩ := (Row.new w v.cs.toArray 50).vt ho
  generalize v.cs.toArray = C at *
  go_enter Tryz.func81, Tryz.ntmps81
  go_wp2_with fail
  go_ret
  exact ⟨rfl, (Turn.refl no w).alloc _⟩
set_option maxRecDepth 100000 in
set_option maxHeartbeats 4000000 in
theorem plain12_1 (w : World) (v : Vt) (ho : v.ok) (h1 : v.k = 1) : Calls Tryz.prog 81 #[.agg v.cs.toArray] w fun e w' => e = .returned (.int .i64 (plainE v)) ∧ Turn no w w' := by
  rw [plainE_1 h1]
  obtain ⟨c0, c1, c2, c35, c36, cid⟩ := (Row.new w v.cs.toArray 50).vt ho
  generalize v.cs.toArray = C at *
  rw [h1] at c0
  clear h1 cid
  generalize v.h = vh at *
  generalize v.r = vr at *
  generalize v.t = vt at *
  generalize v.f = vf at *
  clear ho
  refine cut4 (hB vh) (rB vr) (tB vt) ?_ ?_ ?_ ?_ <;> intros
  · go_enter Tryz.func81, Tryz.ntmps81
    go_wp2_with (first | (go_at_call 106; refine (height21 _ _).mono ?_; rintro e w' ⟨rfl, rfl⟩) | (go_at_call 107; refine (round22 _ _).mono ?_; rintro e w' ⟨rfl, rfl⟩) | (go_at_call 108; refine (time23 _ _).mono ?_; rintro e w' ⟨rfl, rfl⟩))
    go_ret
    exact ⟨by simp [fieldE, *], (Turn.refl no w).alloc _⟩
  · go_enter Tryz.func81, Tryz.ntmps81
    go_wp2_with (first | (go_at_call 106; refine (height21 _ _).mono ?_; rintro e w' ⟨rfl, rfl⟩) | (go_at_call 107; refine (round22 _ _).mono ?_; rintro e w' ⟨rfl, rfl⟩) | (go_at_call 108; refine (time23 _ _).mono ?_; rintro e w' ⟨rfl, rfl⟩))
    go_ret
    exact ⟨by simp [fieldE, *], (Turn.refl no w).alloc _⟩
  · go_enter Tryz.func81, Tryz.ntmps81
    go_wp2_with (first | (go_at_call 106; refine (height21 _ _).mono ?_; rintro e w' ⟨rfl, rfl⟩) | (go_at_call 107; refine (round22 _ _).mono ?_; rintro e w' ⟨rfl, rfl⟩) | (go_at_call 108; refine (time23 _ _).mono ?_; rintro e w' ⟨rfl, rfl⟩))
    go_ret
    exact ⟨by simp [fieldE, *], (Turn.refl no w).alloc _⟩
  · cases q1 : (vt == 0) <;> cases q2 : (vf == 0)
    all_goals (
      have q3 := bne_of q1
      have q4 := bne_of q2
      go_enter Tryz.func81, Tryz.ntmps81
      go_wp2_with (first | (go_at_call 106; refine (height21 _ _).mono ?_; rintro e w' ⟨rfl, rfl⟩) | (go_at_call 107; refine (round22 _ _).mono ?_; rintro e w' ⟨rfl, rfl⟩) | (go_at_call 108; refine (time23 _ _).mono ?_; rintro e w' ⟨rfl, rfl⟩))
      go_ret
      exact ⟨by simp [fieldE, *], (Turn.refl no w).alloc _⟩)
set_option maxRecDepth 100000 in
set_option maxHeartbeats 4000000 in
theorem plain12_2 (w : World) (v : Vt) (ho : v.ok) (h1 : v.k = 2) : Calls Tryz.prog 81 #[.agg v.cs.toArray] w fun e w' => e = .returned (.int .i64 (plainE v)) ∧ Turn no w w' := by
  rw [plainE_2 h1]
  obtain ⟨c0, c1, c2, c35, c36, cid⟩ := (Row.new w v.cs.toArray 50).vt ho
  have hi : (Tryz.prog.info? 26).map (·.size) = some (v.id.map bv).length := by rw [List.length_map, ho.1]; exact qsize24
  have he := fun W => eqz W v.id ho.1
  generalize v.cs.toArray = C at *
  rw [h1] at c0
  clear h1
  generalize v.id.map bv = D at *
  generalize (v.id == zid) = B at *
  generalize v.h = vh at *
  generalize v.r = vr at *
  generalize v.t = vt at *
  generalize v.f = vf at *
  clear ho
  refine cut4 (hB vh) (rB vr) (tB vt) ?_ ?_ ?_ ?_ <;> intros
  · go_enter Tryz.func81, Tryz.ntmps81
    go_wp2_with (first | (go_at_call 106; refine (height21 _ _).mono ?_; rintro e w' ⟨rfl, rfl⟩) | (go_at_call 107; refine (round22 _ _).mono ?_; rintro e w' ⟨rfl, rfl⟩) | (go_at_call 108; refine (time23 _ _).mono ?_; rintro e w' ⟨rfl, rfl⟩))
    go_ret
    exact ⟨by simp [fieldE, *], (Turn.refl no w).alloc _⟩
  · go_enter Tryz.func81, Tryz.ntmps81
    go_wp2_with (first | (go_at_call 106; refine (height21 _ _).mono ?_; rintro e w' ⟨rfl, rfl⟩) | (go_at_call 107; refine (round22 _ _).mono ?_; rintro e w' ⟨rfl, rfl⟩) | (go_at_call 108; refine (time23 _ _).mono ?_; rintro e w' ⟨rfl, rfl⟩))
    go_ret
    exact ⟨by simp [fieldE, *], (Turn.refl no w).alloc _⟩
  · go_enter Tryz.func81, Tryz.ntmps81
    go_wp2_with (first | (go_at_call 106; refine (height21 _ _).mono ?_; rintro e w' ⟨rfl, rfl⟩) | (go_at_call 107; refine (round22 _ _).mono ?_; rintro e w' ⟨rfl, rfl⟩) | (go_at_call 108; refine (time23 _ _).mono ?_; rintro e w' ⟨rfl, rfl⟩))
    go_ret
    exact ⟨by simp [fieldE, *], (Turn.refl no w).alloc _⟩
  · cases q1 : (vt == 0)
    · cases q2 : (vf == 0) <;> cases q5 : B
      all_goals (
        have q3 := bne_of q1
        have q4 := bne_of q2
        go_enter Tryz.func81, Tryz.ntmps81
        go_wp2_with (first | (go_at_call 106; refine (height21 _ _).mono ?_; rintro e w' ⟨rfl, rfl⟩) | (go_at_call 107; refine (round22 _ _).mono ?_; rintro e w' ⟨rfl, rfl⟩))
        refine (time23 _ _).mono ?_
        rintro e w' ⟨rfl, rfl⟩
        go_wp2_with (refine wpList_load_midG (by rfl) 26 (.tmp 35) rfl w.heap.size 3 rfl D _ cid Tryz.underlying26 rfl hi ?_)
        go_ret
        exact ⟨by simp [fieldE, *], (Turn.refl no w).alloc _⟩)
    · clear cid hi he
      cases q2 : (vf == 0) <;> cases q5 : B
      all_goals (
        have q3 := bne_of q1
        have q4 := bne_of q2
        go_enter Tryz.func81, Tryz.ntmps81
        go_wp2_with (first | (go_at_call 106; refine (height21 _ _).mono ?_; rintro e w' ⟨rfl, rfl⟩) | (go_at_call 107; refine (round22 _ _).mono ?_; rintro e w' ⟨rfl, rfl⟩))
        refine (time23 _ _).mono ?_
        rintro e w' ⟨rfl, rfl⟩
        go_wp2_with fail
        go_ret
        exact ⟨by simp [fieldE, *], (Turn.refl no w).alloc _⟩)
theorem plain12 (w : World) (v : Vt) (ho : v.ok) : Calls Tryz.prog 81 #[.agg v.cs.toArray] w fun e w' => e = .returned (.int .i64 (plainE v)) ∧ Turn no w w' := by
  by_cases h1 : v.k = 1
  · exact plain12_1 w v ho h1
  · by_cases h2 : v.k = 2
    · exact plain12_2 w v ho h2
    · exact plain12_0 w v ho h1 h2
end Go.Proofs.YtgbcdjjnpadddaaGreatDoor


