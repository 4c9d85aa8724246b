/- A vote, a guilt as plain data and as cells; held against themselves. -/
import Derived.Test.YtmfphlagpifkaaaQ1
import Derived.ChangeKeysEq
import Derived.LaidMore
namespace Go.Proofs.Ytmfphlagpifkaaa
open Go.RowKit
set_option linter.unusedVariables false

/-- A vote. -/
structure Vt where
  k : Int
  h : Int
  r : Int
  id : List UInt8
  t : Int
  f : Int
  se : List UInt8

def Vt.ok (v : Vt) : Prop := v.id.length = 32 ∧ v.se.length = 16

/-- A vote's cells. -/
def Vt.cs (v : Vt) : List Value := .int .i64 v.k :: .int .u64 v.h :: .int .i64 v.r :: (v.id.map bv ++ .int .u64 v.t :: .int .u64 v.f :: v.se.map bv)
theorem Vt.len {v : Vt} (h : v.ok) : v.cs.length = 53 := by simp [Vt.cs, h.1, h.2]
theorem Vt.size {v : Vt} (h : v.ok) : v.cs.toArray.size = 53 := by simpa using v.len h
theorem Vt.one (v : Vt) : ∀ u ∈ v.cs, u.oneCell' = true := by
  intro u hu
  simp only [Vt.cs, List.mem_cons, List.mem_append, List.mem_map] at hu
  rcases hu with rfl | rfl | rfl | ⟨b, _, rfl⟩ | rfl | rfl | ⟨b, _, rfl⟩ <;> rfl
theorem Vt.c0 (v : Vt) : v.cs.toArray[(0 : Nat)]? = some (.int .i64 v.k) := by simp [Vt.cs]
theorem Vt.c1 (v : Vt) : v.cs.toArray[(1 : Nat)]? = some (.int .u64 v.h) := by simp [Vt.cs]
theorem Vt.c2 (v : Vt) : v.cs.toArray[(2 : Nat)]? = some (.int .i64 v.r) := by simp [Vt.cs]
theorem Vt.c35 {v : Vt} (h : v.ok) : v.cs.toArray[(35 : Nat)]? = some (.int .u64 v.t) := by
  simp [Vt.cs, h.1]
theorem Vt.c36 {v : Vt} (h : v.ok) : v.cs.toArray[(36 : Nat)]? = some (.int .u64 v.f) := by
  simp [Vt.cs, List.getElem?_append, h.1]
theorem Vt.cid {v : Vt} (h : v.ok) (j : Nat) (u : Value) (hu : (v.id.map bv)[j]? = some u) : v.cs.toArray[3 + j]? = some u := by
  have hj : j < v.id.length := by have := (List.getElem?_eq_some_iff.1 hu).1; simpa using this
  rw [show 3 + j = j + 1 + 1 + 1 by omega]
  simp only [Vt.cs, List.getElem?_toArray, List.getElem?_cons_succ]
  rw [List.getElem?_append_left (by simpa using hj)]
  exact hu
theorem Vt.cse {v : Vt} (h : v.ok) (j : Nat) (u : Value) (hu : (v.se.map bv)[j]? = some u) : v.cs.toArray[37 + j]? = some u := by
  have h1 := h.1
  rw [show 37 + j = (34 + j) + 1 + 1 + 1 by omega]
  simp only [Vt.cs, List.getElem?_toArray, List.getElem?_cons_succ]
  rw [List.getElem?_append_right (by simp; omega)]
  rw [show 34 + j - (v.id.map bv).length = j + 1 + 1 by simp; omega]
  simp only [List.getElem?_cons_succ]
  exact hu
theorem size28 : (Try.prog.info? 28).map (·.size) = some 32 := by kernel_rfl
theorem size41 : (Try.prog.info? 41).map (·.size) = some 53 := by kernel_rfl
theorem size5 : (Try.prog.info? 5).map (·.size) = some 1 := by kernel_rfl

theorem part5 (w : World) (X : List UInt8) (i : Nat) (h : i < X.length) : (part 5 (X.map bv).toArray (i * 1)).run Try.prog w = .ok (bv (X.getD i 0)) w := by
  simp [part, Try.isAgg5, h]
theorem eqItems_u8 (w : World) (d : Nat) (X Y : List UInt8) : ∀ is : List Nat, (∀ i ∈ is, i < X.length ∧ i < Y.length) → (Op.eqItems (d + 1) 5 1 (X.map bv).toArray (Y.map bv).toArray is).run Try.prog w = .ok (is.all fun i => X.getD i 0 == Y.getD i 0) w
  | [], _ => by simp [Op.eqItems]
  | i :: is, h => by
    have h1 := h i (by simp)
    have ih := eqItems_u8 w d X Y is (fun j hj => h j (by simp [hj]))
    have he := run_equalIn_int (P := Try.prog) w d 5 .u8 .u8 ((X.getD i 0).toNat : Int) ((Y.getD i 0).toNat : Int) Try.underlying5
    simp only [Op.eqItems, Sem.run_bind, part5 w X i h1.1, part5 w Y i h1.2, Result.andThen_ok]
    simp only [bv, he, Result.andThen_ok]
    have hb : ((((X.getD i 0).toNat : Nat) : Int) == (((Y.getD i 0).toNat : Nat) : Int)) = (X.getD i 0 == Y.getD i 0) := by
      by_cases hq : X.getD i 0 = Y.getD i 0
      · rw [hq]; simp
      · have : (X.getD i 0).toNat ≠ (Y.getD i 0).toNat := fun q => hq (UInt8.toNat_inj.1 q)
        rw [beq_false_of_ne hq, beq_false_of_ne (by omega)]
    rw [hb]
    rw [List.all_cons]
    cases hq : (X.getD i 0 == Y.getD i 0) with
    | false => rfl
    | true => simpa using ih
theorem all_range (X Y : List UInt8) (n : Nat) (hx : X.length = n) (hy : Y.length = n) : ((List.range n).all fun i => X.getD i 0 == Y.getD i 0) = (X == Y) := by
  by_cases h : X = Y
  · subst h; simp
  · rw [beq_false_of_ne h]
    rw [Bool.eq_false_iff]
    intro q
    apply h
    apply List.ext_getElem (by omega)
    intro i h1 h2
    have := List.all_eq_true.1 q i (by simp; omega)
    simp [h1, h2] at this
    exact this
theorem cells5 : Try.prog.cellsOf 5 = 1 := by kernel_rfl
theorem eqIn28 (w : World) (d : Nat) (X Y : List UInt8) (hx : X.length = 32) (hy : Y.length = 32) : (Op.equalIn (d + 2) 28 (.agg (X.map bv).toArray) (.agg (Y.map bv).toArray)).run Try.prog w = .ok (X == Y) w := by
  obtain ⟨i, hi⟩ : ∃ i, Try.prog.info? 5 = some i := by
    cases hq : Try.prog.info? 5 with
    | none => have := size5; simp [hq] at this
    | some i => exact ⟨i, rfl⟩
  rw [run_equalIn_array w (d + 1) _ _ Try.underlying28 hi, cells5, eqItems_u8 w d X Y _ (fun j hj => by simp at hj; omega), all_range X Y 32 hx hy]
theorem eqIn39 (w : World) (d : Nat) (X Y : List UInt8) (hx : X.length = 16) (hy : Y.length = 16) : (Op.equalIn (d + 2) 39 (.agg (X.map bv).toArray) (.agg (Y.map bv).toArray)).run Try.prog w = .ok (X == Y) w := by
  obtain ⟨i, hi⟩ : ∃ i, Try.prog.info? 5 = some i := by
    cases hq : Try.prog.info? 5 with
    | none => have := size5; simp [hq] at this
    | some i => exact ⟨i, rfl⟩
  rw [run_equalIn_array w (d + 1) _ _ Try.underlying39 hi, cells5, eqItems_u8 w d X Y _ (fun j hj => by simp at hj; omega), all_range X Y 16 hx hy]
theorem eql28 (w : World) (X Y : List UInt8) (hx : X.length = 32) (hy : Y.length = 32) : (binOp .eql 28 (.agg (X.map bv).toArray) (.agg (Y.map bv).toArray)).run Try.prog w = .ok (.bool (X == Y)) w := by
  rw [run_eql_struct, eqIn28 w 9998 X Y hx hy]
  rfl
theorem neq28 (w : World) (X Y : List UInt8) (hx : X.length = 32) (hy : Y.length = 32) : (binOp .neq 28 (.agg (X.map bv).toArray) (.agg (Y.map bv).toArray)).run Try.prog w = .ok (.bool (!(X == Y))) w := by
  rw [run_neq_struct, eqIn28 w 9998 X Y hx hy]
  rfl
theorem eqFields_self (w : World) (d : Nat) (xs : Array Value) : ∀ fs : List Field, (∀ f ∈ fs, ∃ v, (part f.type xs f.offset).run Try.prog w = .ok v w ∧ (Op.equalIn d f.type v v).run Try.prog w = .ok true w) → (Op.eqFields d xs xs fs).run Try.prog w = .ok true w
  | [], _ => by simp [Op.eqFields]
  | f :: fs, h => by
    obtain ⟨v, h1, h2⟩ := h f (by simp)
    have ih := eqFields_self w d xs fs (fun g hg => h g (by simp [hg]))
    simp only [Op.eqFields, Sem.run_bind, Sem.run_ite]
    split
    · simp only [h1, h2, Result.andThen_ok, Bool.not_true, Bool.false_eq_true, if_false]
      exact ih
    · exact ih
theorem fields41 : (Try.prog.fieldsOf 41).toList.map (fun f => (f.type, f.offset)) = [(3, 0), (26, 1), (3, 2), (28, 3), (26, 35), (37, 36), (39, 37)] := by kernel_rfl
theorem Vt.x28 {v : Vt} (h : v.ok) : v.cs.toArray.extract 3 35 = (v.id.map bv).toArray := by
  apply Array.ext'
  simp only [Array.toList_extract, Vt.cs, List.extract_eq_take_drop]
  simp [h.1]
theorem Vt.x39 {v : Vt} (h : v.ok) : v.cs.toArray.extract 37 53 = (v.se.map bv).toArray := by
  apply Array.ext'
  simp only [Array.toList_extract, Vt.cs, List.extract_eq_take_drop]
  simp [List.drop_append, h.1]
  rw [List.drop_eq_nil_of_le (by simp [h.1]), List.nil_append]
  exact List.take_of_length_le (by simp [h.2])
theorem cell_part {t : TypeId} (w : World) {xs : Array Value} {o : Nat} {v : Value} (ha : (isAgg t).run Try.prog w = .ok false w) (h : xs[o]? = some v) : (part t xs o).run Try.prog w = .ok v w := by
  simp [part, ha, h]
theorem agg_part {t : TypeId} (w : World) {xs ys : Array Value} {o n : Nat} (ha : (isAgg t).run Try.prog w = .ok true w) (hs : (Try.prog.info? t).map (·.size) = some n) (h : xs.extract o (o + n) = ys) : (part t xs o).run Try.prog w = .ok (.agg ys) w := by
  cases hq : Try.prog.info? t with
  | none => simp [hq] at hs
  | some i =>
    have hi : i.size = n := by simpa [hq] using hs
    simp [part, ha, sizeOf, typeInfo, hq, hi, h]
theorem size39 : (Try.prog.info? 39).map (·.size) = some 16 := by kernel_rfl
theorem eq41 (w : World) (d : Nat) (v : Vt) (h : v.ok) : (Op.equalIn (d + 3) 41 (.agg v.cs.toArray) (.agg v.cs.toArray)).run Try.prog w = .ok true w := by
  rw [run_equalIn_struct w (d + 2) 41 _ _ (by kernel_rfl) (by kernel_rfl)]
  refine eqFields_self w (d + 2) _ _ (fun f hf => ?_)
  have hm : (f.type, f.offset) ∈ [(3, 0), (26, 1), (3, 2), (28, 3), (26, 35), (37, 36), (39, 37)] := by
    rw [← fields41]
    exact List.mem_map.2 ⟨f, hf, rfl⟩
  generalize f.type = t at *
  generalize f.offset = o at *
  simp only [List.mem_cons, Prod.mk.injEq, List.not_mem_nil, or_false] at hm
  rcases hm with ⟨rfl, rfl⟩ | ⟨rfl, rfl⟩ | ⟨rfl, rfl⟩ | ⟨rfl, rfl⟩ | ⟨rfl, rfl⟩ | ⟨rfl, rfl⟩ | ⟨rfl, rfl⟩
  · exact ⟨_, cell_part w (by kernel_rfl) v.c0, by rw [run_equalIn_int w (d + 1) 3 .i64 .i64 _ _ Try.underlying3]; simp⟩
  · exact ⟨_, cell_part w (by kernel_rfl) v.c1, by rw [run_equalIn_int w (d + 1) 26 .u64 .u64 _ _ Try.underlying26]; simp⟩
  · exact ⟨_, cell_part w (by kernel_rfl) v.c2, by rw [run_equalIn_int w (d + 1) 3 .i64 .i64 _ _ Try.underlying3]; simp⟩
  · exact ⟨_, agg_part w (by kernel_rfl) size28 (Vt.x28 h), by rw [eqIn28 w d _ _ h.1 h.1]; simp⟩
  · exact ⟨_, cell_part w (by kernel_rfl) (Vt.c35 h), by rw [run_equalIn_int w (d + 1) 26 .u64 .u64 _ _ Try.underlying26]; simp⟩
  · exact ⟨_, cell_part w (by kernel_rfl) (Vt.c36 h), by rw [run_equalIn_int w (d + 1) 37 .u64 .u64 _ _ Try.underlying37]; simp⟩
  · exact ⟨_, agg_part w (by kernel_rfl) size39 (Vt.x39 h), by rw [eqIn39 w d _ _ h.2 h.2]; simp⟩

/-- A guilt. -/
structure Gu where
  ad : Nat
  kd : Int
  a : Vt
  b : Vt
def Gu.ok (g : Gu) : Prop := g.a.ok ∧ g.b.ok
def Gu.cs (g : Gu) : List Value := .int .u64 g.ad :: .int .i64 g.kd :: (g.a.cs ++ g.b.cs)
theorem Gu.len {g : Gu} (h : g.ok) : g.cs.length = 108 := by simp [Gu.cs, Vt.len h.1, Vt.len h.2]
theorem Gu.size {g : Gu} (h : g.ok) : g.cs.toArray.size = 108 := by simpa using Gu.len h
theorem Gu.one (g : Gu) : ∀ u ∈ g.cs, u.oneCell' = true := by
  intro u hu
  simp only [Gu.cs, List.mem_cons, List.mem_append] at hu
  rcases hu with rfl | rfl | hu | hu
  · rfl
  · rfl
  · exact Vt.one _ u hu
  · exact Vt.one _ u hu
theorem Gu.xa {g : Gu} (h : g.ok) : g.cs.toArray.extract 2 55 = g.a.cs.toArray := by
  apply Array.ext'
  simp [Gu.cs, Vt.len h.1]
theorem Gu.xb {g : Gu} (h : g.ok) : g.cs.toArray.extract 55 108 = g.b.cs.toArray := by
  apply Array.ext'
  simp only [Array.toList_extract, Gu.cs, List.extract_eq_take_drop]
  simp [Vt.len h.1]
  exact List.take_of_length_le (by rw [Vt.len h.2]; omega)
theorem fields43 : (Try.prog.fieldsOf 43).toList.map (fun f => (f.type, f.offset)) = [(37, 0), (3, 1), (41, 2), (41, 55)] := by kernel_rfl
theorem eq43 (w : World) (d : Nat) (g : Gu) (h : g.ok) : (Op.equalIn (d + 4) 43 (.agg g.cs.toArray) (.agg g.cs.toArray)).run Try.prog w = .ok true w := by
  rw [run_equalIn_struct w (d + 3) 43 _ _ (by kernel_rfl) (by kernel_rfl)]
  refine eqFields_self w (d + 3) _ _ (fun f hf => ?_)
  have hm : (f.type, f.offset) ∈ [(37, 0), (3, 1), (41, 2), (41, 55)] := by
    rw [← fields43]
    exact List.mem_map.2 ⟨f, hf, rfl⟩
  generalize f.type = t at *
  generalize f.offset = o at *
  simp only [List.mem_cons, Prod.mk.injEq, List.not_mem_nil, or_false] at hm
  rcases hm with ⟨rfl, rfl⟩ | ⟨rfl, rfl⟩ | ⟨rfl, rfl⟩ | ⟨rfl, rfl⟩
  · exact ⟨_, cell_part w (v := .int .u64 g.ad) (by kernel_rfl) (by simp [Gu.cs]), by rw [run_equalIn_int w (d + 2) 37 .u64 .u64 _ _ Try.underlying37]; simp⟩
  · exact ⟨_, cell_part w (v := .int .i64 g.kd) (by kernel_rfl) (by simp [Gu.cs]), by rw [run_equalIn_int w (d + 2) 3 .i64 .i64 _ _ Try.underlying3]; simp⟩
  · exact ⟨_, agg_part w (by kernel_rfl) size41 (Gu.xa h), eq41 w d _ h.1⟩
  · exact ⟨_, agg_part w (by kernel_rfl) size41 (Gu.xb h), eq41 w d _ h.2⟩
theorem neq43 (w : World) (g : Gu) (h : g.ok) : (binOp .neq 43 (.agg g.cs.toArray) (.agg g.cs.toArray)).run Try.prog w = .ok (.bool false) w := by
  rw [run_neq_struct, eq43 w 9996 g h]
  rfl
theorem eql43 (w : World) (g : Gu) (h : g.ok) : (binOp .eql 43 (.agg g.cs.toArray) (.agg g.cs.toArray)).run Try.prog w = .ok (.bool true) w := by
  rw [run_eql_struct, eq43 w 9996 g h]
  rfl
def z32 : List UInt8 := List.replicate 32 0
def z16 : List UInt8 := List.replicate 16 0
def vt0 : Vt := ⟨0, 0, 0, z32, 0, 0, z16⟩
def vt71 : Vt := ⟨0, 0, -71, z32, 0, 0, z16⟩
def gu71 : Gu := ⟨0, -71, vt0, vt0⟩
theorem vt0_ok : vt0.ok := ⟨rfl, rfl⟩
theorem vt71_ok : vt71.ok := ⟨rfl, rfl⟩
theorem gu71_ok : gu71.ok := ⟨vt0_ok, vt0_ok⟩
theorem info43 : (Try.prog.info? 43).map (fun i => (i.zero, i.size, i.bytes)) = some (some (.agg (Gu.cs ⟨0, 0, vt0, vt0⟩).toArray), 108, 192) := by kernel_rfl
theorem info41 : (Try.prog.info? 41).map (fun i => (i.zero, i.size, i.bytes)) = some (some (.agg vt0.cs.toArray), 53, 88) := by kernel_rfl
theorem built43 : Try.prog.built 43 [(1, .int .i64 (-71))] = some gu71.cs.toArray := by kernel_rfl
theorem built41 : Try.prog.built 41 [(2, .int .i64 (-71))] = some vt71.cs.toArray := by kernel_rfl
/-- A list of guilts, wherever it lies. -/
structure GsAt (w : World) (a : Option Addr) (cap : Nat) (l : List Gu) : Prop where
  le : l.length ≤ cap
  cap : cap ≤ maxLen
  ok : ∀ m ∈ l, m.ok
  cells : ∀ (j : Nat) m, l[j]? = some m → ∃ b off, a = some ⟨b, off, none⟩ ∧ w.rangeAt b (off + j * 108) m.cs
def Gs (w : World) (v : Value) (l : List Gu) : Prop := ∃ a cap, v = .slice a l.length cap ∧ GsAt w a cap l
theorem GsAt.turn {S : Nat → Prop} {w w' : World} {a : Option Addr} {cap : Nat} {l : List Gu} (h : GsAt w a cap l) (t : Turn S w w') (hn : ∀ x, a = some x → ¬ S x.block) : GsAt w' a cap l :=
  ⟨h.le, h.cap, h.ok, fun j m hj => by
    obtain ⟨b, off, e, c⟩ := h.cells j m hj
    exact ⟨b, off, e, fun i v hi => t.keep (c i v hi) (by have := hn _ e; exact this)⟩⟩
theorem GsAt.turn_no {w w' : World} {a : Option Addr} {cap : Nat} {l : List Gu} (h : GsAt w a cap l) (t : Turn no w w') : GsAt w' a cap l := h.turn t (fun _ _ q => q)
theorem Gs.turn_no {w w' : World} {v : Value} {l : List Gu} (h : Gs w v l) (t : Turn no w w') : Gs w' v l := by
  obtain ⟨a, cap, e, h⟩ := h
  exact ⟨a, cap, e, h.turn_no t⟩
def guF (l : List Gu) : List Value := l.flatMap Gu.cs
theorem guF_len : ∀ (l : List Gu), (∀ m ∈ l, m.ok) → (guF l).length = l.length * 108
  | [], _ => rfl
  | m :: r, h => by
    rw [guF, List.flatMap_cons, List.length_append, Gu.len (h m (by simp)), ← guF, guF_len r (fun x hx => h x (by simp [hx])), List.length_cons]
    omega
theorem guF_append (a b : List Gu) : guF (a ++ b) = guF a ++ guF b := by simp [guF]
theorem guF_at : ∀ (l : List Gu), (∀ m ∈ l, m.ok) → ∀ (j : Nat) (m : Gu), l[j]? = some m → ∀ i, i < 108 → (guF l)[j * 108 + i]? = m.cs[i]?
  | x :: r, hk, 0, m, h, i, hi => by
    simp at h
    subst h
    rw [guF, List.flatMap_cons, Nat.zero_mul, Nat.zero_add, List.getElem?_append_left (by rw [Gu.len (hk _ (by simp))]; exact hi)]
  | x :: r, hk, j + 1, m, h, i, hi => by
    have hx := Gu.len (hk x (by simp))
    rw [guF, List.flatMap_cons, List.getElem?_append_right (by omega)]
    have := guF_at r (fun x hx => hk x (by simp [hx])) j m (by simpa using h) i hi
    rw [guF] at this
    rw [← this, hx]
    congr 1
    omega
theorem guF_one (l : List Gu) : ∀ u ∈ guF l, u.oneCell' = true := by
  intro u hu
  obtain ⟨m, _, hu⟩ := List.mem_flatMap.1 hu
  exact Gu.one m u hu
theorem GsAt.src {w : World} {a : Option Addr} {cap : Nat} {l : List Gu} (h : GsAt w a cap l) : Src Try.prog 108 25 (.slice a l.length cap) l.length (guF l) w := by
  cases a with
  | none =>
    have : l = [] := by
      cases l with
      | nil => rfl
      | cons m r =>
        obtain ⟨b, off, e, _⟩ := h.cells 0 m rfl
        cases e
    subst this
    exact Src.ofNil w Try.underlying25 cap
  | some a =>
    refine Src.ofSlice w Try.underlying25 a l.length cap (guF l) (guF_len l h.ok) (fun j u hu => ?_) (guF_one l)
    have hj : j < l.length * 108 := by rw [← guF_len l h.ok]; exact (List.getElem?_eq_some_iff.1 hu).1
    have hm : l[j / 108]? = some (l[j / 108]'(by omega)) := List.getElem?_eq_getElem (by omega)
    obtain ⟨b, off, e, c⟩ := h.cells _ _ hm
    cases e
    have hx := guF_at l h.ok (j / 108) _ hm (j % 108) (by omega)
    have ej : j / 108 * 108 + j % 108 = j := by omega
    rw [ej, hu] at hx
    rw [Addr.add_lit]
    have := c (j % 108) u hx.symm
    rwa [show off + j / 108 * 108 + j % 108 = off + j by omega] at this
theorem OwnN.gsAt {w : World} {v : Value} {n : Nat} {l : List Gu} (h : OwnN w 43 108 v n (guF l)) (hn : n = l.length) (h0 : 0 < n) (hok : ∀ m ∈ l, m.ok) : ∃ g cap, v = .slice (some ⟨g, 0, none⟩) n cap ∧ GsAt w (some ⟨g, 0, none⟩) cap l := by
  obtain ⟨a, cap, rfl, ha, h1, h2, h3⟩ := h.form
  rcases h.2 with ⟨_, q⟩ | ⟨g, cap', cur, e, _⟩
  · omega
  · cases e
    refine ⟨g, cap, rfl, by omega, h3, hok, fun j m hj => ⟨g, 0, rfl, fun i v hi => ?_⟩⟩
    have hi18 : i < 108 := by have := (List.getElem?_eq_some_iff.1 hi).1; rwa [Gu.len (hok m (List.mem_of_getElem? hj))] at this
    have := World.ownsRow.cells h (g := g) rfl (j * 108 + i) v (by rw [guF_at l hok j m hj i hi18]; exact hi)
    simpa [Addr.add_lit] using this
/-- The first ones of a list. -/
theorem GsAt.front {w : World} {a : Option Addr} {cap : Nat} {l r : List Gu} (h : GsAt w a cap (l ++ r)) : GsAt w a cap l :=
  ⟨by have := h.le; simp at this; omega, h.cap, fun m hm => h.ok m (by simp [hm]), fun j m hj => h.cells j m (by rw [List.getElem?_append_left (List.getElem?_eq_some_iff.1 hj).1]; exact hj)⟩
end Go.Proofs.Ytmfphlagpifkaaa
