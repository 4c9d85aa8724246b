/- A disk in memory: its block, its two maps, the bytes of its files. -/
import Derived.Test.YtcdogciacchigabP0
import Derived.Test.YtcdogciacchigabBaseN
import Derived.Test.YtcdogciacchigabRows
import Derived.Maps.OwnSet
import Derived.Sort.KeysCollected
namespace Go.Proofs.Ytcdogciacchigab
open Go.RowKit Go.Maps
set_option linter.unusedVariables false

/-- A block of cells. -/
def Row (w : World) (g : Nat) (cs : Array Value) (e : TypeId) : Prop := w.heap[g]? = some (.cells cs e (0, 0))
section
variable {w : World} {g : Nat} {cs : Array Value} {e : TypeId}
theorem Row.cell (h : Row w g cs e) (j : Nat) (u : Value) (hu : cs[j]? = some u) : w.cell? ⟨g, j, none⟩ = some u := by
  rw [cell_of_row w g j cs e (0, 0) h]; exact hu
theorem Row.frozen (h : Row w g cs e) (j : Nat) : w.frozen? ⟨g, j, none⟩ = false := frozen_of_row w g j _ e h
theorem Row.lt (h : Row w g cs e) : g < w.heap.size := lt_of_obj h
theorem Row.set (h : Row w g cs e) (j : Nat) (u : Value) : Row (w.setCell ⟨g, j, none⟩ u) g (cs.setIfInBounds j u) e := heap_setCell_same w g j cs e u h
theorem Row.other (h : Row w g cs e) {p : Addr} (hp : p.block ≠ g) (u : Value) : Row (w.setCell p u) g cs e := by
  unfold Row at *
  rw [Below.heap_setCell w p u g (fun q => hp q.symm)]
  exact h
theorem Row.drew (h : Row w g cs e) : Row w.drew g cs e := h
theorem Row.drewN (h : Row w g cs e) (n : Nat) : Row (w.drewN n) g cs e := h
theorem Row.alloc (h : Row w g cs e) (o : Obj) : Row (w.alloc o) g cs e := by
  unfold Row at *
  rw [Below.heap_alloc w o g (lt_of_obj h)]
  exact h
theorem Row.turn {S : Nat → Prop} {w' : World} (h : Row w g cs e) (t : Turn S w w') (hn : ¬ S g) : Row w' g cs e := t.obj h hn
theorem Row.new (w : World) (cs : Array Value) (e : TypeId) : Row (w.alloc (.cells cs e)) w.heap.size cs e := heap_alloc_new w _
theorem Row.newAt (w : World) (cs : Array Value) (e : TypeId) (g : Nat) (h : g = w.heap.size) : Row (w.alloc (.cells cs e)) g cs e := by subst h; exact Row.new w cs e
end

def ptr (p : Nat) : Value := .pointer (some ⟨p, 0, none⟩)
def strV (s : List UInt8) : Value := .string ⟨s.toArray⟩
theorem strSize (s : List UInt8) : (ByteArray.mk s.toArray).size = s.length := by simp [ByteArray.size]

theorem law9 : Keyed Try.prog 9 := string_keyed Try.underlying9
theorem law3 : Keyed Try.prog 3 := int_keyed Try.underlying3
def sKey (s : Nm) : Lit := .string s
theorem sKey_of (s : Nm) (hs : s.length ≤ maxLen) : keyOf Try.prog 9 (strV s) = some (sKey s) := by
  simp [keyOf, Try.underlying9, mapKey, strV, sKey, strSize, hs]
theorem sKey_inj {a b : Nm} (h : sKey a = sKey b) : a = b := by simpa [sKey] using h
def iKey (k : Int) : Lit := .int .i64 k
theorem i64_wf {a : Int} (h0 : -9223372036854775808 ≤ a) (h1 : a ≤ 9223372036854775807) : (Lit.int .i64 a).wf = true := by
  simp only [Lit.wf, Bool.and_eq_true, decide_eq_true_eq]
  constructor
  · rw [show IntKind.i64.min = -9223372036854775808 by decide]; omega
  · rw [show IntKind.i64.max = 9223372036854775807 by decide]; omega
theorem iKey_of (k : Int) (h0 : -9223372036854775808 ≤ k) (h1 : k ≤ 9223372036854775807) : keyOf Try.prog 3 (.int .i64 k) = some (iKey k) := keyOf_int_mk Try.underlying3 (i64_wf h0 h1)
theorem iKey_inj {a b : Int} (h : iKey a = iKey b) : a = b := by simpa [iKey] using h

/-- An element that is held as it is. -/
def heldElem (v : Value) : Option (DataW Value × List MemPlace) := some (.held v, [])
def fileV (v : Value) (sy : Nat) : Value := .agg #[v, .int .i64 sy]
def zfile : Value := .agg #[.slice none 0 0, .int .i64 0]
def trV (t : Tr) : Value := .agg #[.int .i64 t.when, .int .i64 t.kind, .bool t.done]
def ztr : Value := .agg #[.int .i64 0, .int .i64 0, .bool false]
theorem zero86 (w : World) : (zeroValue 97).run Try.prog w = .ok zfile w := by kernel_rfl
theorem zero29 (w : World) : (zeroValue 30).run Try.prog w = .ok ztr w := by kernel_rfl

/-- The map of the files. -/
structure Fm (D : DataW Value) (V : Nm → Value) (l : List Pf) : Prop where
  tidy : Tidy D
  keys : ∃ es, D = .map es ∧ ∀ p ∈ es, ∃ x, p.1 = Lit.string x
  size : size D = l.length
  has : ∀ s, has D (sKey s) = (getF s l).isSome
  at_ : ∀ s f, getF s l = some f → D.atKey (sKey s) (.held zfile) = .held (fileV (V s) f.sy)
/-- The map of the troubles. -/
structure Tm (D : DataW Value) (l : List (Int × Tr)) (m : Nat) : Prop where
  tidy : Tidy D
  size : size D ≤ m
  has : ∀ k, has D (iKey k) = (armAt k l).isSome
  at_ : ∀ k t, armAt k l = some t → D.atKey (iKey k) (.held ztr) = .held (trV t)

theorem Fm.new (V : Nm → Value) : Fm (.map []) V [] := ⟨tidy_empty, ⟨[], rfl, fun p h => by cases h⟩, rfl, fun s => rfl, fun s f h => by simp [getF] at h⟩
theorem Tm.new : Tm (.map []) [] 0 := ⟨tidy_empty, Nat.le_refl _, fun s => rfl, fun s f h => by simp [armAt] at h⟩
theorem Fm.miss {D : DataW Value} {V : Nm → Value} {l : List Pf} (h : Fm D V l) {s : Nm} (hs : getF s l = none) : D.atKey (sKey s) (.held zfile) = .held zfile :=
  atKey_of_not_has (by rw [h.has, hs]; rfl) _
theorem Tm.miss {D : DataW Value} {l : List (Int × Tr)} {m : Nat} (h : Tm D l m) {k : Int} (hs : armAt k l = none) : D.atKey (iKey k) (.held ztr) = .held ztr :=
  atKey_of_not_has (by rw [h.has, hs]; rfl) _

def setV (V : Nm → Value) (s : Nm) (v : Value) : Nm → Value := fun t => if t = s then v else V t
theorem mem_insert' {x : Lit × DataW Value} {l : List (Lit × DataW Value)} {p : Lit × DataW Value} (h : p ∈ DataW.insert x l) : p = x ∨ p ∈ l := by
  simpa using (WideShapes.insert_perm x l).mem_iff.1 h
theorem Fm.put {D : DataW Value} {V : Nm → Value} {l : List Pf} (h : Fm D V l) (hs : Sorted l) (f : Pf) (v : Value) (hlen : f.nm.length ≤ maxLen) : Fm (D.put (sKey f.nm) (.held (fileV v f.sy))) (setV V f.nm v) (putF f l) := by
  have hk := law9.key (sKey_of f.nm hlen)
  refine ⟨h.tidy.put hk _, ?_, ?_, fun s => ?_, fun s g hg => ?_⟩
  · obtain ⟨es, rfl, he⟩ := h.keys
    refine ⟨_, rfl, fun p hp => ?_⟩
    rcases mem_insert' hp with rfl | q
    · exact ⟨f.nm, rfl⟩
    · exact he p ((List.mem_filter.1 q).1)
  · rw [size_put h.tidy, length_putF f l hs, h.has, h.size]
  · by_cases hb : s = f.nm
    · subst hb
      rw [has_put_same h.tidy.isMap hk, getF_put_same f l hs]; rfl
    · rw [has_put_other (fun e => hb (sKey_inj e)), h.has, getF_put_other hb]
  · by_cases hb : s = f.nm
    · subst hb
      rw [getF_put_same f l hs] at hg
      cases hg
      rw [atKey_put_same h.tidy.isMap hk]
      simp [setV]
    · rw [getF_put_other hb] at hg
      rw [atKey_put_other (fun e => hb (sKey_inj e)), h.at_ s g hg]
      simp [setV, hb]
theorem Fm.drop {D : DataW Value} {V : Nm → Value} {l : List Pf} (h : Fm D V l) (s : Nm) (hs : getF s l ≠ none) (hso : Sorted l) : Fm (D.del (sKey s)) V (dropF s l) := by
  refine ⟨h.tidy.del _, ?_, ?_, fun t => ?_, fun t g hg => ?_⟩
  · obtain ⟨es, rfl, he⟩ := h.keys
    exact ⟨_, rfl, fun p hp => he p ((List.mem_filter.1 hp).1)⟩
  · have := size_del (k := sKey s) h.tidy
    have e : Maps.has D (sKey s) = true := by
      rw [h.has]
      cases hq : getF s l with
      | none => exact (hs hq).elim
      | some _ => rfl
    rw [e, h.size] at this
    have h2 : (dropF s l).length + 1 = l.length := by
      clear this e h
      induction l with
      | nil => simp [getF] at hs
      | cons g r ih =>
        obtain ⟨h1, h2⟩ := List.pairwise_cons.1 hso
        by_cases hg : g.nm = s
        · have e : dropF s (g :: r) = r := by
            unfold dropF
            rw [List.filter_cons_of_neg (by simp [hg]), List.filter_eq_self]
            intro x hx
            have := nm_ne (h1 x hx)
            rw [hg] at this
            simpa using this.symm
          rw [e]; rfl
        · have e : dropF s (g :: r) = g :: dropF s r := by
            unfold dropF
            rw [List.filter_cons_of_pos (by simp [hg])]
          have e3 : getF s (g :: r) = getF s r := by
            unfold getF
            rw [List.find?_cons_of_neg (by simpa using hg)]
          rw [e3] at hs
          have := ih hs h2
          rw [e]
          simp
          omega
    simp at this
    omega
  · by_cases hb : t = s
    · subst hb
      rw [has_del_same, getF_drop_same]; rfl
    · rw [has_del_other (fun e => hb (sKey_inj e)), h.has, getF_drop_other hb]
  · by_cases hb : t = s
    · subst hb
      rw [getF_drop_same] at hg; cases hg
    · rw [getF_drop_other hb] at hg
      rw [atKey_del_other (fun e => hb (sKey_inj e)), h.at_ t g hg]
theorem armAt_filter_same (k : Int) (l : List (Int × Tr)) : armAt k (l.filter (fun a => decide (a.1 ≠ k))) = none := by
  unfold armAt
  rw [Option.map_eq_none_iff, List.find?_eq_none]
  intro x hx
  simpa using (List.mem_filter.1 hx).2
theorem armAt_filter_other {k j : Int} (l : List (Int × Tr)) (h : j ≠ k) : armAt j (l.filter (fun a => decide (a.1 ≠ k))) = armAt j l := by
  unfold armAt
  congr 1
  induction l with
  | nil => rfl
  | cons g r ih =>
    by_cases hg : g.1 = k
    · rw [List.filter_cons_of_neg (by simp [hg]), List.find?_cons_of_neg (by simp [hg, Ne.symm h]), ih]
    · rw [List.filter_cons_of_pos (by simp [hg])]
      by_cases hk : g.1 = j
      · simp [hk]
      · rw [List.find?_cons_of_neg (by simpa using hk), List.find?_cons_of_neg (by simpa using hk), ih]
theorem Tm.drop {D : DataW Value} {l : List (Int × Tr)} {m : Nat} (h : Tm D l m) (k : Int) : Tm (D.del (iKey k)) (l.filter (fun a => decide (a.1 ≠ k))) m := by
  refine ⟨h.tidy.del _, ?_, fun j => ?_, fun j t hj => ?_⟩
  · have := size_del (k := iKey k) h.tidy
    have := h.size
    omega
  · by_cases hb : j = k
    · subst hb
      rw [has_del_same, armAt_filter_same]; rfl
    · rw [has_del_other (fun e => hb (iKey_inj e)), h.has, armAt_filter_other _ hb]
  · by_cases hb : j = k
    · subst hb
      rw [armAt_filter_same] at hj; cases hj
    · rw [armAt_filter_other _ hb] at hj
      rw [atKey_del_other (fun e => hb (iKey_inj e)), h.at_ j t hj]
theorem armAt_append (k j : Int) (t : Tr) (l : List (Int × Tr)) : armAt j (l ++ [(k, t)]) = match armAt j l with | some x => some x | none => if j = k then some t else none := by
  unfold armAt
  rw [List.find?_append]
  cases h : l.find? (fun a => decide (a.1 = j)) with
  | some x => simp
  | none =>
    by_cases hb : j = k
    · subst hb; simp
    · simp [hb, Ne.symm hb]
theorem Tm.same {D : DataW Value} {l : List (Int × Tr)} {m : Nat} (h : Tm D l m) (k : Int) (t : Tr) (ha : armAt k l ≠ none) : Tm D (l ++ [(k, t)]) (m + 1) := by
  have e : ∀ j, armAt j (l ++ [(k, t)]) = armAt j l := fun j => by
    rw [armAt_append]
    cases hj : armAt j l with
    | some x => rfl
    | none =>
      by_cases hb : j = k
      · subst hb; exact (ha hj).elim
      · simp [hb]
  exact ⟨h.tidy, Nat.le_succ_of_le h.size, fun j => by rw [e, h.has], fun j t hj => h.at_ j t (by rw [← e]; exact hj)⟩
theorem Tm.put {D : DataW Value} {l : List (Int × Tr)} {m : Nat} (h : Tm D l m) (k : Int) (t : Tr) (ha : armAt k l = none) (h0 : -9223372036854775808 ≤ k) (h1 : k ≤ 9223372036854775807) : Tm (D.put (iKey k) (.held (trV t))) (l ++ [(k, t)]) (m + 1) := by
  have hk := law3.key (iKey_of k h0 h1)
  have e : ∀ j, j ≠ k → armAt j (l ++ [(k, t)]) = armAt j l := fun j hj => by
    rw [armAt_append]
    cases armAt j l <;> simp [hj]
  have e1 : armAt k (l ++ [(k, t)]) = some t := by rw [armAt_append, ha]; simp
  refine ⟨h.tidy.put hk _, ?_, fun j => ?_, fun j t' hj => ?_⟩
  · have := h.size
    rw [size_put h.tidy]
    split <;> omega
  · by_cases hb : j = k
    · subst hb
      rw [has_put_same h.tidy.isMap hk, e1]; rfl
    · rw [has_put_other (fun q => hb (iKey_inj q)), h.has, e j hb]
  · by_cases hb : j = k
    · subst hb
      rw [e1] at hj
      cases hj
      exact atKey_put_same h.tidy.isMap hk _ _
    · rw [e j hb] at hj
      rw [atKey_put_other (fun q => hb (iKey_inj q)), h.at_ j t' hj]

theorem ownsMap_turn {S : Nat → Prop} {w w' : World} {k : TypeId} {R : Value → Option (DataW Value × List MemPlace)} {b n : Nat} {D : DataW Value} (h : w.ownsMap Try.prog k R b n D) (t : Turn S w w') (hn : ¬ S b) : w'.ownsMap Try.prog k R b n D := by
  obtain ⟨es, clock, hb, r⟩ := h
  exact ⟨es, clock, t.obj hb hn, r⟩
theorem ownsMap_tight {w : World} {k : TypeId} {R : Value → Option (DataW Value × List MemPlace)} {b n : Nat} {D : DataW Value} (h : w.ownsMap Try.prog k R b n D) {m : Nat} (hm : size D ≤ m) : w.ownsMap Try.prog k R b m D := by
  have hl := h.len (t := 79) (e := 97)
  obtain ⟨es, clock, hb, F, hs, rfl⟩ := h
  refine ⟨es, clock, hb, F, ?_, rfl⟩
  simpa [Maps.size, length_sorted] using hm
theorem mapTurn {w w' : World} {b : Nat} (h : w.mapTurned w' b) : Turn (fun k => k = b) w w' :=
  (Turn.refl _ w).grown h.grown (fun k q _ => (Option.some.inj q).symm)
theorem row_not_map {w : World} {g : Nat} {cs : Array Value} {e : TypeId} {fr : Nat × Nat} (h : w.heap[g]? = some (.cells cs e fr)) {k : TypeId} {R : Value → Option (DataW Value × List MemPlace)} {b n : Nat} {D : DataW Value} (o : w.ownsMap Try.prog k R b n D) : b ≠ g := by
  rintro rfl
  obtain ⟨es, clock, hb, _⟩ := o
  rw [h] at hb
  cases hb

/-- The maps' places in the disk's block. -/
def mapV (b : Option Nat) : Value := .map b
def dkC (p lim used n : Nat) (bf bt : Option Nat) (off out : Bool) : Array Value := #[ptr p, .int .i64 lim, .map bf, .int .i64 used, .int .i64 n, .map bt, .bool (!off), .bool out]
/-- The parts of a disk at p, its files' bytes at V. -/
structure Dp (w : World) (p : Nat) (K : Nat → Prop) (bf bt : Option Nat) (V : Nm → Value) (s : St) : Prop where
  inv : Inv s
  row : Row w p (dkC p s.lim (usedF s.fs) s.n bf bt s.off s.out) 82
  kp : K p
  klt : ∀ k, K k → k < w.heap.size
  files : (s.out = true ∧ bf = none) ∨ (s.out = false ∧ ∃ b D, bf = some b ∧ K b ∧ w.ownsMap Try.prog 9 heldElem b s.fs.length D ∧ Fm D V s.fs)
  troubles : (s.off = true ∧ bt = none) ∨ (s.off = false ∧ ∃ b D, bt = some b ∧ K b ∧ bf ≠ some b ∧ w.ownsMap Try.prog 3 heldElem b s.m D ∧ Tm D s.arms s.m)
  bytes : ∀ f ∈ s.fs, Own w 5 (V f.nm) (f.bs.map bv)
  owned : ∀ f ∈ s.fs, ∀ g, (V f.nm).ownBlock = some g → K g
  apart : ∀ f ∈ s.fs, ∀ f' ∈ s.fs, f.nm ≠ f'.nm → ∀ g, (V f.nm).ownBlock = some g → (V f'.nm).ownBlock ≠ some g
/-- A disk that New or Mount made. -/
def Dk (w : World) (p : Nat) (K : Nat → Prop) (s : St) : Prop := ∃ bf bt V, Dp w p K bf bt V s

theorem Dp.turn {S : Nat → Prop} {w w' : World} {p : Nat} {K : Nat → Prop} {bf bt : Option Nat} {V : Nm → Value} {s : St} (h : Dp w p K bf bt V s) (t : Turn S w w') (hn : ∀ k, K k → ¬ S k) : Dp w' p K bf bt V s := by
  refine ⟨h.inv, h.row.turn t (hn _ h.kp), h.kp, fun k hk => Nat.lt_of_lt_of_le (h.klt k hk) t.size, ?_, ?_, fun f hf => (h.bytes f hf).turn t (fun g hg => hn g (h.owned f hf g hg)), h.owned, h.apart⟩
  · rcases h.files with q | ⟨q, b, D, e, kb, o, fm⟩
    · exact Or.inl q
    · exact Or.inr ⟨q, b, D, e, kb, ownsMap_turn o t (hn b kb), fm⟩
  · rcases h.troubles with q | ⟨q, b, D, e, kb, ne, o, fm⟩
    · exact Or.inl q
    · exact Or.inr ⟨q, b, D, e, kb, ne, ownsMap_turn o t (hn b kb), fm⟩
theorem Dk.turn {S : Nat → Prop} {w w' : World} {p : Nat} {K : Nat → Prop} {s : St} (h : Dk w p K s) (t : Turn S w w') (hn : ∀ k, K k → ¬ S k) : Dk w' p K s := by
  obtain ⟨bf, bt, V, h⟩ := h
  exact ⟨bf, bt, V, h.turn t hn⟩
theorem Dk.turn_no {w w' : World} {p : Nat} {K : Nat → Prop} {s : St} (h : Dk w p K s) (t : Turn no w w') : Dk w' p K s := h.turn t (fun _ _ q => q)
/-- What a call may leave of the blocks: those that were its own, and new ones. -/
def From (w : World) (K K' : Nat → Prop) : Prop := ∀ k, K' k → K k ∨ w.heap.size ≤ k
theorem From.refl (w : World) (K : Nat → Prop) : From w K K := fun _ h => Or.inl h
theorem From.trans {S : Nat → Prop} {w w' : World} {K K' K'' : Nat → Prop} (h : From w K K') (t : Turn S w w') (h' : From w' K' K'') : From w K K'' := fun k q => by
  rcases h' k q with a | a
  · exact h k a
  · exact Or.inr (Nat.le_trans t.size a)
end Go.Proofs.Ytcdogciacchigab
