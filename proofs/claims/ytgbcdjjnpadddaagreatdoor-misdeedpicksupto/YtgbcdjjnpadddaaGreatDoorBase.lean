/- What is of no program: worlds in which only named blocks have turned; rows of bytes that a call owns; append onto them from any source. -/
import Derived.WalkKit
import Derived.WalkSpells
import Derived.WalkLawsBesides
import Derived.LaidEqlPtr
import Derived.Lib.Builder
import Derived.Deep.AppendSrc
import Derived.Deep.QuietTactic
import Derived.BigQuiet
namespace Go.Proofs.YtgbcdjjnpadddaaGreatDoor
open Go.RowKit

/-- A byte as a cell. -/
def bv (b : UInt8) : Value := .int .u8 b.toNat

theorem bv_one (bs : List UInt8) : ∀ u ∈ bs.map bv, u.oneCell' = true := by
  intro u hu
  obtain ⟨b, _, rfl⟩ := List.mem_map.1 hu
  rfl

/-- Of the blocks of w only those in S may have turned. -/
structure Turn (S : Nat → Prop) (w w' : World) : Prop where
  os : w'.os = w.os
  tape : w'.tape = w.tape
  output : w'.output = w.output
  size : w.heap.size ≤ w'.heap.size
  block : ∀ k, k < w.heap.size → ¬ S k → w'.heap[k]? = w.heap[k]?

/-- Nothing that was there has turned. -/
def no : Nat → Prop := fun _ => False

theorem Turn.refl (S : Nat → Prop) (w : World) : Turn S w w := ⟨rfl, rfl, rfl, Nat.le_refl _, fun _ _ _ => rfl⟩

theorem Turn.trans {S S' : Nat → Prop} {a b c : World} (h : Turn S a b) (k : Turn S' b c) (hs : ∀ i, i < a.heap.size → S' i → S i) : Turn S a c :=
  ⟨k.os.trans h.os, k.tape.trans h.tape, k.output.trans h.output, Nat.le_trans h.size k.size,
   fun i hi hn => (k.block i (Nat.lt_of_lt_of_le hi h.size) (fun q => hn (hs i hi q))).trans (h.block i hi hn)⟩

theorem Turn.mono {S S' : Nat → Prop} {a b : World} (h : Turn S a b) (hs : ∀ i, i < a.heap.size → S i → S' i) : Turn S' a b :=
  ⟨h.os, h.tape, h.output, h.size, fun i hi hn => h.block i hi (fun q => hn (hs i hi q))⟩

theorem Turn.of_no {S : Nat → Prop} {a b : World} (h : Turn no a b) : Turn S a b := h.mono (fun _ _ q => q.elim)

theorem Turn.then_no {S : Nat → Prop} {a b c : World} (h : Turn S a b) (k : Turn no b c) : Turn S a c := h.trans k (fun _ _ q => q.elim)

theorem Turn.alloc {S : Nat → Prop} {a w : World} (h : Turn S a w) (o : Obj) : Turn S a (w.alloc o) :=
  h.trans (S' := no) ⟨rfl, rfl, rfl, by simp, fun k hk _ => Below.heap_alloc _ _ _ hk⟩ (fun _ _ q => q.elim)

theorem Turn.setCell {S : Nat → Prop} {a w : World} (h : Turn S a w) {p : Addr} (hp : p.block < a.heap.size → S p.block) (u : Value) : Turn S a (w.setCell p u) :=
  h.trans (S' := fun k => k = p.block) ⟨rfl, rfl, rfl, by simp [World.setCell], fun _ _ hn => Below.heap_setCell _ _ _ _ hn⟩ (fun i hi q => by subst q; exact hp hi)

theorem Turn.drew {S : Nat → Prop} {a w : World} (h : Turn S a w) : Turn S a w.drew := ⟨h.os, h.tape, h.output, h.size, h.block⟩

theorem Turn.grown {S : Nat → Prop} {a w w' : World} {row : Option Nat} (h : Turn S a w) (hg : w.grownBy w' row) (hr : ∀ k, row = some k → k < a.heap.size → S k) : Turn S a w' :=
  h.trans (S' := fun k => row = some k) ⟨hg.os, hg.tape, hg.output, hg.size, fun k hk hn => hg.block k hk (fun q => hn q.symm)⟩ (fun i hi q => hr i q hi)

theorem Turn.cell {S : Nat → Prop} {w w' : World} (h : Turn S w w') {p : Addr} (hp : p.block < w.heap.size) (hn : ¬ S p.block) : w'.cell? p = w.cell? p :=
  World.cell?_of_block (w := w) (h.block p.block hp hn)

theorem Turn.keep {S : Nat → Prop} {w w' : World} (h : Turn S w w') {p : Addr} {v : Value} (hc : w.cell? p = some v) (hn : ¬ S p.block) : w'.cell? p = some v :=
  (h.cell (World.block_lt_of_cell? w p hc) hn).trans hc

theorem Turn.frozen {S : Nat → Prop} {w w' : World} (h : Turn S w w') {p : Addr} (hp : p.block < w.heap.size) (hn : ¬ S p.block) : w'.frozen? p = w.frozen? p :=
  World.frozen?_of_block (w := w) (h.block p.block hp hn)

theorem Turn.obj {S : Nat → Prop} {w w' : World} (h : Turn S w w') {g : Nat} {o : Obj} (ho : w.heap[g]? = some o) (hn : ¬ S g) : w'.heap[g]? = some o := by
  have hlt : g < w.heap.size := by
    rcases Nat.lt_or_ge g w.heap.size with q | q
    · exact q
    · rw [Array.getElem?_eq_none q] at ho; cases ho
  exact (h.block g hlt hn).trans ho

theorem Turn.below {w w' : World} (h : Turn no w w') : Below w.heap.size w w' := ⟨h.os, h.tape, h.output, h.size, fun k hk => h.block k hk (fun q => q)⟩

theorem Turn.of_below {w w' : World} (h : Below w.heap.size w w') : Turn no w w' := ⟨h.os, h.tape, h.output, h.size, fun k hk _ => h.block k hk⟩

theorem lt_of_obj {w : World} {g : Nat} {o : Obj} (ho : w.heap[g]? = some o) : g < w.heap.size := by
  rcases Nat.lt_or_ge g w.heap.size with q | q
  · exact q
  · rw [Array.getElem?_eq_none q] at ho; cases ho

/-- A slice value (elements of one cell) that owns its row from the head on. -/
def Own (w : World) (e : TypeId) (v : Value) (xs : List Value) : Prop := w.ownsRow 0 e 1 v xs.length xs

theorem Own.nil (w : World) (e : TypeId) : Own w e (.slice none 0 0) [] := World.ownsRow_nil w 0 e 1

theorem Own.turn {S : Nat → Prop} {w w' : World} {e : TypeId} {v : Value} {xs : List Value} (h : Own w e v xs) (ht : Turn S w w') (hn : ∀ g, v.ownBlock = some g → ¬ S g) : Own w' e v xs := by
  refine ⟨h.1, ?_⟩
  rcases h.2 with q | ⟨g, cap, cur, hv, hb, hg, r⟩
  · exact Or.inl q
  · exact Or.inr ⟨g, cap, cur, hv, hb, ht.obj hg (hn g (by rw [hv]; rfl)), r⟩

theorem Own.turn_no {w w' : World} {e : TypeId} {v : Value} {xs : List Value} (h : Own w e v xs) (ht : Turn no w w') : Own w' e v xs := h.turn ht (fun _ _ q => q)

theorem Own.shape {w : World} {e : TypeId} {v : Value} {xs : List Value} (h : Own w e v xs) :
    (v = .slice none 0 0 ∧ xs = []) ∨ ∃ g cap cur, v = .slice (some ⟨g, 0, none⟩) xs.length cap ∧ w.heap[g]? = some (.cells cur e (0, 0)) ∧ xs.length ≤ cap ∧ cap ≤ maxLen ∧ cur.size = cap ∧ cur.toList.take xs.length = xs := by
  rcases h.2 with ⟨q, r⟩ | ⟨g, cap, cur, hv, _, hg, h1, h2, h3, h4⟩
  · exact Or.inl ⟨q, List.eq_nil_of_length_eq_zero r⟩
  · exact Or.inr ⟨g, cap, cur, hv, hg, h1, h2, by omega, by simpa using h4⟩

theorem Own.of {w : World} {e : TypeId} {xs : List Value} {g cap : Nat} {cur : Array Value} (hg : w.heap[g]? = some (.cells cur e (0, 0))) (h1 : xs.length ≤ cap) (h2 : cap ≤ maxLen) (h3 : cur.size = cap) (h4 : cur.toList.take xs.length = xs) :
    Own w e (.slice (some ⟨g, 0, none⟩) xs.length cap) xs :=
  ⟨by simp, .inr ⟨g, cap, cur, rfl, Nat.zero_le _, hg, h1, h2, by omega, by simpa using h4⟩⟩

theorem Own.lt {w : World} {e : TypeId} {v : Value} {xs : List Value} (h : Own w e v xs) {g : Nat} (hg : v.ownBlock = some g) : g < w.heap.size := (World.ownsRow.lt h g hg).2

theorem Own.cell {w : World} {e : TypeId} {xs : List Value} {g n cap : Nat} (h : Own w e (.slice (some ⟨g, 0, none⟩) n cap) xs) (j : Nat) (u : Value) (hu : xs[j]? = some u) : w.cell? ⟨g, j, none⟩ = some u := by
  have := World.ownsRow.cells h (g := g) rfl j u hu
  simpa [Addr.add_lit] using this

/-- What an append does to the value and the world. -/
structure Grew (w w' : World) (v v' : Value) : Prop where
  grown : w.grownBy w' v.ownBlock
  blk : v'.ownBlock = v.ownBlock ∨ ∃ g, v'.ownBlock = some g ∧ w.heap.size ≤ g ∧ g < w'.heap.size

theorem Grew.turn {w w' : World} {v v' : Value} (h : Grew w w' v v') : Turn (fun k => v.ownBlock = some k) w w' := (Turn.refl _ w).grown h.grown (fun _ q _ => q)

theorem Grew.fresh {w w' : World} {v v' : Value} (h : Grew w w' v v') {B : Nat} (hv : ∀ g, v.ownBlock = some g → B ≤ g) (hB : B ≤ w.heap.size) : ∀ g, v'.ownBlock = some g → B ≤ g := by
  intro g hg
  rcases h.blk with q | ⟨g', q, h1, _⟩
  · exact hv g (by rw [← q]; exact hg)
  · rw [q] at hg; cases hg; omega

theorem Turn.fresh {S : Nat → Prop} {a w w' : World} {v v' : Value} (h : Turn S a w) (hg : Grew w w' v v') (hv : ∀ g, v.ownBlock = some g → a.heap.size ≤ g) : Turn S a w' :=
  h.grown hg.grown (fun k q hk => by have := hv k q; omega)

theorem Turn.drewN {S : Nat → Prop} {a w : World} (h : Turn S a w) (n : Nat) : Turn S a (w.drewN n) := ⟨h.os, h.tape, h.output, h.size, h.block⟩

section
variable {P : Program}

theorem run_append_src {t tx e : TypeId} {z : Value} {bytes : Nat} (ht : P.underlying t = some (.slice e)) (hinf : (P.info? e).map (fun i => (i.zero, i.size, i.bytes)) = some (some z, 1, bytes)) (hz : z.cells.size = 1)
    (ty : TypeId) (w : World) (v : Value) (xs : List Value) (hown : Own w e v xs) (x : Value) (n : Nat) (news : List Value) (hs : Src P 1 tx x n news w) (hb : (xs.length + n) * bytes ≤ 140737488355328) (hm : xs.length + n ≤ maxLen) :
    ∃ v' w', (Builtin.append_ #[t, tx] ty #[v, x]).run P w = .ok v' w' ∧ Own w' e v' (xs ++ news) ∧ Grew w w' v v' ∧ (xs ++ news ≠ [] → v' ≠ .slice none 0 0) := by
  obtain ⟨i, hi, hz0, hz1, hz2⟩ := info_parts hinf
  have hnl : news.length = n := by simpa using hs.newsLen
  have h63 : xs.length + n ≤ 9223372036854775807 := by simp only [maxLen] at hm; omega
  have grow : ∀ (base : Option Addr) (sCap : Nat), v = .slice base xs.length sCap → (Builtin.firstCells 1 xs.length (.slice base xs.length sCap)).run P w.drew = .ok xs.toArray w.drew → sCap < xs.length + n →
      ∃ v' w', (Builtin.append_ #[t, tx] ty #[v, x]).run P w = .ok v' w' ∧ Own w' e v' (xs ++ news) ∧ Grew w w' v v' ∧ (xs ++ news ≠ [] → v' ≠ .slice none 0 0) := by
    intro base sCap hv hold hlt
    have hr := run_append_grow_src (P := P) w t tx ty e i z ht hi hz0 base xs.length sCap xs (by rw [hz1]; exact hold) x n news (by rw [hz1]; exact hs) hlt (by omega) (growslice_fits hlt (by rw [hz2]; exact hb))
    have hge := grownCap_ge w (xs.length + n) sCap e
    have hcm := grownCap_le_maxLen w (xs.length + n) sCap e hm
    rw [hv]
    refine ⟨_, _, hr, ?_, ⟨⟨rfl, rfl, rfl, by simp, fun k hk _ => Below.heap_alloc w.drew _ k hk⟩, .inr ⟨w.heap.size, rfl, Nat.le_refl _, by simp⟩⟩, fun _ => by simp⟩
    have hl : (xs ++ news).length = xs.length + n := by simp [hnl]
    have ho := Own.of (w := w.drew.alloc (.cells ((xs ++ news).toArray ++ Builtin.zeroCells z.cells (grownCap w (xs.length + n) sCap e - (xs.length + n))) e)) (e := e) (xs := xs ++ news) (g := w.heap.size) (cap := grownCap w (xs.length + n) sCap e)
      (heap_alloc_new w.drew _) (by rw [hl]; exact hge) hcm (by simp only [Array.size_append, List.size_toArray, size_zeroCells, hz, hl]; omega) (by simp only [Array.toList_append]; exact List.take_left)
    rw [hl] at ho
    exact ho
  rcases hown.shape with ⟨rfl, rfl⟩ | ⟨g, cap, cur, rfl, hg, h1, h2, h3, h4⟩
  · by_cases hn : n = 0
    · subst hn
      have hnn : news = [] := List.eq_nil_of_length_eq_zero hnl
      subst hnn
      refine ⟨.slice none 0 0, w, ?_, Own.nil w e, ⟨⟨rfl, rfl, rfl, Nat.le_refl _, fun _ _ _ => rfl⟩, .inl rfl⟩, fun q => (q rfl).elim⟩
      have hc := hs.cells
      rcases hs.kind with ⟨e', hk⟩ | hk <;> simp [Builtin.append_, run_underlying ht, run_underlying hk, sizeOf, typeInfo, hi, hz1, hs.len, hc]
    · exact grow none 0 rfl (by simp [Builtin.firstCells]) (by simp; omega)
  · by_cases hroom : xs.length + n ≤ cap
    · have hfit : xs.length + news.length ≤ cur.size := by omega
      have hst := run_storeCells_at P g xs.length e news 0 cur w hg (by simpa using hfit) hs.one
      have hr : (Builtin.append_ #[t, tx] ty #[.slice (some ⟨g, 0, none⟩) xs.length cap, x]).run P w = .ok (.slice (some ⟨g, 0, none⟩) (xs.length + n) cap) (w.setRow g (cur.toList.take xs.length ++ news ++ cur.toList.drop (xs.length + news.length)).toArray) := by
        have hc := hs.cells
        simp only [Nat.add_zero] at hst
        rcases hs.kind with ⟨e', hk⟩ | hk <;> simp [Builtin.append_, run_underlying ht, run_underlying hk, sizeOf, typeInfo, hi, hz1, hs.len, hroom, hc, Addr.add_lit, hst]
      refine ⟨_, _, hr, ?_, ⟨⟨rfl, rfl, rfl, by simp, fun k _ hk => setRow_other w g k _ (fun q => hk (by simp [Value.ownBlock, q]))⟩, .inl rfl⟩, fun _ => by simp⟩
      have hl : (xs ++ news).length = xs.length + n := by simp [hnl]
      have ho := Own.of (w := w.setRow g (cur.toList.take xs.length ++ news ++ cur.toList.drop (xs.length + news.length)).toArray) (e := e) (xs := xs ++ news) (g := g) (cap := cap)
        (setRow_heap w g cur _ e _ hg) (by rw [hl]; exact hroom) h2 (by simp only [List.size_toArray, List.length_append, List.length_take, List.length_drop, Array.length_toList]; omega) (by rw [h4]; exact List.take_left)
      rw [hl] at ho
      exact ho
    · refine grow (some ⟨g, 0, none⟩) cap rfl ?_ (by omega)
      exact run_firstCells_some w.drew 1 xs.length ⟨g, 0, none⟩ xs.length cap xs (by simp) (fun j u hu => by
        have := World.ownsRow.cells hown (g := g) rfl j u hu
        simpa using this)

theorem wpList_append_src {ops : Array Oper} {rest : List Oper} {o : Oper} {a : Act} {w : World} {Q : Exit → Act → World → Prop} (hgd : o.guard = none) (s x : Operand) {t tx e : TypeId} {z : Value} {bytes : Nat}
    (ho : o.op = .call { callee := .builtin .append, args := #[s, x], argTypes := #[t, tx] })
    (ht : P.underlying t = some (.slice e)) (hinf : (P.info? e).map (fun i => (i.zero, i.size, i.bytes)) = some (some z, 1, bytes)) (hz : z.cells.size = 1)
    (v : Value) (xs : List Value) (hs : a.eval s = v) (hown : Own w e v xs) (xv : Value) (n : Nat) (news : List Value) (hx : a.eval x = xv) (hsrc : Src P 1 tx xv n news w)
    (hb : (xs.length + n) * bytes ≤ 140737488355328) (hm : xs.length + n ≤ maxLen)
    (h : ∀ v' w', Own w' e v' (xs ++ news) → Grew w w' v v' → (xs ++ news ≠ [] → v' ≠ .slice none 0 0) → wpList P ops Q rest (a.put o.dst v') w') : wpList P ops Q (o :: rest) a w :=
  wpList_plain hgd fun K hK => by
    obtain ⟨v', w', hr, h2, h3, h4⟩ := run_append_src (P := P) ht hinf hz o.type w v xs hown xv n news hsrc hb hm
    unfold Oper.wp execOp
    simp only [ho, resolve, invoke, builtin, Sem.run_bind, Sem.run_pure, Result.andThen_ok, List.map_toArray, List.map_cons, List.map_nil, hs, hx, hr]
    exact hK _ _ (h v' w' h2 h3 h4)

end

/-- A slice of bytes, wherever it lies. -/
def Bs (w : World) (v : Value) (bs : List UInt8) : Prop :=
  (v = .slice none 0 0 ∧ bs = []) ∨ ∃ a cap, v = .slice (some a) bs.length cap ∧ bs.length ≤ cap ∧ cap ≤ maxLen ∧ ∀ j u, bs[j]? = some u → w.cell? (a.add j) = some (bv u)

theorem Bs.le {w : World} {v : Value} {bs : List UInt8} (h : Bs w v bs) : bs.length ≤ maxLen := by
  rcases h with ⟨_, rfl⟩ | ⟨_, _, _, h1, h2, _⟩
  · exact Nat.zero_le _
  · omega

theorem Bs.turn {S : Nat → Prop} {w w' : World} {v : Value} {bs : List UInt8} (h : Bs w v bs) (ht : Turn S w w') (hn : ∀ g, v.ownBlock = some g → ¬ S g) : Bs w' v bs := by
  rcases h with q | ⟨a, cap, rfl, h1, h2, h3⟩
  · exact Or.inl q
  · refine Or.inr ⟨a, cap, rfl, h1, h2, fun j u hu => ht.keep (h3 j u hu) ?_⟩
    have : (a.add j).block = a.block := by unfold Addr.add; split <;> rfl
    rw [this]
    exact hn _ rfl

theorem Bs.turn_no {w w' : World} {v : Value} {bs : List UInt8} (h : Bs w v bs) (ht : Turn no w w') : Bs w' v bs := h.turn ht (fun _ _ q => q)

theorem Own.bs {w : World} {e : TypeId} {v : Value} {bs : List UInt8} (h : Own w e v (bs.map bv)) : Bs w v bs := by
  rcases h.shape with ⟨rfl, q⟩ | ⟨g, cap, cur, rfl, _, h1, h2, _, _⟩
  · exact Or.inl ⟨rfl, List.map_eq_nil_iff.1 q⟩
  · refine Or.inr ⟨⟨g, 0, none⟩, cap, by simp, by simpa using h1, h2, fun j u hu => ?_⟩
    rw [Addr.add_lit]
    have := h.cell j (bv u) (by simp [hu])
    simpa using this

theorem Bs.src {P : Program} {tx e' : TypeId} (hk : P.underlying tx = some (.slice e')) {w : World} {v : Value} {bs : List UInt8} (h : Bs w v bs) : Src P 1 tx v bs.length (bs.map bv) w := by
  rcases h with ⟨rfl, rfl⟩ | ⟨a, cap, rfl, _, _, h3⟩
  · exact Src.ofNil w hk 0
  · refine Src.ofSlice w hk a bs.length cap (bs.map bv) (by simp) (fun j u hu => ?_) (bv_one bs)
    rw [List.getElem?_map] at hu
    cases hb : bs[j]? with
    | none => rw [hb] at hu; cases hu
    | some b => rw [hb] at hu; cases hu; exact h3 j b hb

/-- Where there is a byte, the address is plain. -/
theorem Bs.at {w : World} {v : Value} {bs : List UInt8} (h : Bs w v bs) (hp : 0 < bs.length) :
    ∃ b off cap, v = .slice (some ⟨b, off, none⟩) bs.length cap ∧ bs.length ≤ cap ∧ ∀ j, j < bs.length → w.cell? ⟨b, off + j, none⟩ = some (.int .u8 (bs.getD j 0).toNat) := by
  rcases h with ⟨_, rfl⟩ | ⟨⟨b, off, spot⟩, cap, rfl, h1, _, h3⟩
  · simp at hp
  · have hs : spot = none := by
      have := World.cell?_spot (h3 0 bs[0] (by simp [hp]))
      simpa [Addr.add] using this
    subst hs
    refine ⟨b, off, cap, rfl, h1, fun j hj => ?_⟩
    have := h3 j bs[j] (by simp [hj])
    rw [Addr.add_lit] at this
    rw [this, List.getD_eq_getElem?_getD, List.getElem?_eq_getElem hj]
    rfl

/-- The value's shape in one form. -/
theorem Bs.slice {w : World} {v : Value} {bs : List UInt8} (h : Bs w v bs) : ∃ a cap, v = .slice a bs.length cap := by
  rcases h with ⟨rfl, rfl⟩ | ⟨a, cap, rfl, _⟩
  · exact ⟨none, 0, rfl⟩
  · exact ⟨some a, cap, rfl⟩

theorem src_lit {P : Program} {tx e' e : TypeId} (hk : P.underlying tx = some (.slice e')) (w : World) (cs : List UInt8) : Src P 1 tx (.slice (some ⟨w.heap.size, 0, none⟩) cs.length cs.length) cs.length (cs.map bv) (w.alloc (.cells (cs.map bv).toArray e)) := by
  refine Src.ofSlice _ hk _ _ _ _ (by simp) (fun j u hu => ?_) (bv_one cs)
  rw [Addr.add_lit]
  rw [cell_of_row _ w.heap.size (0 + j) (cs.map bv).toArray e (0, 0) (heap_alloc_new w _)]
  simpa using hu

theorem src_byte {P : Program} {tx e' e : TypeId} (hk : P.underlying tx = some (.slice e')) (w : World) (z : Int) (b : UInt8) (h : z = (b.toNat : Int)) :
    Src P 1 tx (.slice (some ⟨w.heap.size, 0, none⟩) 1 1) 1 (List.map bv [b]) (w.alloc (.cells #[.int .u8 z] e)) := by
  subst h
  exact src_lit hk w [b]

theorem u64_low7 (m : Nat) (hm : m < 18446744073709551616) : bits .or .u64 (bits .and .u64 (m : Int) 127) 128 % 256 = ((UInt8.ofNat (m % 128 + 128)).toNat : Int) := by
  have h1 := bits_and_u64_nat m 127 hm (by omega)
  have e1 : m &&& 127 = m % 128 := Nat.and_two_pow_sub_one_eq_mod m 7
  rw [e1] at h1
  have h2 := bits_or_u64_nat (m % 128) 128 (by omega) (by omega)
  have e2 : m % 128 ||| 128 = 128 + m % 128 := by
    rw [Nat.or_comm]
    exact (Nat.two_pow_add_eq_or_of_lt (i := 7) (by omega) 1).symm
  rw [e2] at h2
  have e3 : ((127 : Nat) : Int) = 127 := rfl
  have e4 : ((128 : Nat) : Int) = 128 := rfl
  rw [e3] at h1
  rw [e4] at h2
  rw [h1, h2]
  simp
  omega

theorem u64_byte (m : Nat) (hm : m < 256) : (m : Int) = ((UInt8.ofNat m).toNat : Int) := by
  simp
  omega

end Go.Proofs.YtgbcdjjnpadddaaGreatDoor


