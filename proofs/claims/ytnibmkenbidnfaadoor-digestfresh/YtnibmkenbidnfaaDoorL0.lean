/- Lists of digests that each own their memory: written, appended to. -/
import Derived.Test.YtnibmkenbidnfaaDoorK11
namespace Go.Proofs.YtnibmkenbidnfaaDoor
open Go.RowKit
set_option linter.unusedVariables false

abbrev Dg := List UInt8
theorem Own.setAt {w : World} {e : TypeId} {g n cap : Nat} {xs : List Value} (h : Own w e (.slice (some ⟨g, 0, none⟩) n cap) xs) (k : Nat) (u : Value) : Own (w.setCell ⟨g, k, none⟩ u) e (.slice (some ⟨g, 0, none⟩) n cap) (xs.set k u) := by
  rcases h.shape with ⟨e1, _⟩ | ⟨g', cap', cur, e1, hg, h1, h2, h3, h4⟩
  · cases e1
  · cases e1
    have := Own.of (w := w.setCell ⟨g, k, none⟩ u) (e := e) (xs := xs.set k u) (g := g) (cap := cap) (cur := cur.setIfInBounds k u) (heap_setCell_same w g k cur e u hg) (by simpa using h1) h2 (by simpa using h3) (by
      rw [Array.toList_setIfInBounds, List.length_set, List.take_set, h4])
    simpa using this
theorem drop_at {α : Type} (l : List α) (j : Nat) (x : α) (h : l[j]? = some x) : l.drop j = x :: l.drop (j + 1) := by
  obtain ⟨hj, rfl⟩ := List.getElem?_eq_some_iff.1 h
  exact List.drop_eq_getElem_cons hj
/-- The digest that is written at place p of list i. -/
def mkA (b i p : Nat) : Dg := UInt8.ofNat (b + i) :: UInt8.ofNat p :: List.replicate 30 0
theorem mkA_len (b i p : Nat) : (mkA b i p).length = 32 := by simp [mkA]
/-- List i, its first j members written over. -/
def overTo (i j : Nat) (l : List Dg) : List Dg := (List.range j).map (mkA 1 i) ++ l.drop j
theorem overTo_len (i j : Nat) (l : List Dg) (h : j ≤ l.length) : (overTo i j l).length = l.length := by simp [overTo]; omega
theorem overTo_zero (i : Nat) (l : List Dg) : overTo i 0 l = l := by simp [overTo]
theorem overTo_succ (i j : Nat) (l : List Dg) (h : j < l.length) : (overTo i j l).set j (mkA 1 i j) = overTo i (j + 1) l := by
  unfold overTo
  rw [List.set_append_right _ _ (by simp), List.range_succ, drop_at l j l[j] (List.getElem?_eq_getElem h)]
  simp only [List.length_map, List.length_range, Nat.sub_self, List.set_cons_zero, List.map_append, List.map_cons, List.map_nil, List.append_assoc, List.cons_append, List.nil_append]
theorem overTo_ok (i j : Nat) (l : List Dg) (h : ∀ m ∈ l, m.length = 32) : ∀ m ∈ overTo i j l, m.length = 32 := fun m hm => by
  rcases List.mem_append.1 hm with q | q
  · obtain ⟨p, hp, rfl⟩ := List.mem_map.1 q
    exact mkA_len _ _ _
  · exact h m (List.mem_of_mem_drop q)
/-- The lists while list k is being written, j of its members done. -/
def stA (L : Nat → List Dg) (k j i : Nat) : List Dg := overTo i (if i < k then (L i).length else if i = k then j else 0) (L i)
theorem stA_len (L : Nat → List Dg) (k j i : Nat) (h : j ≤ (L k).length) : (stA L k j i).length = (L i).length := by
  unfold stA
  apply overTo_len
  split
  · exact Nat.le_refl _
  · split
    · next q => subst q; exact h
    · omega
theorem stA_zero (L : Nat → List Dg) : stA L 0 0 = L := by
  funext i
  unfold stA
  rw [if_neg (by omega)]
  split <;> exact overTo_zero _ _
theorem stA_next (L : Nat → List Dg) (k : Nat) : stA L k (L k).length = stA L (k + 1) 0 := by
  funext i
  unfold stA
  congr 1
  split
  · rw [if_pos (by omega)]
  · split
    · next q => subst q; rw [if_pos (by omega)]
    · rw [if_neg (by omega)]; simp
theorem stA_self (L : Nat → List Dg) (k j : Nat) : stA L k j k = overTo k j (L k) := by simp [stA]
theorem stA_other (L : Nat → List Dg) (k j j' i : Nat) (h : i ≠ k) : stA L k j i = stA L k j' i := by simp [stA, h]
/-- The lists when all are written. -/
def full (L : Nat → List Dg) (i : Nat) : List Dg := overTo i (L i).length (L i)
theorem full_eq (l : List Dg) (i : Nat) : overTo i l.length l = (List.range l.length).map (mkA 1 i) := by simp [overTo]
/-- The lists with what is appended: r rounds done, and k lists of the next. -/
def ap (L : Nat → List Dg) (r k i : Nat) : List Dg := full L i ++ (List.range (if i < k then r + 1 else r)).map (mkA 101 i)
theorem ap_zero (L : Nat → List Dg) : ap L 0 0 = full L := by funext i; simp [ap]
theorem ap_next (L : Nat → List Dg) (r k i : Nat) (h : i < k) : ap L r k i = ap L (r + 1) 0 i := by simp [ap, h]
theorem ap_self (L : Nat → List Dg) (r k : Nat) : ap L r (k + 1) k = ap L r k k ++ [mkA 101 k r] := by simp [ap, List.range_succ]
theorem ap_other (L : Nat → List Dg) (r k i : Nat) (h : i ≠ k) : ap L r (k + 1) i = ap L r k i := by
  unfold ap
  have : (i < k + 1) = (i < k) := by apply propext; omega
  simp only [this]

/-- A list of digests, wherever it lies. -/
def Dl (w : World) (v : Value) (l : List Dg) : Prop := ∃ a cap, v = .slice a l.length cap ∧ HsAt w a cap l
/-- A digest is stored at a place of a list that is owned. -/
theorem OwnN.put {w : World} {g n cap : Nat} {l : List Dg} (h : OwnN w 35 32 (.slice (some ⟨g, 0, none⟩) n cap) n (hsF l)) (hl : l.length = n) (ok : ∀ m ∈ l, m.length = 32) (k : Nat) (hk : k < n) (m : Dg) (hm : m.length = 32) :
    ∃ w', (Instr.storeAt 35 (.pointer (some ⟨g, k * 32, none⟩)) (.agg (hb32 m))).run Tryd.prog w = .ok () w' ∧ OwnN w' 35 32 (.slice (some ⟨g, 0, none⟩) n cap) n (hsF (l.set k m)) ∧ Turn (fun b => b = g) w w' := by
  rcases h.2 with ⟨e, _⟩ | ⟨g', cap', cur, e, _, hg, h1, h2, h3, h4⟩
  · cases e
  · cases e
    have hml : (m.map bv).length = 32 := by simp [hm]
    have hst := run_storeCells_at Tryd.prog g (k * 32) 35 (m.map bv) 0 cur w hg (by rw [hml]; omega) (bv_one m)
    simp only [Nat.add_zero] at hst
    have hs : (Tryd.prog.info? 35).map (·.size) = some 32 := by have := congrArg (Option.map (fun (x : Option Value × Nat × Nat) => x.2.1)) info25; simpa [Option.map_map] using this
    refine ⟨w.setRow g (cur.toList.take (k * 32) ++ m.map bv ++ cur.toList.drop (k * 32 + (m.map bv).length)).toArray, ?_, ⟨?_, .inr ⟨g, cap, _, rfl, Nat.zero_le _, setRow_heap w g cur _ 35 _ hg, h1, h2, ?_, ?_⟩⟩, (Turn.refl _ w).setRow g _ (fun _ => rfl)⟩
    · cases hq : Tryd.prog.info? 35 with
      | none => simp [hq] at hs
      | some i =>
        have hi : 32 = i.size := by simp [hq] at hs; omega
        have hsz : (hb32 m).size = i.size := by rw [← hi]; exact hb32_size hm
        have hto : (hb32 m).toList = m.map bv := by simp [hb32]
        simp [Instr.storeAt, Instr.sureAddr, storeVar, sizeOf, typeInfo, hq, Value.cells, hsz, hto, hst]
    · rw [hsF_len _ (fun x hx => by rcases List.mem_or_eq_of_mem_set hx with q | rfl; exact ok x q; exact hm), List.length_set, hl]
    · simp only [List.size_toArray, List.length_append, List.length_take, List.length_drop, Array.length_toList, hml]
      omega
    · have hsl : (hsF l).length = n * 32 := by rw [hsF_len l ok, hl]
      have e1 : hsF (l.set k m) = hsF (l.take k) ++ (m.map bv ++ hsF (l.drop (k + 1))) := by
        rw [List.set_eq_take_append_cons_drop, if_pos (by omega), hsF_append]
        congr 1
      have e2 : hsF l = hsF (l.take k) ++ hsF (l.drop k) := by rw [← hsF_append, List.take_append_drop]
      have l1 : (hsF (l.take k)).length = k * 32 := by rw [hsF_len _ (fun x hx => ok x (List.mem_of_mem_take hx)), List.length_take]; congr 1; omega
      have e3 : hsF (l.drop k) = (l[k]'(by omega)).map bv ++ hsF (l.drop (k + 1)) := by
        rw [List.drop_eq_getElem_cons (by omega)]
        rfl
      have l3 : ((l[k]'(by omega)).map bv).length = 32 := by rw [List.length_map]; exact ok _ (List.getElem_mem _)
      have t1 : cur.toList.take (k * 32) = hsF (l.take k) := by
        have : (cur.toList.take (n * 32)).take (k * 32) = cur.toList.take (k * 32) := by rw [List.take_take]; congr 1; omega
        rw [← this, h4, e2, List.take_left' l1]
      have t2 : (cur.toList.drop (k * 32 + 32)).take (n * 32 - (k * 32 + 32)) = hsF (l.drop (k + 1)) := by
        rw [← List.drop_take, h4, e2, e3, ← List.append_assoc]
        exact List.drop_left' (by rw [List.length_append, l1, l3])
      simp only [hml]
      rw [t1, e1, List.append_assoc]
      rw [List.take_append, List.take_of_length_le (by rw [l1]; omega)]
      congr 1
      rw [l1, List.take_append, List.take_of_length_le (by rw [hml]; omega), hml, ← t2, show n * 32 - k * 32 - 32 = n * 32 - (k * 32 + 32) by omega]
theorem OwnN.hd {w : World} {v : Value} {n : Nat} {l : List Dg} (h : OwnN w 35 32 v n (hsF l)) (hn : n = l.length) (h0 : 0 < l.length) (ok : ∀ m ∈ l, m.length = 32) : ∃ g cap, v = .slice (some ⟨g, 0, none⟩) n cap ∧ HsAt w (some ⟨g, 0, none⟩) cap l := by
  obtain ⟨a, cap, e, H⟩ := h.hsAt hn ok
  rcases h.2 with ⟨_, q⟩ | ⟨g, cap', cur, e2, _⟩
  · omega
  · rw [e] at e2
    cases e2
    exact ⟨g, cap, e, H⟩
/-- Lists that each own their memory, no two the same. -/
structure Lot (w : World) (vs : List Value) (L : Nat → List Dg) : Prop where
  own : ∀ k v, vs[k]? = some v → OwnN w 35 32 v (L k).length (hsF (L k))
  ok : ∀ k v, vs[k]? = some v → ∀ m ∈ L k, m.length = 32
  apart : ∀ (i j : Nat) (v u : Value) (g : Nat), vs[i]? = some v → vs[j]? = some u → v.ownBlock = some g → u.ownBlock = some g → i = j
/-- Their blocks. -/
def Lb (vs : List Value) : Nat → Prop := fun g => ∃ (k : Nat) (v : Value), vs[k]? = some v ∧ v.ownBlock = some g

theorem Lot.turn_no {w w' : World} {vs : List Value} {L : Nat → List Dg} (h : Lot w vs L) (t : Turn no w w') : Lot w' vs L :=
  ⟨fun k v hv => (h.own k v hv).turn_no t, h.ok, h.apart⟩
theorem Lot.turn {S : Nat → Prop} {w w' : World} {vs : List Value} {L : Nat → List Dg} (h : Lot w vs L) (t : Turn S w w') (hn : ∀ g, Lb vs g → ¬ S g) : Lot w' vs L :=
  ⟨fun k v hv => (h.own k v hv).turn t (fun g q => hn g ⟨k, v, hv, q⟩), h.ok, h.apart⟩
/-- A row of one-cell values is none of them. -/
theorem Lot.away {w : World} {vs : List Value} {L : Nat → List Dg} (h : Lot w vs L) {v0 : Value} {xs : List Value} (O : Own w 50 v0 xs) : ∀ g, v0.ownBlock = some g → ¬ Lb vs g := by
  rintro g hg ⟨k, v, hv, hb⟩
  rcases O.shape with ⟨rfl, _⟩ | ⟨g', cap', cur', rfl, ho, _⟩
  · cases hg
  · cases hg
    rcases (h.own k v hv).2 with ⟨rfl, _⟩ | ⟨g2, cap2, cur2, rfl, _, ho2, _⟩
    · cases hb
    · cases hb
      rw [ho] at ho2
      cases ho2
/-- One list, written. -/
theorem Lot.upd {w w' : World} {vs : List Value} {L L' : Nat → List Dg} (h : Lot w vs L) (k : Nat) (v : Value) (hv : vs[k]? = some v) (t : Turn (fun g => v.ownBlock = some g) w w')
    (ho : OwnN w' 35 32 v (L' k).length (hsF (L' k))) (hok : ∀ m ∈ L' k, m.length = 32) (hL : ∀ i, i ≠ k → L' i = L i) : Lot w' vs L' :=
  ⟨fun i u hu => by
    by_cases q : i = k
    · subst q; rw [hv] at hu; cases hu; exact ho
    · rw [hL i q]
      exact (h.own i u hu).turn t (fun g hg hs => q (h.apart i k u v g hu hv hg hs)),
   fun i u hu => by
    by_cases q : i = k
    · subst q; exact hok
    · rw [hL i q]; exact h.ok i u hu,
   h.apart⟩
section
variable {P : Program}

theorem run_append_srcK {t tx e : TypeId} {z : Value} {size bytes : Nat} (ht : P.underlying t = some (.slice e)) (hinf : (P.info? e).map (fun i => (i.zero, i.size, i.bytes)) = some (some z, size, bytes)) (hz : z.cells.size = size) (hsz : 0 < size)
    (ty : TypeId) (w : World) (v : Value) (n : Nat) (xs : List Value) (hown : OwnN w e size v n xs) (x : Value) (m : Nat) (news : List Value) (hs : Src P size tx x m news w) (hb : (n + m) * bytes ≤ 140737488355328) (hm : n + m ≤ maxLen) :
    ∃ v' w', (Builtin.append_ #[t, tx] ty #[v, x]).run P w = .ok v' w' ∧ OwnN w' e size v' (n + m) (xs ++ news) ∧ Grew w w' v v' ∧ (v'.ownBlock = v.ownBlock ∨ Turn no w w') := by
  obtain ⟨i, hi, hz0, hz1, hz2⟩ := info_parts hinf
  have hnl : news.length = m * size := hs.newsLen
  have hxl : xs.length = n * size := hown.1
  have h63 : n + m ≤ 9223372036854775807 := by simp only [maxLen] at hm; omega
  have hlen : (xs ++ news).length = (n + m) * size := by rw [List.length_append, hxl, hnl, Nat.add_mul]
  have grow : ∀ (base : Option Addr) (sCap : Nat), v = .slice base n sCap → (Builtin.firstCells size n (.slice base n sCap)).run P w.drew = .ok xs.toArray w.drew → sCap < n + m →
      ∃ v' w', (Builtin.append_ #[t, tx] ty #[v, x]).run P w = .ok v' w' ∧ OwnN w' e size v' (n + m) (xs ++ news) ∧ Grew w w' v v' ∧ (v'.ownBlock = v.ownBlock ∨ Turn no w w') := by
    intro base sCap hv hold hlt
    have hr := run_append_grow_src (P := P) w t tx ty e i z ht hi hz0 base n sCap xs (by rw [hz1]; exact hold) x m news (by rw [hz1]; exact hs) hlt (by omega) (growslice_fits hlt (by rw [hz2]; exact hb))
    have hge := grownCap_ge w (n + m) sCap e
    have hcm := grownCap_le_maxLen w (n + m) sCap e hm
    rw [hv]
    refine ⟨_, _, hr, ?_, ⟨⟨rfl, rfl, rfl, by simp, fun k hk _ => Below.heap_alloc w.drew _ k hk⟩, .inr ⟨w.heap.size, rfl, Nat.le_refl _, by simp⟩⟩, .inr ⟨rfl, rfl, rfl, by simp, fun k hk _ => Below.heap_alloc w.drew _ k hk⟩⟩
    refine ⟨hlen, .inr ⟨w.heap.size, _, _, rfl, Nat.zero_le _, heap_alloc_new w.drew _, hge, hcm, ?_, ?_⟩⟩
    · simp only [Array.size_append, List.size_toArray, size_zeroCells, hz, hlen, ← Nat.add_mul]
      congr 1
      omega
    · simp only [Array.toList_append]
      rw [← hlen]
      exact List.take_left
  rcases hown.2 with ⟨rfl, rfl⟩ | ⟨g, cap, cur, rfl, _, hg, h1, h2, h3, h4⟩
  · have hx : xs = [] := List.eq_nil_of_length_eq_zero (by simpa using hxl)
    subst hx
    by_cases hn : m = 0
    · subst hn
      have hnn : news = [] := List.eq_nil_of_length_eq_zero (by simpa using hnl)
      subst hnn
      refine ⟨.slice none 0 0, w, ?_, OwnN.nil w e size, ⟨⟨rfl, rfl, rfl, Nat.le_refl _, fun _ _ _ => rfl⟩, .inl rfl⟩, .inl rfl⟩
      have hc := hs.cells
      rcases hs.kind with ⟨e', hk⟩ | hk <;> simp [Builtin.append_, run_underlying ht, run_underlying hk, sizeOf, typeInfo, hi, hz1, hs.len, hc]
    · exact grow none 0 rfl (by simp [Builtin.firstCells]) (by omega)
  · by_cases hroom : n + m ≤ cap
    · have hfit : n * size + news.length ≤ cur.size := by rw [hnl, h3, ← Nat.add_mul]; exact Nat.mul_le_mul_right _ hroom
      have hst := run_storeCells_at P g (n * size) e news 0 cur w hg (by simpa using hfit) hs.one
      have hr : (Builtin.append_ #[t, tx] ty #[.slice (some ⟨g, 0, none⟩) n cap, x]).run P w = .ok (.slice (some ⟨g, 0, none⟩) (n + m) cap) (w.setRow g (cur.toList.take (n * size) ++ news ++ cur.toList.drop (n * size + news.length)).toArray) := by
        have hc := hs.cells
        simp only [Nat.add_zero] at hst
        rcases hs.kind with ⟨e', hk⟩ | hk <;> simp [Builtin.append_, run_underlying ht, run_underlying hk, sizeOf, typeInfo, hi, hz1, hs.len, hroom, hc, Addr.add_lit, hst]
      refine ⟨_, _, hr, ⟨hlen, .inr ⟨g, cap, _, rfl, Nat.zero_le _, setRow_heap w g cur _ e _ hg, hroom, h2, ?_, ?_⟩⟩, ⟨⟨rfl, rfl, rfl, by simp, fun k _ hk => setRow_other w g k _ (fun q => hk (by simp [Value.ownBlock, q]))⟩, .inl rfl⟩, .inl rfl⟩
      · simp only [List.size_toArray, List.length_append, List.length_take, List.length_drop, Array.length_toList]
        omega
      · rw [h4, ← hlen]
        exact List.take_left
    · refine grow (some ⟨g, 0, none⟩) cap rfl ?_ (by omega)
      exact run_firstCells_some w.drew size n ⟨g, 0, none⟩ n cap xs hxl (fun j u hu => by
        have := World.ownsRow.cells hown (g := g) rfl j u hu
        simpa using this)

theorem wpList_append_srcK {ops : Array Oper} {rest : List Oper} {o : Oper} {a : Act} {w : World} {Q : Exit → Act → World → Prop} (hgd : o.guard = none) (s x : Operand) {t tx e : TypeId} {z : Value} {size bytes : Nat}
    (ho : o.op = .call { callee := .builtin .append, args := #[s, x], argTypes := #[t, tx] })
    (ht : P.underlying t = some (.slice e)) (hinf : (P.info? e).map (fun i => (i.zero, i.size, i.bytes)) = some (some z, size, bytes)) (hz : z.cells.size = size) (hsz : 0 < size)
    (v : Value) (k : Nat) (xs : List Value) (hs : a.eval s = v) (hown : OwnN w e size v k xs) (xv : Value) (n : Nat) (news : List Value) (hx : a.eval x = xv) (hsrc : Src P size tx xv n news w)
    (hb : (k + n) * bytes ≤ 140737488355328) (hm : k + n ≤ maxLen)
    (h : ∀ v' w', OwnN w' e size v' (k + n) (xs ++ news) → Grew w w' v v' → (v'.ownBlock = v.ownBlock ∨ Turn no w w') → wpList P ops Q rest (a.put o.dst v') w') : wpList P ops Q (o :: rest) a w :=
  wpList_plain hgd fun K hK => by
    obtain ⟨v', w', hr, h2, h3, h4⟩ := run_append_srcK (P := P) ht hinf hz hsz o.type w v k xs hown xv n news hsrc hb hm
    unfold Oper.wp execOp
    simp only [ho, resolve, invoke, builtin, Sem.run_bind, Sem.run_pure, Result.andThen_ok, List.map_toArray, List.map_cons, List.map_nil, hs, hx, hr]
    exact hK _ _ (h v' w' h2 h3 h4)
end

/-- Lists us beside the lists vs that they grew out of: vs still read as F, us are owned and read as G. -/
structure Grown (B : Nat) (w : World) (vs us : List Value) (F G : Nat → List Dg) : Prop where
  lot : Lot w us G
  ms : ∀ (k : Nat) (v : Value), vs[k]? = some v → Dl w v (F k)
  head : ∀ (k : Nat) (a : Addr) (n c : Nat), vs[k]? = some (.slice (some a) n c) → a = ⟨a.block, 0, none⟩
  low : ∀ (k : Nat) (v : Value) (g : Nat), vs[k]? = some v → v.ownBlock = some g → g < B
  cross : ∀ (i j : Nat) (v u : Value) (g : Nat), i ≠ j → vs[i]? = some v → us[j]? = some u → v.ownBlock = some g → u.ownBlock = some g → False
  blk : ∀ (k : Nat) (v u : Value) (g : Nat), vs[k]? = some v → us[k]? = some u → u.ownBlock = some g → v.ownBlock = some g ∨ B ≤ g
  pre : ∀ k, F k <+: G k

theorem Dl.turn {S : Nat → Prop} {w w' : World} {v : Value} {l : List Dg} (h : Dl w v l) (t : Turn S w w') (hn : ∀ g, v.ownBlock = some g → ¬ S g) : Dl w' v l := by
  obtain ⟨a, cap, e, M⟩ := h
  refine ⟨a, cap, e, M.turn t (fun x hx => hn _ ?_)⟩
  rw [e, hx]
  rfl
theorem Dl.turn_no {w w1 : World} {v : Value} {l : List Dg} (h : Dl w v l) (t : Turn no w w1) : Dl w1 v l := h.turn t (fun _ _ q => q)
theorem Grown.turn {S : Nat → Prop} {B : Nat} {w w' : World} {vs us : List Value} {F G : Nat → List Dg} (h : Grown B w vs us F G) (t : Turn S w w') (h1 : ∀ g, Lb us g → ¬ S g) (h2 : ∀ g, Lb vs g → ¬ S g) : Grown B w' vs us F G :=
  ⟨h.lot.turn t h1, fun k v hv => (h.ms k v hv).turn t (fun g q => h2 g ⟨k, v, hv, q⟩), h.head, h.low, h.cross, h.blk, h.pre⟩
theorem Grown.step {B : Nat} {w w1 w2 : World} {vs us : List Value} {F G G2 : Nat → List Dg} (h : Grown B w vs us F G) (k : Nat) (u u' : Value) (hu : us[k]? = some u) (TA : Turn no w w1) (K : Grew w1 w2 u u')
    (hK : u'.ownBlock = u.ownBlock ∨ Turn no w1 w2) (m : Dg) (hm : m.length = 32) (O : OwnN w2 35 32 u' (G2 k).length (hsF (G2 k))) (e1 : G2 k = G k ++ [m]) (e2 : ∀ i, i ≠ k → G2 i = G i) (hB : B ≤ w.heap.size) : Grown B w2 vs (us.set k u') F G2 := by
  have hkl : k < us.length := (List.getElem?_eq_some_iff.1 hu).1
  have at1 : ∀ x, (us.set k u')[k]? = some x → x = u' := fun x hx => by
    rw [List.getElem?_set, if_pos rfl, if_pos hkl] at hx; cases hx; rfl
  have at2 : ∀ i x, i ≠ k → (us.set k u')[i]? = some x → us[i]? = some x := fun i x hi hx => by
    rw [List.getElem?_set, if_neg (fun q => hi q.symm)] at hx; exact hx
  have nb : ∀ g, u'.ownBlock = some g → u.ownBlock = some g ∨ w1.heap.size ≤ g := fun g hg => by
    rcases K.blk with q | ⟨g', q, r, _⟩
    · exact Or.inl (by rw [← q]; exact hg)
    · rw [hg] at q; cases q; exact Or.inr r
  have hs := TA.size
  have okm : ∀ x ∈ G2 k, x.length = 32 := fun x hx => by
    rw [e1] at hx
    rcases List.mem_append.1 hx with q | q
    · exact h.lot.ok k u hu x q
    · simp at q; subst q; exact hm
  refine ⟨⟨fun i x hx => ?_, fun i x hx => ?_, fun i j x y g hx hy gx gy => ?_⟩, fun i v hv => ?_, h.head, h.low, fun i j v x g hij hv hx gv gx => ?_, fun i v x g hv hx gx => ?_, fun i => ?_⟩
  · by_cases q : i = k
    · subst q; rw [at1 x hx]; exact O
    · rw [e2 i q]
      exact ((h.lot.own i x (at2 i x q hx)).turn_no TA).turn K.turn (fun g r r2 => q (h.lot.apart i k x u g (at2 i x q hx) hu r r2))
  · by_cases q : i = k
    · subst q; exact okm
    · rw [e2 i q]; exact h.lot.ok i x (at2 i x q hx)
  · by_cases qi : i = k <;> by_cases qj : j = k
    · rw [qi, qj]
    · subst qi
      have ex := at1 x hx
      subst ex
      have hy' := at2 j y qj hy
      rcases nb g gx with r | r
      · exact h.lot.apart i j u y g hu hy' r gy
      · have := (h.lot.own j y hy').lt gy; omega
    · subst qj
      have ey := at1 y hy
      subst ey
      have hx' := at2 i x qi hx
      rcases nb g gy with r | r
      · exact h.lot.apart i j x u g hx' hu gx r
      · have := (h.lot.own i x hx').lt gx; omega
    · exact h.lot.apart i j x y g (at2 i x qi hx) (at2 j y qj hy) gx gy
  · have M := (h.ms i v hv).turn_no TA
    rcases hK with r | r
    · by_cases q : i = k
      · subst q
        obtain ⟨a, cap, ev, MA⟩ := M
        subst ev
        cases a with
        | none => exact ⟨none, cap, rfl, MA.turn K.turn (fun x hx => by cases hx)⟩
        | some a =>
          have ha := h.head i a _ cap hv
          by_cases qb : u.ownBlock = some a.block
          · obtain ⟨g, cap', eu, R⟩ := O.hd rfl (by rw [e1]; simp) okm
            have hg : g = a.block := by
              rw [eu] at r
              rw [qb] at r
              simpa [Value.ownBlock] using r
            refine ⟨some a, cap, rfl, MA.le, MA.cap, MA.ok, fun j y hy => ?_⟩
            have hp : (G2 i)[j]? = some y := by
              rw [e1]
              obtain ⟨t, ht⟩ := h.pre i
              rw [← ht, List.append_assoc, List.getElem?_append_left (List.getElem?_eq_some_iff.1 hy).1]
              exact hy
            obtain ⟨b2, o2, e2', c2⟩ := R.cells j y hp
            cases e2'
            rw [ha, ← hg]
            exact ⟨g, 0, rfl, c2⟩
          · exact ⟨some a, cap, rfl, MA.turn K.turn (fun x hx => by cases hx; exact qb)⟩
      · exact M.turn K.turn (fun g gv gu => h.cross i k v u g q hv hu gv gu)
    · exact M.turn_no r
  · by_cases qj : j = k
    · subst qj
      rw [at1 x hx] at gx
      rcases nb g gx with r | r
      · exact h.cross i j v u g hij hv hu gv r
      · have := h.low i v g hv gv; omega
    · exact h.cross i j v x g hij hv (at2 j x qj hx) gv gx
  · by_cases q : i = k
    · subst q
      rw [at1 x hx] at gx
      rcases nb g gx with r | r
      · exact h.blk i v u g hv hu r
      · exact Or.inr (by omega)
    · exact h.blk i v x g hv (at2 i x q hx) gx
  · by_cases q : i = k
    · subst q; rw [e1]; exact (h.pre i).trans (List.prefix_append _ _)
    · rw [e2 i q]; exact h.pre i
theorem Grown.begin {w : World} {B : Nat} {vs : List Value} {F : Nat → List Dg} (h : Lot w vs F) (hB : ∀ g, Lb vs g → g < B) : Grown B w vs vs F F :=
  ⟨h, fun k v hv => OwnN.hsAt (h.own k v hv) rfl (h.ok k v hv), fun k a n c hv => by
      rcases (h.own k _ hv).2 with ⟨e, _⟩ | ⟨g, cap, cur, e, _⟩
      · cases e
      · cases e; rfl, fun k v g hv q => hB g ⟨k, v, hv, q⟩, fun i j v u g hij hv hu gv gu => hij (h.apart i j v u g hv hu gv gu), fun k v u g hv hu q => by rw [hv] at hu; cases hu; exact Or.inl q, fun k => List.prefix_refl _⟩
end Go.Proofs.YtnibmkenbidnfaaDoor
