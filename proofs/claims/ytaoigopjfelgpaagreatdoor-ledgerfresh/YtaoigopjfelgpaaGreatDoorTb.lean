/- Texts in one. -/
import Derived.Test.YtaoigopjfelgpaaGreatDoorTa
import Derived.Test.YtaoigopjfelgpaaGreatDoorP15
import Derived.Deep.MidRow
/- Three ledgers as a list; the list of six. -/
namespace Go.Proofs.YtaoigopjfelgpaaGreatDoor
open Go.RowKit
set_option linter.unusedVariables false

theorem info30l : (Tryz.prog.info? 30).map (fun i => (i.zero, i.size, i.bytes)) = some (some (.agg #[.slice none 0 0, .slice none 0 0, .int .u64 0, .int .u64 0]), 4, 64) := by kernel_rfl
/-- A ledger's cells. -/
def ldC (v : Value) (b s : Nat) : List Value := [v, .slice none 0 0, .int .u64 b, .int .u64 s]
theorem bsl3 (w : World) (a0 a1 a2 : Option Addr) (n0 n1 n2 c0 c1 c2 b0 b1 b2 s0 s1 s2 : Nat) :
    (Instr.buildSlice 34 3 #[(0, ldV (.slice a0 n0 c0) b0 s0), (1, ldV (.slice a1 n1 c1) b1 s1), (2, ldV (.slice a2 n2 c2) b2 s2)]).run Tryz.prog w = .ok (.slice (some ⟨w.heap.size, 0, none⟩) 3 3) (w.alloc (.cells (ldC (.slice a0 n0 c0) b0 s0 ++ ldC (.slice a1 n1 c1) b1 s1 ++ ldC (.slice a2 n2 c2) b2 s2).toArray 30)) := by kernel_rfl
theorem src_led {W : World} {u : List Value} (hu : u.length = 12) (h1 : ∀ x ∈ u, x.oneCell' = true) : Src Tryz.prog 4 34 (.slice (some ⟨W.heap.size, 0, none⟩) 3 3) 3 u (W.alloc (.cells u.toArray 30)) :=
  Src.ofSlice _ Tryz.underlying34 _ 3 3 _ (by simp [hu]) (fun j x hx => by
    rw [Addr.add_lit, Nat.zero_add]
    exact (cell_of_row _ _ j _ 30 (0, 0) (heap_alloc_new W _)).trans (by simpa using hx)) h1
/-- Three more ledgers in new memory. -/
theorem ld_app {w W : World} {v : Value} {n : Nat} {xs : List Value} (T : Turn no w W) (O : OwnN W 30 4 v n xs) (f : ∀ g, v.ownBlock = some g → w.heap.size ≤ g) (hn : n ≤ 8) {u : List Value} (hu : u.length = 12) (h1 : ∀ x ∈ u, x.oneCell' = true) :
    ∃ v2 w2, (Builtin.append_ #[34, 34] 34 #[v, .slice (some ⟨W.heap.size, 0, none⟩) 3 3]).run Tryz.prog (W.alloc (.cells u.toArray 30)) = .ok v2 w2 ∧ OwnN w2 30 4 v2 (n + 3) (xs ++ u) ∧ Turn no w w2 ∧ ∃ g2 c2, v2 = .slice (some ⟨g2, 0, none⟩) (n + 3) c2 ∧ n + 3 ≤ c2 ∧ w.heap.size ≤ g2 := by
  have TX : Turn no W (W.alloc (.cells u.toArray 30)) := (Turn.refl no W).alloc _
  obtain ⟨v2, w2, hr, O2, G2⟩ := run_append_srcN (P := Tryz.prog) Tryz.underlying34 info30l rfl (by decide) 34 _ v n xs (O.turn_no TX) (.slice (some ⟨W.heap.size, 0, none⟩) 3 3) 3 u (src_led hu h1) (by omega) (by simp only [maxLen]; omega)
  have T2 := T.then_no TX
  have hf := G2.fresh (B := w.heap.size) f (by have := T2.size; omega)
  refine ⟨v2, w2, hr, O2, T2.trans G2.turn (fun k hk q => by have := f k q; omega), ?_⟩
  rcases O2.2 with ⟨_, q⟩ | ⟨g2, c2, cur, e2, _, _, h2, _⟩
  · omega
  · subst e2
    exact ⟨g2, c2, rfl, h2, hf g2 rfl⟩
end Go.Proofs.YtaoigopjfelgpaaGreatDoor

/- Lists of accounts that lie apart. -/
namespace Go.Proofs.YtaoigopjfelgpaaGreatDoor
open Go.RowKit
set_option linter.unusedVariables false

/-- Lists of accounts, each in a block of its own. -/
structure Lot (w : World) (vs : List Value) (ns : Nat → Nat) (xs : Nat → List Value) : Prop where
  own : ∀ (i : Nat) v, vs[i]? = some v → OwnN w 50 5 v (ns i) (xs i)
  off : ∀ (i j : Nat) u v, vs[i]? = some u → vs[j]? = some v → i ≠ j → ∀ g, u.ownBlock = some g → v.ownBlock ≠ some g
theorem Lot.nil (w : World) (ns : Nat → Nat) (xs : Nat → List Value) : Lot w [] ns xs := ⟨fun i v h => by simp at h, fun i j u v h => by simp at h⟩
theorem Lot.turn {S : Nat → Prop} {w w' : World} {vs : List Value} {ns : Nat → Nat} {xs : Nat → List Value} (h : Lot w vs ns xs) (t : Turn S w w') (hS : ∀ v ∈ vs, ∀ g, v.ownBlock = some g → ¬ S g) : Lot w' vs ns xs :=
  ⟨fun i v hv => (h.own i v hv).turn t (fun g hg => hS v (List.mem_of_getElem? hv) g hg), h.off⟩
theorem Lot.turn_no {w w' : World} {vs : List Value} {ns : Nat → Nat} {xs : Nat → List Value} (h : Lot w vs ns xs) (t : Turn no w w') : Lot w' vs ns xs := h.turn t (fun _ _ _ _ q => q)
/-- One more, in a block that none of them has. -/
theorem Lot.push {w : World} {vs : List Value} {ns : Nat → Nat} {xs : Nat → List Value} (h : Lot w vs ns xs) {u : Value} (O : OwnN w 50 5 u (ns vs.length) (xs vs.length)) (hu : ∀ v ∈ vs, ∀ g, v.ownBlock = some g → u.ownBlock ≠ some g) : Lot w (vs ++ [u]) ns xs := by
  have key : ∀ (i : Nat) v, (vs ++ [u])[i]? = some v → vs[i]? = some v ∨ (i = vs.length ∧ v = u) := fun i v hv => by
    rcases Nat.lt_trichotomy i vs.length with q | q | q
    · rw [List.getElem?_append_left q] at hv; exact Or.inl hv
    · subst q; simp at hv; exact Or.inr ⟨rfl, hv.symm⟩
    · rw [List.getElem?_eq_none (by simp; omega)] at hv; cases hv
  refine ⟨fun i v hv => ?_, fun i j a b ha hb hij g hg => ?_⟩
  · rcases key i v hv with q | ⟨rfl, rfl⟩
    · exact h.own i v q
    · exact O
  · rcases key i a ha with q | ⟨rfl, rfl⟩
    · rcases key j b hb with q' | ⟨rfl, rfl⟩
      · exact h.off i j a b q q' hij g hg
      · exact hu a (List.mem_of_getElem? q) g hg
    · rcases key j b hb with q' | ⟨rfl, rfl⟩
      · intro e
        exact hu b (List.mem_of_getElem? q') g e hg
      · exact absurd rfl hij
/-- One of them written over, or grown: it stays in its block or lies in a new one. -/
theorem Lot.put {w w' : World} {vs : List Value} {ns : Nat → Nat} {xs : Nat → List Value} (h : Lot w vs ns xs) {k n : Nat} {v u : Value} {ys : List Value} (hv : vs[k]? = some v) (t : Turn (fun g => v.ownBlock = some g) w w') (O : OwnN w' 50 5 u n ys) (hu : ∀ g, u.ownBlock = some g → v.ownBlock = some g ∨ w.heap.size ≤ g) : Lot w' (vs.set k u) (fun j => if j = k then n else ns j) (fun j => if j = k then ys else xs j) := by
  have key : ∀ (i : Nat) a, (vs.set k u)[i]? = some a → (i = k ∧ a = u) ∨ (i ≠ k ∧ vs[i]? = some a) := fun i a ha => by
    by_cases q : i = k
    · subst q
      rw [List.getElem?_set_self (List.getElem?_eq_some_iff.1 hv).1] at ha
      exact Or.inl ⟨rfl, (Option.some.inj ha).symm⟩
    · rw [List.getElem?_set_ne (fun e => q e.symm)] at ha
      exact Or.inr ⟨q, ha⟩
  have away : ∀ (i : Nat) a, i ≠ k → vs[i]? = some a → ∀ g, u.ownBlock = some g → a.ownBlock ≠ some g := fun i a hi ha g hg e => by
    rcases hu g hg with q | q
    · exact h.off i k a v ha hv hi g e q
    · have := (h.own i a ha).lt e
      omega
  refine ⟨fun i a ha => ?_, fun i j a b ha hb hij g hg => ?_⟩
  · rcases key i a ha with ⟨rfl, rfl⟩ | ⟨q, q'⟩
    · simpa using O
    · simp only [if_neg q]
      exact (h.own i a q').turn t (fun g hg e => h.off i k a v q' hv q g hg e)
  · rcases key i a ha with ⟨rfl, rfl⟩ | ⟨q, q'⟩
    · rcases key j b hb with ⟨rfl, rfl⟩ | ⟨p, p'⟩
      · exact absurd rfl hij
      · exact away j b p p' g hg
    · rcases key j b hb with ⟨rfl, rfl⟩ | ⟨p, p'⟩
      · intro e
        exact away i a q q' g e hg
      · exact h.off i j a b q' p' hij g hg
end Go.Proofs.YtaoigopjfelgpaaGreatDoor

/- An account stored amid its list. -/
namespace Go.Proofs.YtaoigopjfelgpaaGreatDoor
open Go.RowKit
set_option linter.unusedVariables false

/-- Values laid over a list's from a place on. -/
def setL : List Value → Nat → List Value → List Value
  | xs, _, [] => xs
  | xs, o, v :: vs => setL (xs.set o v) (o + 1) vs
theorem setL_len : ∀ (vs xs : List Value) (o : Nat), (setL xs o vs).length = xs.length
  | [], xs, o => rfl
  | v :: vs, xs, o => by rw [setL, setL_len vs, List.length_set]
theorem OwnN.setCells {e : TypeId} {sz g n c : Nat} : ∀ (vs : List Value) {w : World} {xs : List Value} (h : OwnN w e sz (.slice (some ⟨g, 0, none⟩) n c) n xs) (o : Nat), o + vs.length ≤ xs.length → OwnN (w.setCells g o vs) e sz (.slice (some ⟨g, 0, none⟩) n c) n (setL xs o vs)
  | [], w, xs, h, o, _ => h
  | v :: vs, w, xs, h, o, hb => OwnN.setCells vs (OwnN.setCell h o v (by simp at hb; omega)) (o + 1) (by simp at hb; rw [List.length_set]; omega)
theorem setL_acC (l : List Ac) : ∀ (k : Nat) (m : Ac), k < l.length → setL (acC l) (k * 5) (acs m) = acC (l.set k m) := by
  induction l with
  | nil => intro k m h; simp at h
  | cons x r ih =>
    intro k m hk
    cases k with
    | zero => simp [acC, setL, acs, List.set]
    | succ k =>
      have h := ih k m (by simpa using hk)
      rw [List.set_cons_succ]
      simp only [acC, List.flatMap_cons, acs, setL] at h ⊢
      rw [← h]
      have e : ∀ i, (k + 1) * 5 + i = 5 + (k * 5 + i) := fun i => by omega
      simp [show (k + 1) * 5 = k * 5 + 1 + 1 + 1 + 1 + 1 from by omega, List.set]
end Go.Proofs.YtaoigopjfelgpaaGreatDoor

/- Lists of accounts that each own their memory: written, appended to. -/
namespace Go.Proofs.YtaoigopjfelgpaaGreatDoor
open Go.RowKit
set_option linter.unusedVariables false

theorem OwnN.at0 {w : World} {v : Value} {l : List Ac} (h : OwnN w 50 5 v l.length (acC l)) (hne : l ≠ []) (hok : ∀ m ∈ l, m.ok) : ∃ g cap, v = .slice (some ⟨g, 0, none⟩) l.length cap ∧ AsAt w (some ⟨g, 0, none⟩) cap l := by
  obtain ⟨a, cap, e, M⟩ := h.as hok
  subst e
  rcases h.2 with ⟨_, q⟩ | ⟨g, cap', cur, e', _⟩
  · exact absurd (List.eq_nil_of_length_eq_zero q) hne
  · cases e'
    exact ⟨g, cap, rfl, M⟩
theorem OwnN.cellAt {w : World} {e : TypeId} {sz g n c : Nat} {xs : List Value} (h : OwnN w e sz (.slice (some ⟨g, 0, none⟩) n c) n xs) (j : Nat) (u : Value) (hu : xs[j]? = some u) : w.cell? ⟨g, j, none⟩ = some u := by
  have := World.ownsRow.cells h (g := g) rfl j u hu
  simpa [Addr.add_lit] using this
theorem OwnN.thawed {w : World} {e : TypeId} {sz g n c : Nat} {xs : List Value} (h : OwnN w e sz (.slice (some ⟨g, 0, none⟩) n c) n xs) (o : Nat) : w.frozen? ⟨g, o, none⟩ = false := by
  rcases h.2 with ⟨e', _⟩ | ⟨g', cap', cur, e', _, ho, _⟩
  · cases e'
  · cases e'
    exact frozen_of_row w g o _ e ho
/-- The account that is written at place p of list i. -/
def mkA (b i p : Nat) : Ac := ⟨b + i, 0, p, 0, false⟩
/-- List i, its first j members written over. -/
def overTo (i j : Nat) (l : List Ac) : List Ac := (List.range j).map (mkA 10000 i) ++ l.drop j
theorem overTo_len (i j : Nat) (l : List Ac) (h : j ≤ l.length) : (overTo i j l).length = l.length := by simp [overTo]; omega
theorem overTo_zero (i : Nat) (l : List Ac) : overTo i 0 l = l := by simp [overTo]
theorem overTo_succ (i j : Nat) (l : List Ac) (h : j < l.length) : (overTo i j l).set j (mkA 10000 i j) = overTo i (j + 1) l := by
  unfold overTo
  rw [List.set_append_right _ _ (by simp), List.range_succ, List.drop_eq_getElem_cons h]
  simp only [List.length_map, List.length_range, Nat.sub_self, List.set_cons_zero, List.map_append, List.map_cons, List.map_nil, List.append_assoc, List.cons_append, List.nil_append]
theorem overTo_ok (i j : Nat) (l : List Ac) (hi : i ≤ 1000) (hj : j ≤ 1000000) (h : ∀ m ∈ l, m.ok) : ∀ m ∈ overTo i j l, m.ok := fun m hm => by
  rcases List.mem_append.1 hm with q | q
  · obtain ⟨p, hp, rfl⟩ := List.mem_map.1 q
    have := List.mem_range.1 hp
    exact ⟨by simp only [mkA]; omega, by simp [mkA], by simp only [mkA]; omega, by simp [mkA]⟩
  · exact h m (List.mem_of_mem_drop q)
/-- The lists while list k is being written, j of its members done. -/
def stA (L : Nat → List Ac) (k j i : Nat) : List Ac := overTo i (if i < k then (L i).length else if i = k then j else 0) (L i)
theorem stA_len (L : Nat → List Ac) (k j i : Nat) (h : j ≤ (L k).length) : (stA L k j i).length = (L i).length := by
  unfold stA
  apply overTo_len
  split
  · exact Nat.le_refl _
  · split
    · next q => subst q; exact h
    · omega
theorem stA_zero (L : Nat → List Ac) : stA L 0 0 = L := by
  funext i
  unfold stA
  rw [if_neg (by omega)]
  split <;> exact overTo_zero _ _
theorem stA_next (L : Nat → List Ac) (k : Nat) : stA L k (L k).length = stA L (k + 1) 0 := by
  funext i
  unfold stA
  congr 1
  split
  · rw [if_pos (by omega)]
  · split
    · next q => subst q; rw [if_pos (by omega)]
    · rw [if_neg (by omega)]; simp
theorem stA_self (L : Nat → List Ac) (k j : Nat) : stA L k j k = overTo k j (L k) := by simp [stA]
theorem stA_other (L : Nat → List Ac) (k j j' i : Nat) (h : i ≠ k) : stA L k j i = stA L k j' i := by simp [stA, h]
/-- The lists when all are written. -/
def full (L : Nat → List Ac) (i : Nat) : List Ac := overTo i (L i).length (L i)
theorem full_eq (l : List Ac) (i : Nat) : overTo i l.length l = (List.range l.length).map (mkA 10000 i) := by simp [overTo]
/-- The lists with what is appended: r rounds done, and k lists of the next. -/
def ap (L : Nat → List Ac) (r k i : Nat) : List Ac := full L i ++ (List.range (if i < k then r + 1 else r)).map (mkA 20000 i)
theorem ap_zero (L : Nat → List Ac) : ap L 0 0 = full L := by funext i; simp [ap]
theorem ap_next (L : Nat → List Ac) (r k i : Nat) (h : i < k) : ap L r k i = ap L (r + 1) 0 i := by simp [ap, h]
theorem ap_self (L : Nat → List Ac) (r k : Nat) : ap L r (k + 1) k = ap L r k k ++ [mkA 20000 k r] := by simp [ap, List.range_succ]
theorem ap_other (L : Nat → List Ac) (r k i : Nat) (h : i ≠ k) : ap L r (k + 1) i = ap L r k i := by
  unfold ap
  have : (i < k + 1) = (i < k) := by apply propext; omega
  simp only [this]

/-- Lists that each own their memory, no two the same. -/
structure Lx (w : World) (vs : List Value) (L : Nat → List Ac) : Prop where
  own : ∀ k v, vs[k]? = some v → OwnN w 50 5 v (L k).length (acC (L k))
  ok : ∀ k v, vs[k]? = some v → ∀ m ∈ L k, m.ok
  apart : ∀ (i j : Nat) (v u : Value) (g : Nat), vs[i]? = some v → vs[j]? = some u → v.ownBlock = some g → u.ownBlock = some g → i = j
/-- Their blocks. -/
def Lb (vs : List Value) : Nat → Prop := fun g => ∃ (k : Nat) (v : Value), vs[k]? = some v ∧ v.ownBlock = some g

theorem Lx.turn_no {w w' : World} {vs : List Value} {L : Nat → List Ac} (h : Lx w vs L) (t : Turn no w w') : Lx w' vs L :=
  ⟨fun k v hv => (h.own k v hv).turn_no t, h.ok, h.apart⟩
theorem Lx.turn {S : Nat → Prop} {w w' : World} {vs : List Value} {L : Nat → List Ac} (h : Lx w vs L) (t : Turn S w w') (hn : ∀ g, Lb vs g → ¬ S g) : Lx w' vs L :=
  ⟨fun k v hv => (h.own k v hv).turn t (fun g q => hn g ⟨k, v, hv, q⟩), h.ok, h.apart⟩
/-- A row of values of another type is none of them. -/
theorem Lx.away {w : World} {vs : List Value} {L : Nat → List Ac} (h : Lx w vs L) {e : TypeId} {sz n : Nat} {v0 : Value} {xs : List Value} (O : OwnN w e sz v0 n xs) (he : e ≠ 50) : ∀ g, v0.ownBlock = some g → ¬ Lb vs g := by
  rintro g hg ⟨k, v, hv, hb⟩
  rcases O.2 with ⟨rfl, _⟩ | ⟨g', cap', cur', rfl, _, ho, _⟩
  · cases hg
  · cases hg
    rcases (h.own k v hv).2 with ⟨rfl, _⟩ | ⟨g2, cap2, cur2, rfl, _, ho2, _⟩
    · cases hb
    · cases hb
      rw [ho] at ho2
      cases ho2
      exact he rfl
/-- One list, written. -/
theorem Lx.upd {w w' : World} {vs : List Value} {L L' : Nat → List Ac} (h : Lx w vs L) (k : Nat) (v : Value) (hv : vs[k]? = some v) (t : Turn (fun g => v.ownBlock = some g) w w')
    (ho : OwnN w' 50 5 v (L' k).length (acC (L' k))) (hok : ∀ m ∈ L' k, m.ok) (hL : ∀ i, i ≠ k → L' i = L i) : Lx w' vs L' :=
  ⟨fun i u hu => by
    by_cases q : i = k
    · subst q; rw [hv] at hu; cases hu; exact ho
    · rw [hL i q]
      exact (h.own i u hu).turn t (fun g hg hs => q (h.apart i k u v g hu hv hg hs)),
   fun i u hu => by
    by_cases q : i = k
    · subst q; exact hok
    · rw [hL i q]; exact h.ok i u hu,
   h.apart⟩
section
variable {P : Program}

theorem run_append_srcK {t tx e : TypeId} {z : Value} {size bytes : Nat} (ht : P.underlying t = some (.slice e)) (hinf : (P.info? e).map (fun i => (i.zero, i.size, i.bytes)) = some (some z, size, bytes)) (hz : z.cells.size = size) (hsz : 0 < size)
    (ty : TypeId) (w : World) (v : Value) (n : Nat) (xs : List Value) (hown : OwnN w e size v n xs) (x : Value) (m : Nat) (news : List Value) (hs : Src P size tx x m news w) (hb : (n + m) * bytes ≤ 140737488355328) (hm : n + m ≤ maxLen) :
    ∃ v' w', (Builtin.append_ #[t, tx] ty #[v, x]).run P w = .ok v' w' ∧ OwnN w' e size v' (n + m) (xs ++ news) ∧ Grew w w' v v' ∧ (v'.ownBlock = v.ownBlock ∨ Turn no w w') := by
  obtain ⟨i, hi, hz0, hz1, hz2⟩ := info_parts hinf
  have hnl : news.length = m * size := hs.newsLen
  have hxl : xs.length = n * size := hown.1
  have h63 : n + m ≤ 9223372036854775807 := by simp only [maxLen] at hm; omega
  have hlen : (xs ++ news).length = (n + m) * size := by rw [List.length_append, hxl, hnl, Nat.add_mul]
  have grow : ∀ (base : Option Addr) (sCap : Nat), v = .slice base n sCap → (Builtin.firstCells size n (.slice base n sCap)).run P w.drew = .ok xs.toArray w.drew → sCap < n + m →
      ∃ v' w', (Builtin.append_ #[t, tx] ty #[v, x]).run P w = .ok v' w' ∧ OwnN w' e size v' (n + m) (xs ++ news) ∧ Grew w w' v v' ∧ (v'.ownBlock = v.ownBlock ∨ Turn no w w') := by
    intro base sCap hv hold hlt
    have hr := run_append_grow_src (P := P) w t tx ty e i z ht hi hz0 base n sCap xs (by rw [hz1]; exact hold) x m news (by rw [hz1]; exact hs) hlt (by omega) (growslice_fits hlt (by rw [hz2]; exact hb))
    have hge := grownCap_ge w (n + m) sCap e
    have hcm := grownCap_le_maxLen w (n + m) sCap e hm
    rw [hv]
    refine ⟨_, _, hr, ?_, ⟨⟨rfl, rfl, rfl, by simp, fun k hk _ => Below.heap_alloc w.drew _ k hk⟩, .inr ⟨w.heap.size, rfl, Nat.le_refl _, by simp⟩⟩, .inr ⟨rfl, rfl, rfl, by simp, fun k hk _ => Below.heap_alloc w.drew _ k hk⟩⟩
    refine ⟨hlen, .inr ⟨w.heap.size, _, _, rfl, Nat.zero_le _, heap_alloc_new w.drew _, hge, hcm, ?_, ?_⟩⟩
    · simp only [Array.size_append, List.size_toArray, size_zeroCells, hz, hlen, ← Nat.add_mul]
      congr 1
      omega
    · simp only [Array.toList_append]
      rw [← hlen]
      exact List.take_left
  rcases hown.2 with ⟨rfl, rfl⟩ | ⟨g, cap, cur, rfl, _, hg, h1, h2, h3, h4⟩
  · have hx : xs = [] := List.eq_nil_of_length_eq_zero (by simpa using hxl)
    subst hx
    by_cases hn : m = 0
    · subst hn
      have hnn : news = [] := List.eq_nil_of_length_eq_zero (by simpa using hnl)
      subst hnn
      refine ⟨.slice none 0 0, w, ?_, OwnN.nil w e size, ⟨⟨rfl, rfl, rfl, Nat.le_refl _, fun _ _ _ => rfl⟩, .inl rfl⟩, .inl rfl⟩
      have hc := hs.cells
      rcases hs.kind with ⟨e', hk⟩ | hk <;> simp [Builtin.append_, run_underlying ht, run_underlying hk, sizeOf, typeInfo, hi, hz1, hs.len, hc]
    · exact grow none 0 rfl (by simp [Builtin.firstCells]) (by omega)
  · by_cases hroom : n + m ≤ cap
    · have hfit : n * size + news.length ≤ cur.size := by rw [hnl, h3, ← Nat.add_mul]; exact Nat.mul_le_mul_right _ hroom
      have hst := run_storeCells_at P g (n * size) e news 0 cur w hg (by simpa using hfit) hs.one
      have hr : (Builtin.append_ #[t, tx] ty #[.slice (some ⟨g, 0, none⟩) n cap, x]).run P w = .ok (.slice (some ⟨g, 0, none⟩) (n + m) cap) (w.setRow g (cur.toList.take (n * size) ++ news ++ cur.toList.drop (n * size + news.length)).toArray) := by
        have hc := hs.cells
        simp only [Nat.add_zero] at hst
        rcases hs.kind with ⟨e', hk⟩ | hk <;> simp [Builtin.append_, run_underlying ht, run_underlying hk, sizeOf, typeInfo, hi, hz1, hs.len, hroom, hc, Addr.add_lit, hst]
      refine ⟨_, _, hr, ⟨hlen, .inr ⟨g, cap, _, rfl, Nat.zero_le _, setRow_heap w g cur _ e _ hg, hroom, h2, ?_, ?_⟩⟩, ⟨⟨rfl, rfl, rfl, by simp, fun k _ hk => setRow_other w g k _ (fun q => hk (by simp [Value.ownBlock, q]))⟩, .inl rfl⟩, .inl rfl⟩
      · simp only [List.size_toArray, List.length_append, List.length_take, List.length_drop, Array.length_toList]
        omega
      · rw [h4, ← hlen]
        exact List.take_left
    · refine grow (some ⟨g, 0, none⟩) cap rfl ?_ (by omega)
      exact run_firstCells_some w.drew size n ⟨g, 0, none⟩ n cap xs hxl (fun j u hu => by
        have := World.ownsRow.cells hown (g := g) rfl j u hu
        simpa using this)

theorem wpList_append_srcK {ops : Array Oper} {rest : List Oper} {o : Oper} {a : Act} {w : World} {Q : Exit → Act → World → Prop} (hgd : o.guard = none) (s x : Operand) {t tx e : TypeId} {z : Value} {size bytes : Nat}
    (ho : o.op = .call { callee := .builtin .append, args := #[s, x], argTypes := #[t, tx] })
    (ht : P.underlying t = some (.slice e)) (hinf : (P.info? e).map (fun i => (i.zero, i.size, i.bytes)) = some (some z, size, bytes)) (hz : z.cells.size = size) (hsz : 0 < size)
    (v : Value) (k : Nat) (xs : List Value) (hs : a.eval s = v) (hown : OwnN w e size v k xs) (xv : Value) (n : Nat) (news : List Value) (hx : a.eval x = xv) (hsrc : Src P size tx xv n news w)
    (hb : (k + n) * bytes ≤ 140737488355328) (hm : k + n ≤ maxLen)
    (h : ∀ v' w', OwnN w' e size v' (k + n) (xs ++ news) → Grew w w' v v' → (v'.ownBlock = v.ownBlock ∨ Turn no w w') → wpList P ops Q rest (a.put o.dst v') w') : wpList P ops Q (o :: rest) a w :=
  wpList_plain hgd fun K hK => by
    obtain ⟨v', w', hr, h2, h3, h4⟩ := run_append_srcK (P := P) ht hinf hz hsz o.type w v k xs hown xv n news hsrc hb hm
    unfold Oper.wp execOp
    simp only [ho, resolve, invoke, builtin, Sem.run_bind, Sem.run_pure, Result.andThen_ok, List.map_toArray, List.map_cons, List.map_nil, hs, hx, hr]
    exact hK _ _ (h v' w' h2 h3 h4)
end

/-- Lists us beside the lists vs that they grew out of: vs still read as F, us are owned and read as G. -/
structure Grown (B : Nat) (w : World) (vs us : List Value) (F G : Nat → List Ac) : Prop where
  lot : Lx w us G
  ms : ∀ (k : Nat) (v : Value), vs[k]? = some v → As w v (F k)
  head : ∀ (k : Nat) (a : Addr) (n c : Nat), vs[k]? = some (.slice (some a) n c) → a = ⟨a.block, 0, none⟩
  low : ∀ (k : Nat) (v : Value) (g : Nat), vs[k]? = some v → v.ownBlock = some g → g < B
  cross : ∀ (i j : Nat) (v u : Value) (g : Nat), i ≠ j → vs[i]? = some v → us[j]? = some u → v.ownBlock = some g → u.ownBlock = some g → False
  blk : ∀ (k : Nat) (v u : Value) (g : Nat), vs[k]? = some v → us[k]? = some u → u.ownBlock = some g → v.ownBlock = some g ∨ B ≤ g
  pre : ∀ k, F k <+: G k

theorem As.turnS {S : Nat → Prop} {w w' : World} {v : Value} {l : List Ac} (h : As w v l) (t : Turn S w w') (hn : ∀ g, v.ownBlock = some g → ¬ S g) : As w' v l := by
  obtain ⟨a, cap, e, M⟩ := h
  refine ⟨a, cap, e, M.turn t (fun x hx => hn _ ?_)⟩
  rw [e, hx]
  rfl
theorem Grown.turn {S : Nat → Prop} {B : Nat} {w w' : World} {vs us : List Value} {F G : Nat → List Ac} (h : Grown B w vs us F G) (t : Turn S w w') (h1 : ∀ g, Lb us g → ¬ S g) (h2 : ∀ g, Lb vs g → ¬ S g) : Grown B w' vs us F G :=
  ⟨h.lot.turn t h1, fun k v hv => (h.ms k v hv).turnS t (fun g q => h2 g ⟨k, v, hv, q⟩), h.head, h.low, h.cross, h.blk, h.pre⟩
theorem Grown.step {B : Nat} {w w1 w2 : World} {vs us : List Value} {F G G2 : Nat → List Ac} (h : Grown B w vs us F G) (k : Nat) (u u' : Value) (hu : us[k]? = some u) (TA : Turn no w w1) (K : Grew w1 w2 u u')
    (hK : u'.ownBlock = u.ownBlock ∨ Turn no w1 w2) (m : Ac) (hm : m.ok) (O : OwnN w2 50 5 u' (G2 k).length (acC (G2 k))) (e1 : G2 k = G k ++ [m]) (e2 : ∀ i, i ≠ k → G2 i = G i) (hB : B ≤ w.heap.size) : Grown B w2 vs (us.set k u') F G2 := by
  have hkl : k < us.length := (List.getElem?_eq_some_iff.1 hu).1
  have at1 : ∀ x, (us.set k u')[k]? = some x → x = u' := fun x hx => by
    rw [List.getElem?_set, if_pos rfl, if_pos hkl] at hx; cases hx; rfl
  have at2 : ∀ i x, i ≠ k → (us.set k u')[i]? = some x → us[i]? = some x := fun i x hi hx => by
    rw [List.getElem?_set, if_neg (fun q => hi q.symm)] at hx; exact hx
  have nb : ∀ g, u'.ownBlock = some g → u.ownBlock = some g ∨ w1.heap.size ≤ g := fun g hg => by
    rcases K.blk with q | ⟨g', q, r, _⟩
    · exact Or.inl (by rw [← q]; exact hg)
    · rw [hg] at q; cases q; exact Or.inr r
  have hs := TA.size
  have okm : ∀ x ∈ G2 k, x.ok := fun x hx => by
    rw [e1] at hx
    rcases List.mem_append.1 hx with q | q
    · exact h.lot.ok k u hu x q
    · simp at q; subst q; exact hm
  refine ⟨⟨fun i x hx => ?_, fun i x hx => ?_, fun i j x y g hx hy gx gy => ?_⟩, fun i v hv => ?_, h.head, h.low, fun i j v x g hij hv hx gv gx => ?_, fun i v x g hv hx gx => ?_, fun i => ?_⟩
  · by_cases q : i = k
    · subst q; rw [at1 x hx]; exact O
    · rw [e2 i q]
      exact ((h.lot.own i x (at2 i x q hx)).turn_no TA).turn K.turn (fun g r r2 => q (h.lot.apart i k x u g (at2 i x q hx) hu r r2))
  · by_cases q : i = k
    · subst q; exact okm
    · rw [e2 i q]; exact h.lot.ok i x (at2 i x q hx)
  · by_cases qi : i = k <;> by_cases qj : j = k
    · rw [qi, qj]
    · subst qi
      have ex := at1 x hx
      subst ex
      have hy' := at2 j y qj hy
      rcases nb g gx with r | r
      · exact h.lot.apart i j u y g hu hy' r gy
      · have := (h.lot.own j y hy').lt gy; omega
    · subst qj
      have ey := at1 y hy
      subst ey
      have hx' := at2 i x qi hx
      rcases nb g gy with r | r
      · exact h.lot.apart i j x u g hx' hu gx r
      · have := (h.lot.own i x hx').lt gx; omega
    · exact h.lot.apart i j x y g (at2 i x qi hx) (at2 j y qj hy) gx gy
  · have M := (h.ms i v hv).turn_no TA
    rcases hK with r | r
    · by_cases q : i = k
      · subst q
        obtain ⟨a, cap, ev, MA⟩ := M
        subst ev
        cases a with
        | none => exact ⟨none, cap, rfl, MA.turn K.turn (fun x hx => by cases hx)⟩
        | some a =>
          have ha := h.head i a _ cap hv
          by_cases qb : u.ownBlock = some a.block
          · obtain ⟨g, cap', eu, R⟩ := O.at0 (by rw [e1]; simp) okm
            have hg : g = a.block := by
              rw [eu] at r
              rw [qb] at r
              simpa [Value.ownBlock] using r
            refine ⟨some a, cap, rfl, MA.le, MA.cap, MA.ok, fun j y hy => ?_⟩
            have hp : (G2 i)[j]? = some y := by
              rw [e1]
              obtain ⟨t, ht⟩ := h.pre i
              rw [← ht, List.append_assoc, List.getElem?_append_left (List.getElem?_eq_some_iff.1 hy).1]
              exact hy
            rw [ha, ← hg]
            exact R.cells j y hp
          · exact ⟨some a, cap, rfl, MA.turn K.turn (fun x hx => by cases hx; exact qb)⟩
      · exact M.turnS K.turn (fun g gv gu => h.cross i k v u g q hv hu gv gu)
    · exact M.turn_no r
  · by_cases qj : j = k
    · subst qj
      rw [at1 x hx] at gx
      rcases nb g gx with r | r
      · exact h.cross i j v u g hij hv hu gv r
      · have := h.low i v g hv gv; omega
    · exact h.cross i j v x g hij hv (at2 j x qj hx) gv gx
  · by_cases q : i = k
    · subst q
      rw [at1 x hx] at gx
      rcases nb g gx with r | r
      · exact h.blk i v u g hv hu r
      · exact Or.inr (by omega)
    · exact h.blk i v x g hv (at2 i x q hx) gx
  · by_cases q : i = k
    · subst q; rw [e1]; exact (h.pre i).trans (List.prefix_append _ _)
    · rw [e2 i q]; exact h.pre i
theorem Grown.begin {w : World} {B : Nat} {vs : List Value} {F : Nat → List Ac} (h : Lx w vs F) (hB : ∀ g, Lb vs g → g < B) : Grown B w vs vs F F :=
  ⟨h, fun k v hv => (h.own k v hv).as (h.ok k v hv), fun k a n c hv => by
      rcases (h.own k _ hv).2 with ⟨e, _⟩ | ⟨g, cap, cur, e, _⟩
      · cases e
      · cases e; rfl, fun k v g hv q => hB g ⟨k, v, hv, q⟩, fun i j v u g hij hv hu gv gu => hij (h.apart i j v u g hv hu gv gu), fun k v u g hv hu q => by rw [hv] at hu; cases hu; exact Or.inl q, fun k => List.prefix_refl _⟩
end Go.Proofs.YtaoigopjfelgpaaGreatDoor

/- Lists of ledgers that grow by three. -/
namespace Go.Proofs.YtaoigopjfelgpaaGreatDoor
open Go.RowKit
set_option linter.unusedVariables false

/-- What Punish makes of a ledger, plain. -/
def Pnl (l : List Ac) (b s x sl : Nat) (L : List Ac) (b1 s1 : Nat) : Prop :=
  ((¬ sl ≤ 1000 ∨ hasB l x = false) ∧ L = [] ∧ b1 = 0 ∧ s1 = 0) ∨ (sl ≤ 1000 ∧ hasB l x = true ∧ ∃ (c : Nat) (m : Ac), l[c]? = some m ∧ m.ad = x ∧ L = l.set c (punA m sl) ∧ b1 = b + lostN m.bond sl ∧ s1 = s)
theorem PunO.pn {w : World} {B : Nat} {V : Value} {l : List Ac} {b s x sl : Nat} (h : PunO w B V l b s x sl) : ∃ L b1 s1, Pnl l b s x sl L b1 s1 ∧ LdO w B V L b1 s1 := by
  rcases h with ⟨h1, h2⟩ | ⟨h1, h2, c, m, h3, h4, h5⟩
  · exact ⟨_, _, _, Or.inl ⟨h1, rfl, rfl, rfl⟩, h2⟩
  · exact ⟨_, _, _, Or.inr ⟨h1, h2, c, m, h3, h4, rfl, rfl, rfl⟩, h5⟩
theorem Pnl.one {l : List Ac} {b s x sl : Nat} {L L' : List Ac} {b1 s1 b2 s2 : Nat} (hA : Asc l) (h : Pnl l b s x sl L b1 s1) (h' : Pnl l b s x sl L' b2 s2) : L = L' ∧ b1 = b2 ∧ s1 = s2 := by
  rcases h with ⟨h1, rfl, rfl, rfl⟩ | ⟨h1, h2, c, m, h3, h4, rfl, rfl, rfl⟩
  · rcases h' with ⟨k1, rfl, rfl, rfl⟩ | ⟨k1, k2, _⟩
    · exact ⟨rfl, rfl, rfl⟩
    · rcases h1 with h1 | h1
      · exact absurd k1 h1
      · rw [k2] at h1; cases h1
  · rcases h' with ⟨k1, _⟩ | ⟨k1, k2, c', m', k3, k4, rfl, rfl, rfl⟩
    · rcases k1 with k1 | k1
      · exact absurd h1 k1
      · rw [h2] at k1; cases k1
    · have e : c = c' := by
        rcases Nat.lt_trichotomy c c' with q | q | q
        · have := hA.at q h3 k3; omega
        · exact q
        · have := hA.at q k3 h3; omega
      subst e
      have e : m = m' := by rw [h3] at k3; exact Option.some.inj k3
      subst e
      exact ⟨rfl, rfl, rfl⟩
theorem Pnl.ok {l : List Ac} {b s x sl : Nat} {L : List Ac} {b1 s1 : Nat} (h : Pnl l b s x sl L b1 s1) (hok : ∀ m ∈ l, m.ok) : (∀ m ∈ L, m.ok) ∧ L.length ≤ l.length := by
  rcases h with ⟨_, rfl, _⟩ | ⟨h1, h2, c, m, h3, h4, rfl, _⟩
  · exact ⟨(fun m hm => by cases hm), by simp⟩
  · refine ⟨fun q hq => ?_, by simp⟩
    rcases List.mem_or_eq_of_mem_set hq with r | rfl
    · exact hok q r
    · obtain ⟨o1, o2, o3, o4⟩ := hok m (List.mem_of_getElem? h3)
      exact ⟨o1, o2, by simp only [punA]; omega, o4⟩
/-- What is written of a ledger: its list, what was burnt, its supply. -/
abbrev Lr3 := List Ac × Nat × Nat
/-- A list of ledgers, each of which owns its list. -/
structure Lr (B : Nat) (W : World) (u : Value) (R : List Lr3) (vs xs : List Value) : Prop where
  o : OwnN W 30 4 u R.length xs
  f : ∀ g, u.ownBlock = some g → B ≤ g
  lv : vs.length = R.length
  x : ∀ (k : Nat) v r, vs[k]? = some v → R[k]? = some r → ∀ i c, (ldC v r.2.1 r.2.2)[i]? = some c → xs[k * 4 + i]? = some c
  own : ∀ (k : Nat) v r, vs[k]? = some v → R[k]? = some r → OwnN W 50 5 v r.1.length (acC r.1)
/-- No two of them share memory. -/
def Ap (vs : List Value) : Prop := ∀ (i j : Nat) (v u : Value) (g : Nat), vs[i]? = some v → vs[j]? = some u → v.ownBlock = some g → u.ownBlock = some g → i = j
theorem Ap.nil : Ap [] := fun i j v u g h => by simp at h
theorem Ap.push {vs : List Value} (h : Ap vs) {v0 : Value} (h0 : ∀ g, Lb vs g → ¬ v0.ownBlock = some g) : Ap (vs ++ [v0]) := by
  have key : ∀ (i : Nat) v, (vs ++ [v0])[i]? = some v → vs[i]? = some v ∨ (i = vs.length ∧ v = v0) := fun i v hv => by
    rcases Nat.lt_trichotomy i vs.length with q | q | q
    · rw [List.getElem?_append_left q] at hv; exact Or.inl hv
    · subst q; simp at hv; exact Or.inr ⟨rfl, hv.symm⟩
    · rw [List.getElem?_eq_none (by simp; omega)] at hv; cases hv
  intro i j v u g hv hu hg hg'
  rcases key i v hv with q | ⟨rfl, rfl⟩
  · rcases key j u hu with q' | ⟨rfl, rfl⟩
    · exact h i j v u g q q' hg hg'
    · exact absurd hg' (h0 g ⟨i, v, q, hg⟩)
  · rcases key j u hu with q' | ⟨rfl, rfl⟩
    · exact absurd hg (h0 g ⟨j, u, q', hg'⟩)
    · rfl
theorem lb_snoc {vs : List Value} {v0 : Value} {g : Nat} (h : Lb (vs ++ [v0]) g) : Lb vs g ∨ v0.ownBlock = some g := by
  obtain ⟨k, v, hv, hg⟩ := h
  rcases Nat.lt_trichotomy k vs.length with q | q | q
  · rw [List.getElem?_append_left q] at hv; exact Or.inl ⟨k, v, hv, hg⟩
  · subst q; simp at hv; subst hv; exact Or.inr hg
  · rw [List.getElem?_eq_none (by simp; omega)] at hv; cases hv
theorem lb_nil {g : Nat} : ¬ Lb [] g := fun ⟨k, v, hv, _⟩ => by simp at hv
section
variable {B : Nat} {W W' : World} {u : Value} {R : List Lr3} {vs xs : List Value}
theorem Lr.nil (B : Nat) (W : World) : Lr B W (.slice none 0 0) [] [] [] := ⟨OwnN.nil W 30 4, fun g q => (by cases q), rfl, fun k v r h => by simp at h, fun k v r h => by simp at h⟩
theorem Lr.turn {S : Nat → Prop} (h : Lr B W u R vs xs) (t : Turn S W W') (hu : ∀ g, u.ownBlock = some g → ¬ S g) (hv : ∀ g, Lb vs g → ¬ S g) : Lr B W' u R vs xs :=
  ⟨h.o.turn t hu, h.f, h.lv, h.x, fun k v r q p => (h.own k v r q p).turn t (fun g hg => hv g ⟨k, v, q, hg⟩)⟩
theorem Lr.turn_no (h : Lr B W u R vs xs) (t : Turn no W W') : Lr B W' u R vs xs := h.turn t (fun _ _ q => q) (fun _ _ q => q)
theorem Lr.get (h : Lr B W u R vs xs) {k : Nat} {v : Value} (hv : vs[k]? = some v) : ∃ r, R[k]? = some r := by
  have := (List.getElem?_eq_some_iff.1 hv).1
  exact ⟨R[k]'(by rw [← h.lv]; exact this), List.getElem?_eq_getElem _⟩
theorem Lr.lt (h : Lr B W u R vs xs) {g : Nat} (hg : Lb vs g) : g < W.heap.size := by
  obtain ⟨k, v, hv, q⟩ := hg
  obtain ⟨r, hr⟩ := h.get hv
  exact (h.own k v r hv hr).lt q
/-- A list of ledgers lies in none of its lists' blocks. -/
theorem Lr.away (h : Lr B W u R vs xs) {e : TypeId} {sz n : Nat} {v0 : Value} {ys : List Value} (O : OwnN W e sz v0 n ys) (he : e ≠ 50) : ∀ g, Lb vs g → ¬ v0.ownBlock = some g := by
  rintro g ⟨k, v, hv, hg⟩ hq
  obtain ⟨r, hr⟩ := h.get hv
  rcases O.2 with ⟨rfl, _⟩ | ⟨g', cap', cur', rfl, _, ho, _⟩
  · cases hq
  · cases hq
    rcases (h.own k v r hv hr).2 with ⟨rfl, _⟩ | ⟨g2, cap2, cur2, rfl, _, ho2, _⟩
    · cases hg
    · cases hg
      rw [ho] at ho2
      cases ho2
      exact he rfl
theorem Lr.lx (h : Lr B W u R vs xs) (a : Ap vs) (hok : ∀ r ∈ R, ∀ m ∈ r.1, m.ok) : Lx W vs (fun k => (R.getD k ([], 0, 0)).1) := by
  refine ⟨fun k v hv => ?_, fun k v hv => ?_, a⟩
  · obtain ⟨r, hr⟩ := h.get hv
    simp only [List.getD_eq_getElem?_getD, hr, Option.getD_some]
    exact h.own k v r hv hr
  · obtain ⟨r, hr⟩ := h.get hv
    simp only [List.getD_eq_getElem?_getD, hr, Option.getD_some]
    exact hok r (List.mem_of_getElem? hr)
/-- Three ledgers more. -/
theorem Lr.push (h : Lr B W u R vs xs) (hB : B ≤ W.heap.size) (hn : R.length ≤ 4) {v0 v1 v2 : Value} {r0 r1 r2 : Lr3} (o0 : OwnN W 50 5 v0 r0.1.length (acC r0.1)) (o1 : OwnN W 50 5 v1 r1.1.length (acC r1.1)) (o2 : OwnN W 50 5 v2 r2.1.length (acC r2.1)) :
    ∃ u2 w2, (Builtin.append_ #[34, 34] 34 #[u, .slice (some ⟨W.heap.size, 0, none⟩) 3 3]).run Tryz.prog (W.alloc (.cells (ldC v0 r0.2.1 r0.2.2 ++ ldC v1 r1.2.1 r1.2.2 ++ ldC v2 r2.2.1 r2.2.2).toArray 30)) = .ok u2 w2 ∧ Lr B w2 u2 (R ++ [r0, r1, r2]) (vs ++ [v0, v1, v2]) (xs ++ (ldC v0 r0.2.1 r0.2.2 ++ ldC v1 r1.2.1 r1.2.2 ++ ldC v2 r2.2.1 r2.2.2)) ∧ Turn (fun q => u.ownBlock = some q) W w2 ∧ (∀ g, u2.ownBlock = some g → u.ownBlock = some g ∨ W.heap.size < g) ∧ ∃ g2 c2, u2 = .slice (some ⟨g2, 0, none⟩) (R.length + 3) c2 := by
  obtain ⟨U, hU⟩ : ∃ U, ldC v0 r0.2.1 r0.2.2 ++ ldC v1 r1.2.1 r1.2.2 ++ ldC v2 r2.2.1 r2.2.2 = U := ⟨_, rfl⟩
  have hu : U.length = 12 := by rw [← hU]; simp [ldC]
  have s0 : ∀ {e : TypeId} {sz n : Nat} {v : Value} {ys : List Value}, OwnN W e sz v n ys → v.oneCell' = true := fun q => by
    obtain ⟨a, c, rfl, _⟩ := q.form
    rfl
  have h1 : ∀ x ∈ U, x.oneCell' = true := by
    rw [← hU]
    intro x hx
    simp only [ldC, List.mem_append, List.mem_cons, List.not_mem_nil, or_false] at hx
    rcases hx with ((rfl | rfl | rfl | rfl) | (rfl | rfl | rfl | rfl)) | (rfl | rfl | rfl | rfl) <;> first | rfl | exact s0 o0 | exact s0 o1 | exact s0 o2
  have hx0 : ∀ i c, (ldC v0 r0.2.1 r0.2.2)[i]? = some c → U[i]? = some c := fun i c q => by
    have := (List.getElem?_eq_some_iff.1 q).1
    rw [← hU, List.append_assoc, List.getElem?_append_left this]; exact q
  have hx1 : ∀ i c, (ldC v1 r1.2.1 r1.2.2)[i]? = some c → U[4 + i]? = some c := fun i c q => by
    have : i < 4 := by simpa [ldC] using (List.getElem?_eq_some_iff.1 q).1
    rw [← hU, List.append_assoc, List.getElem?_append_right (by simp [ldC]), List.getElem?_append_left (by simp [ldC]; omega)]
    simpa [ldC] using q
  have hx2 : ∀ i c, (ldC v2 r2.2.1 r2.2.2)[i]? = some c → U[8 + i]? = some c := fun i c q => by
    rw [← hU, List.getElem?_append_right (by simp [ldC]), show 8 + i - (ldC v0 r0.2.1 r0.2.2 ++ ldC v1 r1.2.1 r1.2.2).length = i by simp [ldC]]
    exact q
  rw [hU]
  clear hU
  have TX : Turn no W (W.alloc (.cells U.toArray 30)) := (Turn.refl no W).alloc _
  obtain ⟨v3, w2, hr, O2, G2⟩ := run_append_srcN (P := Tryz.prog) Tryz.underlying34 info30l rfl (by decide) 34 _ u R.length xs (h.o.turn_no TX) (.slice (some ⟨W.heap.size, 0, none⟩) 3 3) 3 U (src_led hu h1) (by omega) (by simp only [maxLen]; omega)
  have hxl : xs.length = R.length * 4 := h.o.1
  have hTX := TX.size
  have hlt : W.heap.size < (W.alloc (.cells U.toArray 30)).heap.size := by simp
  have HH := h.turn_no TX
  have aw := HH.away HH.o (by decide)
  refine ⟨v3, w2, hr, ⟨by simpa using O2, G2.fresh h.f (by omega), by simp [h.lv], fun k v r hv hr2 i c hc => ?_, fun k v r hv hr2 => ?_⟩, TX.of_no.trans G2.turn (fun _ _ q => q), fun g hg => ?_, ?_⟩
  · by_cases q : k < vs.length
    · rw [List.getElem?_append_left q] at hv
      rw [List.getElem?_append_left (by rw [← h.lv]; exact q)] at hr2
      have := h.x k v r hv hr2 i c hc
      rw [List.getElem?_append_left (List.getElem?_eq_some_iff.1 this).1]
      exact this
    · rw [List.getElem?_append_right (by omega)] at hv
      rw [List.getElem?_append_right (by rw [← h.lv]; omega), ← h.lv] at hr2
      obtain ⟨d, hd⟩ : ∃ d, d = k - vs.length := ⟨_, rfl⟩
      rw [← hd] at hv hr2
      rw [List.getElem?_append_right (by rw [hxl, ← h.lv]; omega), show k * 4 + i - xs.length = d * 4 + i by rw [hxl, ← h.lv]; omega]
      match d, hv, hr2 with
      | 0, hv, hr2 => simp at hv hr2; subst hv; subst hr2; simpa using hx0 i c hc
      | 1, hv, hr2 => simp at hv hr2; subst hv; subst hr2; simpa using hx1 i c hc
      | 2, hv, hr2 => simp at hv hr2; subst hv; subst hr2; simpa using hx2 i c hc
      | d + 3, hv, hr2 => simp at hv
  · have tt : Turn (fun q => u.ownBlock = some q) W w2 := TX.of_no.trans G2.turn (fun _ _ q => q)
    by_cases q : k < vs.length
    · rw [List.getElem?_append_left q] at hv
      rw [List.getElem?_append_left (by rw [← h.lv]; exact q)] at hr2
      exact (HH.own k v r hv hr2).turn G2.turn (fun g q1 q2 => aw g ⟨k, v, hv, q1⟩ q2)
    · rw [List.getElem?_append_right (by omega)] at hv
      rw [List.getElem?_append_right (by rw [← h.lv]; omega), ← h.lv] at hr2
      have ne : ∀ {v : Value} {r : Lr3}, OwnN W 50 5 v r.1.length (acC r.1) → OwnN w2 50 5 v r.1.length (acC r.1) := fun o => o.turn tt (fun g q1 q2 => by
        rcases h.o.2 with ⟨rfl, _⟩ | ⟨g', cap', cur', rfl, _, ho, _⟩
        · cases q2
        · cases q2
          rcases o.2 with ⟨rfl, _⟩ | ⟨g3, cap3, cur3, rfl, _, ho3, _⟩
          · cases q1
          · cases q1
            rw [ho] at ho3
            cases ho3)
      obtain ⟨d, hd⟩ : ∃ d, d = k - vs.length := ⟨_, rfl⟩
      rw [← hd] at hv hr2
      match d, hv, hr2 with
      | 0, hv, hr2 => simp at hv hr2; subst hv; subst hr2; exact ne o0
      | 1, hv, hr2 => simp at hv hr2; subst hv; subst hr2; exact ne o1
      | 2, hv, hr2 => simp at hv hr2; subst hv; subst hr2; exact ne o2
      | d + 3, hv, hr2 => simp at hv
  · rcases G2.blk with q | ⟨g', q, r, _⟩
    · exact Or.inl (by rw [← q]; exact hg)
    · rw [hg] at q; cases q; exact Or.inr (by omega)
  · rcases O2.2 with ⟨_, q⟩ | ⟨g2, c2, cur, e2, _⟩
    · omega
    · exact ⟨g2, c2, e2⟩
end
theorem bsl3' (w : World) {W : World} {v0 v1 v2 : Value} {n0 n1 n2 : Nat} {x0 x1 x2 : List Value} (o0 : OwnN W 50 5 v0 n0 x0) (o1 : OwnN W 50 5 v1 n1 x1) (o2 : OwnN W 50 5 v2 n2 x2) (b0 b1 b2 s0 s1 s2 : Nat) :
    (Instr.buildSlice 34 3 #[(0, .agg (ldC v0 b0 s0).toArray), (1, .agg (ldC v1 b1 s1).toArray), (2, .agg (ldC v2 b2 s2).toArray)]).run Tryz.prog w = .ok (.slice (some ⟨w.heap.size, 0, none⟩) 3 3) (w.alloc (.cells (ldC v0 b0 s0 ++ ldC v1 b1 s1 ++ ldC v2 b2 s2).toArray 30)) := by
  obtain ⟨a0, c0, rfl, _⟩ := o0.form
  obtain ⟨a1, c1, rfl, _⟩ := o1.form
  obtain ⟨a2, c2, rfl, _⟩ := o2.form
  exact bsl3 w a0 a1 a2 n0 n1 n2 c0 c1 c2 b0 b1 b2 s0 s1 s2
theorem wpList_bslice3 {P : Program} {ops : Array Oper} {rest : List Oper} {op : Oper} {a : Act} {w : World} {Q : Exit → Act → World → Prop} (hgd : op.guard = none) (t : TypeId) (x y z : Operand) (ho : op.op = .buildSlice t 3 #[(0, x), (1, y), (2, z)]) (u0 u1 u2 : Value) (h0 : a.eval x = u0) (h1 : a.eval y = u1) (h2 : a.eval z = u2) {r : Value} {w' : World}
    (hr : (Instr.buildSlice t 3 #[(0, u0), (1, u1), (2, u2)]).run P w = .ok r w') (h : wpList P ops Q rest (a.put op.dst r) w') : wpList P ops Q (op :: rest) a w :=
  wpList_plain hgd fun K hK => by
    unfold Oper.wp execOp
    simp only [ho, Sem.run_bind, List.map_toArray, List.map_cons, List.map_nil, h0, h1, h2, hr, Result.andThen_ok, Sem.run_pure]
    exact hK _ _ h
end Go.Proofs.YtaoigopjfelgpaaGreatDoor
