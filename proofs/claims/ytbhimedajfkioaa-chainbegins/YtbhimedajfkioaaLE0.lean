/- P8.16, plain; members in memory. -/
import Derived.Test.YtbhimedajfkioaaLD4

namespace Go.Proofs.Ytbhimedajfkioaa
open Go.RowKit
set_option linter.unusedVariables false

def Asc (l : List Ac) : Prop := l.Pairwise (fun x y => x.ad < y.ad)
theorem scanA_asc : ∀ (l : List Ac) (p : Nat), scanA p l = 0 → Asc l ∧ ∀ m ∈ l, p < m.ad
  | [], _, _ => ⟨List.Pairwise.nil, fun m h => by cases h⟩
  | x :: r, p, h => by
    unfold scanA at h
    split at h
    · cases h
    · split at h
      · cases h
      · split at h
        · cases h
        · obtain ⟨h1, h2⟩ := scanA_asc r _ h
          refine ⟨List.Pairwise.cons h2 h1, fun m hm => ?_⟩
          rcases List.mem_cons.1 hm with rfl | hm
          · omega
          · have := h2 m hm
            omega
theorem Asc.inj {l : List Ac} (h : Asc l) : ∀ x ∈ l, ∀ y ∈ l, x.ad = y.ad → x = y := by
  induction h with
  | nil => intro x hx; cases hx
  | cons h1 h2 ih =>
    intro x hx y hy e
    rcases List.mem_cons.1 hx with hx1 | hx1 <;> rcases List.mem_cons.1 hy with hy1 | hy1
    · rw [hx1, hy1]
    · have := h1 y hy1; rw [← hx1] at this; omega
    · have := h1 x hx1; rw [← hy1] at this; omega
    · exact ih x hx1 y hy1 e
theorem Asc.nodup {l : List Ac} (h : Asc l) : l.Nodup := List.Pairwise.imp (fun {a b} hab e => by subst e; exact Nat.lt_irrefl _ hab) h
theorem Asc.at {l : List Ac} (h : Asc l) {i j : Nat} {x y : Ac} (hij : i < j) (hx : l[i]? = some x) (hy : l[j]? = some y) : x.ad < y.ad := by
  obtain ⟨hi, rfl⟩ := List.getElem?_eq_some_iff.1 hx
  obtain ⟨hj, rfl⟩ := List.getElem?_eq_some_iff.1 hy
  exact List.pairwise_iff_getElem.1 h i j hi hj hij
/-- P8.16 of the seats. -/
structure Seated (l L : List Ac) (mb : Nat) (st : Int) : Prop where
  asc : Asc L
  good : ∀ y ∈ L, y ∈ l ∧ y.jail = false ∧ mb ≤ y.bond ∧ 0 < y.bond
  few : L.length ≤ 64
  some : 0 < L.length → (L.length : Int) ≤ st
  out : ∀ x ∈ l, x.jail = false → mb ≤ x.bond → 0 < x.bond → (∀ y ∈ L, y.ad ≠ x.ad) → (64 ≤ L.length ∨ st ≤ L.length) ∧ ∀ y ∈ L, ¬ (y.bond < x.bond ∨ (x.bond = y.bond ∧ x.ad < y.ad))
theorem seated_of {l q : List Ac} {mb : Nat} {st : Int} (hasc : Asc l) (hq : q.Perm (rivL (max mb 1) l)) (hs : BySort q) : Seated l (l.filter (sitB (q.take (cnt st q.length)))) mb st := by
  have hc := cnt_le st q.length
  have hqm : ∀ x, x ∈ q ↔ x ∈ l ∧ x.jail = false ∧ mb ≤ x.bond ∧ 0 < x.bond := fun x => by
    rw [hq.mem_iff]
    simp only [rivL, List.mem_filter, rivB, Bool.and_eq_true, Bool.not_eq_true', decide_eq_true_eq]
    have e : max mb 1 ≤ x.bond ↔ (mb ≤ x.bond ∧ 0 < x.bond) := by omega
    rw [e]
  have hqn : q.Nodup := hq.symm.nodup (List.Nodup.sublist List.filter_sublist hasc.nodup)
  have hmem : ∀ y, y ∈ l.filter (sitB (q.take (cnt st q.length))) ↔ y ∈ q.take (cnt st q.length) := fun y => by
    rw [List.mem_filter]
    constructor
    · rintro ⟨hy, h⟩
      unfold sitB at h
      obtain ⟨x, hx, hxy⟩ := List.any_eq_true.1 h
      have e : x.ad = y.ad := by simpa using hxy
      have : x = y := hasc.inj x ((hqm x).1 (List.mem_of_mem_take hx)).1 y hy e
      rw [← this]
      exact hx
    · intro h
      exact ⟨((hqm y).1 (List.mem_of_mem_take h)).1, List.any_eq_true.2 ⟨y, h, by simp⟩⟩
  have hlen : (l.filter (sitB (q.take (cnt st q.length)))).length = cnt st q.length := by
    have h1 : (l.filter (sitB (q.take (cnt st q.length)))).Perm (q.take (cnt st q.length)) :=
      (List.perm_ext_iff_of_nodup (List.Nodup.sublist List.filter_sublist hasc.nodup) (List.Nodup.sublist (List.take_sublist _ _) hqn)).2 hmem
    rw [h1.length_eq, List.length_take]
    omega
  refine ⟨List.Pairwise.filter _ hasc, fun y hy => (hqm y).1 (List.mem_of_mem_take ((hmem y).1 hy)), ?_, ?_, ?_⟩
  · rw [hlen]; unfold cnt; omega
  · rw [hlen]; unfold cnt; omega
  · intro x hx hj hb h0 hno
    have hxq : x ∈ q := (hqm x).2 ⟨hx, hj, hb, h0⟩
    obtain ⟨j, hj', hxj⟩ := List.getElem_of_mem hxq
    have hjc : cnt st q.length ≤ j := by
      rcases Nat.lt_or_ge j (cnt st q.length) with h | h
      · have : x ∈ q.take (cnt st q.length) := by
          rw [← hxj]
          exact List.mem_take_iff_getElem.2 ⟨j, by omega, rfl⟩
        exact absurd rfl (hno x ((hmem x).2 this))
      · exact h
    refine ⟨?_, fun y hy hlt => ?_⟩
    · rw [hlen]
      unfold cnt at hjc ⊢
      omega
    · obtain ⟨i, hi, hyi⟩ := List.mem_take_iff_getElem.1 ((hmem y).1 hy)
      have := hs i j y x (by omega) (by rw [← hyi]; exact List.getElem?_eq_getElem _) (by rw [← hxj]; exact List.getElem?_eq_getElem _)
      unfold bondL at this
      simp only [decide_eq_false_iff_not] at this
      exact this hlt
/-- Where an address lies first. -/
theorem Asc.first {l : List Ac} (h : Asc l) {y : Ac} (hy : y ∈ l) : ∃ j : Nat, l[j]? = some y ∧ ∀ (i : Nat) (n : Ac), i < j → l[i]? = some n → n.ad ≠ y.ad := by
  obtain ⟨j, hj, hyj⟩ := List.getElem_of_mem hy
  refine ⟨j, by rw [List.getElem?_eq_getElem hj, hyj], fun i n hi hn => ?_⟩
  have := h.at hi hn (by rw [List.getElem?_eq_getElem hj, hyj])
  omega

theorem meC_at : ∀ (l : List Ac) (j : Nat) (m : Ac), l[j]? = some m → ∀ i, i < 3 → (meC l)[j * 3 + i]? = [Value.int .u64 m.ad, .int .u64 m.bond, .int .i64 0][i]?
  | x :: r, 0, m, h, i, hi => by
    simp at h
    subst h
    rw [meC, List.flatMap_cons, Nat.zero_mul, Nat.zero_add, List.getElem?_append_left (by simpa using hi)]
  | x :: r, j + 1, m, h, i, hi => by
    rw [meC, List.flatMap_cons, List.getElem?_append_right (by simp; omega)]
    have := meC_at r j m (by simpa using h) i hi
    rw [meC] at this
    rw [← this]
    congr 1
    simp
    omega
/-- Members in memory: who sits. -/
theorem mem_cells {w : World} {a : Option Addr} {n cap : Nat} {l : List Ac} (h : OwnN w 71 3 (.slice a n cap) l.length (meC l)) : ∀ j m, l[j]? = some m → ∃ b, a = some ⟨b, 0, none⟩ ∧ w.cell? ⟨b, j * 3, none⟩ = some (.int .u64 m.ad) ∧ w.cell? ⟨b, j * 3 + 1, none⟩ = some (.int .u64 m.bond) ∧ w.cell? ⟨b, j * 3 + 2, none⟩ = some (.int .i64 0) := by
  intro j m hj
  have hjl := (List.getElem?_eq_some_iff.1 hj).1
  rcases h.2 with ⟨_, q⟩ | ⟨g, cap', cur, e, _⟩
  · omega
  · cases e
    have hc : ∀ i u, (meC l)[i]? = some u → w.cell? ⟨g, i, none⟩ = some u := fun i u hu => by
      have := World.ownsRow.cells h (g := g) rfl i u hu
      simpa [Addr.add_lit] using this
    have hx := meC_at l j m hj
    refine ⟨g, rfl, ?_, ?_, ?_⟩
    · exact hc _ _ (by have := hx 0 (by omega); simpa using this)
    · exact hc _ _ (by have := hx 1 (by omega); simpa using this)
    · exact hc _ _ (by have := hx 2 (by omega); simpa using this)
end Go.Proofs.Ytbhimedajfkioaa
