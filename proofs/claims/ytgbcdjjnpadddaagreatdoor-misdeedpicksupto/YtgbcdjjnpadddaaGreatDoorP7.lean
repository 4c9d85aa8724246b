/- A pool: what it holds, as a list; New, made, Len. -/
import Derived.Test.YtgbcdjjnpadddaaGreatDoorPb
import Derived.Test.YtgbcdjjnpadddaaGreatDoorSm
namespace Go.Proofs.YtgbcdjjnpadddaaGreatDoor
open Go.RowKit Go.Maps
set_option linter.unusedVariables false

/-- The pair of evidence. -/
def keyE (e : Vt × Vt) : Nat × Nat := (e.1.h.toNat, e.1.f.toNat)
def evV (e : Vt × Vt) : Value := .agg (evC e.1 e.2)
theorem keyE64 {e : Vt × Vt} (h : e.1.fits) : Off64 (keyE e) := ⟨by have := h.2.1; simp only [keyE]; omega, by have := h.2.2.2; simp only [keyE]; omega⟩
/-- The map reads as the list. -/
structure Plm (D : DataW Value) (L : List (Vt × Vt)) : Prop where
  tidy : Tidy D
  nd : (L.map keyE).Nodup
  fit : ∀ e ∈ L, e.1.fits ∧ e.2.fits
  has : ∀ x, Off64 x → (Maps.has D (offKey Tryz.prog x) = true ↔ x ∈ L.map keyE)
  at_ : ∀ e ∈ L, ∀ z, D.atKey (offKey Tryz.prog (keyE e)) z = .held (evV e)
  sz : Maps.size D = L.length
theorem Plm.new : Plm (.map []) [] := ⟨tidy_empty, List.nodup_nil, fun e h => by simp at h, fun x _ => by simp [Maps.has], fun e h => by simp at h, rfl⟩
set_option maxRecDepth 100000 in
theorem Plm.put {D : DataW Value} {L : List (Vt × Vt)} (h : Plm D L) (e : Vt × Vt) (h1 : e.1.fits) (h2 : e.2.fits) (hk : keyE e ∉ L.map keyE) : Plm (D.put (offKey Tryz.prog (keyE e)) (.held (evV e))) (L ++ [e]) := by
  have hK := offKey_key (keyE e) (keyE64 h1)
  have h0 : Maps.has D (offKey Tryz.prog (keyE e)) = false := by
    cases q : Maps.has D (offKey Tryz.prog (keyE e)) with
    | false => rfl
    | true => exact absurd ((h.has _ (keyE64 h1)).1 q) hk
  refine ⟨h.tidy.put hK _, ?_, fun x hx => ?_, fun x hx => ?_, fun x hx z => ?_, ?_⟩
  · rw [List.map_append, List.nodup_append]
    exact ⟨h.nd, by simp, fun a ha b hb => by
      simp at hb
      subst hb
      exact fun e' => hk (e' ▸ ha)⟩
  · rcases List.mem_append.1 hx with q | q
    · exact h.fit x q
    · simp at q
      subst q
      exact ⟨h1, h2⟩
  · by_cases q : x = keyE e
    · subst q
      rw [has_put_same h.tidy.isMap hK]
      simp
    · rw [has_put_other (fun r => q (offKey_inj hx (keyE64 h1) r)), h.has x hx]
      simp [q]
  · rcases List.mem_append.1 hx with q | q
    · have hne : keyE x ≠ keyE e := fun r => hk (r ▸ List.mem_map_of_mem q)
      rw [atKey_put_other (fun r => hne (offKey_inj (keyE64 (h.fit x q).1) (keyE64 h1) r)), h.at_ x q]
    · simp at q
      subst q
      rw [atKey_put_same h.tidy.isMap hK]
  · rw [size_put h.tidy, h0, h.sz]
    simp
theorem map_filter_key (L : List (Vt × Vt)) (x : Nat × Nat) : (L.filter fun e => decide (keyE e ≠ x)).map keyE = (L.map keyE).filter fun k => decide (k ≠ x) := by
  rw [List.filter_map]
  rfl
theorem nodup_strike : ∀ (K : List (Nat × Nat)) (x : Nat × Nat), K.Nodup → (K.filter fun k => decide (k ≠ x)).length + (if x ∈ K then 1 else 0) = K.length
  | [], x, _ => by simp
  | k :: r, x, h => by
    have hr := List.nodup_cons.1 h
    have ih := nodup_strike r x hr.2
    by_cases q : k = x
    · subst q
      have hn : k ∉ r := hr.1
      rw [if_neg hn] at ih
      simp only [List.filter_cons, ne_eq, not_true, decide_false, Bool.false_eq_true, if_false, List.mem_cons, true_or, if_true, List.length_cons]
      simp only [ne_eq] at ih
      omega
    · have e : (x ∈ k :: r) ↔ x ∈ r := by simp [Ne.symm q]
      simp only [List.filter_cons, ne_eq, q, not_false_iff, decide_true, if_true, List.length_cons]
      simp only [ne_eq] at ih
      by_cases m : x ∈ r
      · rw [if_pos (e.2 m)]
        rw [if_pos m] at ih
        omega
      · rw [if_neg (fun z => m (e.1 z))]
        rw [if_neg m] at ih
        omega
set_option maxRecDepth 100000 in
theorem Plm.del {D : DataW Value} {L : List (Vt × Vt)} (h : Plm D L) (x : Nat × Nat) (hx : Off64 x) : Plm (D.del (offKey Tryz.prog x)) (L.filter fun e => decide (keyE e ≠ x)) := by
  refine ⟨h.tidy.del _, ?_, fun e he => h.fit e (List.mem_filter.1 he).1, fun y hy => ?_, fun e he z => ?_, ?_⟩
  · rw [map_filter_key]
    exact h.nd.filter _
  · rw [map_filter_key, List.mem_filter]
    by_cases q : y = x
    · subst q
      rw [has_del_same]
      simp
    · rw [has_del_other (fun r => q (offKey_inj hy hx r)), h.has y hy]
      simp [q]
  · have he' := List.mem_filter.1 he
    have hne : keyE e ≠ x := by simpa using he'.2
    rw [atKey_del_other (fun r => hne (offKey_inj (keyE64 (h.fit e he'.1).1) hx r)), h.at_ e he'.1]
  · have s1 := size_del (k := offKey Tryz.prog x) h.tidy
    have s2 := nodup_strike (L.map keyE) x h.nd
    rw [← map_filter_key] at s2
    simp only [List.length_map] at s2
    rw [h.sz] at s1
    by_cases m : x ∈ L.map keyE
    · rw [if_pos m] at s2
      rw [if_pos ((h.has x hx).2 m)] at s1
      omega
    · rw [if_neg m] at s2
      rw [if_neg (fun q => m ((h.has x hx).1 q))] at s1
      omega
/-- A pool that New made, at p, its map at b. -/
structure Pl (w : World) (p b : Nat) (L : List (Vt × Vt)) : Prop where
  row : Row w p #[.pointer (some ⟨p, 0, none⟩), .map (some b)] 96
  map : ∃ D, w.ownsMap Tryz.prog 101 heldElem b L.length D ∧ Plm D L
theorem Pl.turn {S : Nat → Prop} {w w' : World} {p b : Nat} {L : List (Vt × Vt)} (h : Pl w p b L) (t : Turn S w w') (hp : ¬ S p) (hb : ¬ S b) : Pl w' p b L := by
  obtain ⟨D, hD, hm⟩ := h.map
  exact ⟨h.row.turn t hp, D, ownsMap_turn hD t hb, hm⟩
theorem Pl.turn_no {w w' : World} {p b : Nat} {L : List (Vt × Vt)} (h : Pl w p b L) (t : Turn no w w') : Pl w' p b L := h.turn t (fun q => q) (fun q => q)
theorem Pl.kp {br bt : Nat} {w w' : World} {p b : Nat} {L : List (Vt × Vt)} (h : Pl w p b L) (k : Kp br bt w w') (h1 : b ≠ br) (h2 : b ≠ bt) : Pl w' p b L := by
  obtain ⟨D, ⟨es, clock, hb, r⟩, hm⟩ := h.map
  exact ⟨k.1 _ _ _ h.row (by decide) (by decide) (by decide) (by decide), D, ⟨es, clock, k.2 _ _ _ hb h1 h2, r⟩, hm⟩
theorem Pl.ne {w : World} {p b : Nat} {L : List (Vt × Vt)} (h : Pl w p b L) : b ≠ p := by
  rintro rfl
  obtain ⟨D, ⟨es, clock, hb, _⟩, _⟩ := h.map
  have hr : w.heap[b]? = _ := h.row
  rw [hb] at hr
  cases hr
set_option maxRecDepth 100000 in
theorem new7p (w : World) : Calls Tryz.prog 7 #[] w fun e w' => ∃ p b, e = .returned (.pointer (some ⟨p, 0, none⟩)) ∧ w.heap.size ≤ p ∧ w.heap.size ≤ b ∧ Pl w' p b [] ∧ Turn no w w' := by
  have m1 := fun W => run_makeMap (P := Tryz.prog) 94 W
  go_enter Tryz.func7, Tryz.ntmps7
  go_wp2_with fail
  go_ret
  refine ⟨w.heap.size + 1, w.heap.size, rfl, by omega, by omega, ⟨Row.newAt _ _ _ _ (by simp), .map [], ?_, Plm.new⟩, ((Turn.refl no w).alloc _).alloc _⟩
  exact (World.ownsMap_made w Tryz.prog 101 heldElem).alloc _
theorem Pl.c0 {w : World} {p b : Nat} {L : List (Vt × Vt)} (h : Pl w p b L) : w.cell? ⟨p, 0, none⟩ = some (.pointer (some ⟨p, 0, none⟩)) := h.row.cell 0 _ rfl
theorem Pl.c1 {w : World} {p b : Nat} {L : List (Vt × Vt)} (h : Pl w p b L) : w.cell? ⟨p, 1, none⟩ = some (.map (some b)) := h.row.cell 1 _ rfl
set_option maxRecDepth 100000 in
theorem len11 (w : World) (p b : Nat) (L : List (Vt × Vt)) (h : Pl w p b L) : Calls Tryz.prog 11 #[.pointer (some ⟨p, 0, none⟩)] w fun e w' => e = .returned (.int .i64 L.length) ∧ w' = w := by
  obtain ⟨D, hD, hm⟩ := h.map
  have hl : (Builtin.len_ #[94] 3 #[.map (some b)]).run Tryz.prog w = .ok (.int .i64 L.length) w := by
    rw [← hm.sz]
    exact hD.len Tryz.underlying94 3
  have h0 := h.c0
  have h1 := h.c1
  clear hD hm h
  obtain ⟨n, hn⟩ : ∃ n, Hid (L.length = n) := ⟨_, rfl⟩
  rw [show L.length = n from hn.out] at hl ⊢
  go_enter Tryz.func11, Tryz.ntmps11
  go_wp2_with fail
  refine (made14 w p h0).mono ?_
  rintro e w' ⟨rfl, rfl⟩
  go_wp2_with fail
  go_ret
  exact ⟨rfl, rfl⟩
end Go.Proofs.YtgbcdjjnpadddaaGreatDoor
