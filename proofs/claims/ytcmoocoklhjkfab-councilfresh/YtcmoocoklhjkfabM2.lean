/- Renew twice; acts, read. -/
import Derived.Test.YtcmoocoklhjkfabM1
import Derived.Test.YtcmoocoklhjkfabOpen
namespace Go.Proofs.Ytcmoocoklhjkfab
open Go.ChangeShapes Go.WideShapes Go.ChangeAt Go.RowKit Go.Joins Go.Deep
set_option linter.unusedVariables false

theorem idx_at (a : List Mb) (hr : Rising a) (i : Nat) (x : Mb) (hx : a[i]? = some x) : idxE a x.ad = i :=
  idx_hit a x.ad i x (fun y hy => by
    obtain ⟨j, hj⟩ := List.getElem?_of_mem hy
    have hji : j < i := by have := (List.getElem?_eq_some_iff.1 hj).1; simp at this; omega
    rw [List.getElem?_take, if_pos hji] at hj
    have := hr j i y x hji hj hx
    omega) hx rfl
theorem took_self (a l : List Mb) (t : Nat) (hk : keys a = keys l) (hr : Rising a) : l.map (tkM a t) = a := by
  apply List.ext_getElem?
  intro i
  rw [List.getElem?_map]
  cases hi : l[i]? with
  | none =>
    have : a.length ≤ i := by
      rw [keys_len hk]
      rcases Nat.lt_or_ge i l.length with q | q
      · rw [List.getElem?_eq_getElem q] at hi; cases hi
      · exact q
    rw [List.getElem?_eq_none this]
    rfl
  | some m =>
    obtain ⟨x, hx, e1, e2⟩ := keys_get hk.symm i m hi
    rw [hx]
    have h1 := idx_at a hr i x hx
    rw [e1] at h1
    simp only [Option.map_some, tkM, pri_some a t m.ad i x h1 hx]
    congr 1
    obtain ⟨xa, xp, xr⟩ := x
    simp only at e1 e2
    rw [e1, e2]
theorem sumP_sub (l : List Mb) (a : Int) : sumP (l.map (subM a)) = sumP l - l.length * a := by
  induction l with
  | nil => simp [sumP]
  | cons m r ih =>
    simp only [List.map_cons, sumP, ih, subM, List.length_cons, Int.natCast_add, Int.add_mul]
    omega
theorem cent_sum (l : List Mb) (h : 0 < l.length) : 0 ≤ sumP (cent l) ∧ sumP (cent l) < l.length := by
  have hp : (0 : Int) < (l.length : Int) := by omega
  unfold cent
  rw [sumP_sub]
  have h1 := Int.mul_ediv_add_emod (sumP l) l.length
  have h2 := Int.emod_nonneg (sumP l) (show (l.length : Int) ≠ 0 by omega)
  have h3 := Int.emod_lt_of_pos (sumP l) hp
  omega
theorem renew_sum (c l : List Mb) (hl : weighE l = 0) : 0 ≤ sumP (renewL c l) ∧ sumP (renewL c l) < l.length := by
  have hn := (weigh_ok l hl).1
  have := cent_sum (narr (2 * tot l) (l.map (tkM c (tot l)))) (by rw [narr_len, List.length_map]; omega)
  rw [narr_len, List.length_map] at this
  exact this
theorem renew_apart (c l : List Mb) (hl : weighE l = 0) : ∀ x ∈ renewL c l, ∀ y ∈ renewL c l, x.pr - y.pr ≤ 2 * tot l := by
  intro x hx y hy
  unfold renewL cent at hx hy
  obtain ⟨X, hX, rfl⟩ := List.mem_map.1 hx
  obtain ⟨Y, hY, rfl⟩ := List.mem_map.1 hy
  have hp := tot_pos l hl
  have := narr_near (2 * tot l) (l.map (tkM c (tot l))) (by omega) X hX Y hY
  simp only [subM]
  omega
theorem sub_zero (l : List Mb) : l.map (subM 0) = l := by
  conv => rhs; rw [← List.map_id l]
  apply List.map_congr_left
  intro m _
  obtain ⟨a, b, c⟩ := m
  simp [subM]
/-- Renew changes nothing where there is nothing to narrow and to centre. -/
theorem renew_self (a l : List Mb) (hk : keys a = keys l) (hr : Rising a) (h0 : 0 < l.length) (hap : ∀ x ∈ a, ∀ y ∈ a, x.pr - y.pr ≤ 2 * tot l) (hs : 0 ≤ sumP a ∧ sumP a < l.length) : renewL a l = a := by
  unfold renewL
  rw [took_self a l (tot l) hk hr]
  have hlen := keys_len hk
  have hn : narr (2 * tot l) a = a := by
    unfold narr
    rw [if_pos]
    obtain ⟨⟨x, hx, ex⟩, y, hy, ey⟩ := hiK_mem a a.length (by omega) (Nat.le_refl _)
    have := hap x hx y hy
    unfold apartN
    omega
  rw [hn]
  unfold cent
  have hz : sumP a / (a.length : Int) = 0 := by
    rw [hlen]
    exact Int.ediv_eq_zero_of_lt hs.1 hs.2
  rw [hz]
  exact sub_zero a
theorem renew_twice (c l : List Mb) (hl : weighE l = 0) : renewL (renewL c l) l = renewL c l :=
  renew_self _ l (renew_keys c l) ((weigh_rising l hl).keys (renew_keys c l)) (by have := (weigh_ok l hl).1; omega) (renew_apart c l hl) (renew_sum c l hl)
theorem renew_own (c l : List Mb) (hl : weighE l = 0) : renewL (renewL c l) (renewL c l) = renewL c l := by
  refine renew_self _ _ rfl ((weigh_rising l hl).keys (renew_keys c l)) (by rw [renew_len]; have := (weigh_ok l hl).1; omega) ?_ ?_
  · rw [keys_tot (renew_keys c l)]
    exact renew_apart c l hl
  · rw [renew_len]
    exact renew_sum c l hl

theorem cells58 : Try.prog.cellsOf 58 = 2 := by kernel_rfl
theorem cells3 : Try.prog.cellsOf 3 = 1 := by kernel_rfl
theorem one_drop {L : List Value} {o : Nat} (h : o < L.length) : (L.drop o).take 1 = [L[o]] := by
  apply List.ext_getElem?
  intro j
  cases j with
  | zero => simp [List.getElem?_drop, h]
  | succ j => simp [List.getElem?_take]

section
variable {H : Type} {enc : TypeId × Value → H} {w : World} {base : Nat} {spare : Nat → Bool} {held : Bool}
theorem open_act {n : Nat} {L : List Value} {y : DataW H × List MemPlace} (h : DataW.trod enc Try.prog w base spare held n 58 L = some y) :
    ∃ x : Actx, L = [.int .i64 x.tn, x.vl] ∧ Ms w x.vl x.l ∧ (-9223372036854775808 ≤ x.tn ∧ x.tn < 9223372036854775808) ∧ (x.l = [] ∨ ∃ d es sp, y.1 = .agg [d, .slice es sp] ∧ x.l.length ≤ es.length) := by
  obtain ⟨xs, m, hm, hy, hlen, hn, hel⟩ := DataW.trod_struct Try.underlying58 h
  rw [cells58] at hlen
  have hx : ∀ i, i < 2 → ∃ x, xs[i]? = some x := fun i hi => ⟨xs[i]'(by rw [hn]; exact hi), List.getElem?_eq_getElem _⟩
  obtain ⟨x0, e0⟩ := hx 0 (by omega)
  obtain ⟨x1, e1⟩ := hx 1 (by omega)
  have hxs : xs = [x0, x1] := by
    have hl : xs.length = 2 := hn
    match xs, hl with
    | [a, b], _ =>
      simp at e0 e1
      rw [e0, e1]
  have h0 : DataW.trod enc Try.prog w base spare held m 3 ((L.drop 0).take (Try.prog.cellsOf 3)) = some x0 := (hel 0 _ rfl).trans e0
  have h1 : DataW.trod enc Try.prog w base spare held m 22 ((L.drop 1).take (Try.prog.cellsOf 22)) = some x1 := (hel 1 _ rfl).trans e1
  rw [cells3] at h0
  rw [cells22, one_drop (by omega)] at h1
  obtain ⟨k0, c0, _, w0⟩ := DataW.trod_int Try.underlying3 h0
  obtain ⟨l, M, q⟩ := open_ms h1
  refine ⟨⟨k0, L[1], l⟩, ?_, M, i64_of w0, ?_⟩
  · have d0 := cut1 c0
    apply List.ext_getElem?
    intro j
    match j with
    | 0 => simpa using d0
    | 1 => simp [show 1 < L.length by omega]
    | j + 2 => rw [List.getElem?_eq_none (by omega), List.getElem?_eq_none (by simp)]
  · rcases q with q | ⟨es, sp, q, r⟩
    · exact .inl q
    · refine .inr ⟨x0.1, es, sp, ?_, r⟩
      rw [hy, hxs]
      simp [q]
end
end Go.Proofs.Ytcmoocoklhjkfab
