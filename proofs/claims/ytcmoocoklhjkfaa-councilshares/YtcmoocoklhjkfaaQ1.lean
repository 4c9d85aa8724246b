/- A turn keeps the bounds: plain. -/
import Derived.Test.YtcmoocoklhjkfaaQ0
namespace Go.Proofs.Ytcmoocoklhjkfaa
open Go.RowKit
set_option linter.unusedVariables false

theorem arith_up (c q W t : Nat) (U S p x : Int) (hq : 1000000 ≤ (c + 1) * q) (hA : 1000000 * S ≤ (((c + 1) * W * t : Nat) : Int)) (hp : p ≤ t) (hU : U + x = S + p) (hx : U ≤ c * x) : 1000000 * U ≤ ((c * (q + W) * t : Nat) : Int) := by
  have h1 : ((c : Int) + 1) * U ≤ c * (U + x) := by
    have e : ((c : Int) + 1) * U = c * U + U := by rw [Int.add_mul]; omega
    rw [e, Int.mul_add]
    omega
  have h2 : (c : Int) * (U + x) ≤ c * (S + t) := Int.mul_le_mul_of_nonneg_left (by omega) (by omega)
  have h3 : (c : Int) * (1000000 * S) ≤ c * (((c + 1) * W * t : Nat) : Int) := Int.mul_le_mul_of_nonneg_left hA (by omega)
  have hqt : 1000000 * t ≤ (c + 1) * q * t := Nat.mul_le_mul_right t hq
  have h4 : (c : Int) * ((1000000 * t : Nat) : Int) ≤ c * (((c + 1) * q * t : Nat) : Int) := Int.mul_le_mul_of_nonneg_left (by omega) (by omega)
  have h5 : ((c : Int) + 1) * (1000000 * U) ≤ ((c : Int) + 1) * ((c * (q + W) * t : Nat) : Int) := by
    have e1 : ((c : Int) + 1) * (1000000 * U) = 1000000 * (((c : Int) + 1) * U) := by rw [← Int.mul_assoc, Int.mul_comm _ 1000000, Int.mul_assoc]
    have e2 : ((c : Int) + 1) * ((c * (q + W) * t : Nat) : Int) = c * (((c + 1) * W * t : Nat) : Int) + c * (((c + 1) * q * t : Nat) : Int) := by
      simp only [Int.natCast_mul, Int.natCast_add]
      grind
    have e3 : 1000000 * ((c : Int) * (S + t)) = c * (1000000 * S) + c * ((1000000 * t : Nat) : Int) := by
      simp only [Int.natCast_mul]
      grind
    rw [e1, e2]
    omega
  exact Int.le_of_mul_le_mul_left h5 (by omega)

theorem bestN_max (l : List Mb) (k j : Nat) (m x : Mb) (hj : j < k) (hm : l[j]? = some m) (hx : l[bestN l k]? = some x) (hk : k ≤ l.length) : m.pr ≤ x.pr := by
  induction k generalizing x with
  | zero => omega
  | succ k ih =>
    obtain ⟨y, hy⟩ : ∃ y, l[k]? = some y := ⟨l[k], List.getElem?_eq_getElem (by omega)⟩
    have hb := bestN_le l k
    obtain ⟨z, hz⟩ : ∃ z, l[bestN l k]? = some z := ⟨l[bestN l k]'(by omega), List.getElem?_eq_getElem _⟩
    have hs := bestN_succ l k y z hy hz
    rw [hs] at hx
    split at hx
    · rw [hy] at hx
      cases hx
      rcases Nat.lt_or_ge j k with q | q
      · have := ih z q hz (by omega)
        omega
      · have e : j = k := by omega
        subst e
        rw [hy] at hm
        cases hm
        omega
    · rw [hz] at hx
      cases hx
      rcases Nat.lt_or_ge j k with q | q
      · exact ih _ q hz (by omega)
      · have e : j = k := by omega
        subst e
        rw [hy] at hm
        cases hm
        omega
theorem best_max (l : List Mb) (x : Mb) (hx : l[best l]? = some x) : ∀ m ∈ l, m.pr ≤ x.pr := fun m hm => by
  obtain ⟨j, hj⟩ := List.getElem?_of_mem hm
  exact bestN_max l l.length j m x (List.getElem?_eq_some_iff.1 hj).1 hj hx (Nat.le_refl _)

/-- The bounds of a council that was made. -/
structure Good (B L : Nat) (l : List Mb) : Prop where
  sum : 0 ≤ sumP l ∧ sumP l < l.length
  low : ∀ m ∈ l, -(L : Int) ≤ m.pr
  upp : ∀ P, 1000000 * sumS l 0 P ≤ ((cntS l 0 P * (hs (cntS l 0 P) + B) * tot l : Nat) : Int)
theorem Good.one {B L : Nat} {l : List Mb} (h : Good B L l) {m : Mb} (hm : m ∈ l) : 1000000 * m.pr ≤ (((3750000 + B) * tot l : Nat) : Int) := by
  obtain ⟨j, hj⟩ := List.getElem?_of_mem hm
  obtain ⟨e1, e2⟩ := sumS_one l 0 j m hj
  have := h.upp (fun i => i == 0 + j)
  rw [e1, e2] at this
  have h1 : (1 * (hs 1 + B) * tot l) ≤ (3750000 + B) * tot l := by
    rw [Nat.one_mul]
    exact Nat.mul_le_mul_right _ (by have := hs_one; omega)
  omega
theorem Good.bound {B L : Nat} {l : List Mb} (h : Good B L l) (hB : B ≤ 2000000) {m : Mb} (hm : m ∈ l) : 4 * m.pr ≤ 23 * tot l := by
  have h1 := h.one hm
  have h2 : (3750000 + B) * tot l ≤ 5750000 * tot l := Nat.mul_le_mul_right _ (by omega)
  omega
/-- What a turn is, of such a council. -/
structure Turned (l l' : List Mb) (b : Nat) (x : Mb) : Prop where
  at' : (raise l)[b]? = some x
  best : b = best (up (tot l) l)
  eq : l' = (raise l).set b { x with pr := x.pr - tot l }
  pos : 0 < x.pr
  max : ∀ m ∈ raise l, m.pr ≤ x.pr
theorem raise_len (l : List Mb) : (raise l).length = l.length := by simp [raise]
theorem Good.turned {B L : Nat} {l : List Mb} (h : Good B L l) (hB : B ≤ 2000000) (hw : weighE l = 0) : ∃ b x, Turned l (turnL (tot l) l) b x := by
  have hpos := tot_pos l hw
  have hn := (weigh_ok l hw).1
  have hup : up (tot l) l = raise l := by
    unfold up raise
    apply List.map_congr_left
    intro m hm
    have h1 := h.bound hB hm
    have h2 := pw_le_tot l m hm
    rw [show min (m.pr + m.pw) (7 * (tot l : Int)) = m.pr + m.pw by omega]
  have hbl := best_lt (raise l) (by rw [raise_len]; omega)
  obtain ⟨x, hx⟩ : ∃ x, (raise l)[best (raise l)]? = some x := ⟨_, List.getElem?_eq_getElem hbl⟩
  have hmax := best_max (raise l) x hx
  have hxp : 0 < x.pr := by
    have h1 := sumS_max (raise l) x.pr hmax 0 (fun _ => true)
    rw [(raise_sum l 0 _).1, sumS_all, pwS_all] at h1
    have h2 := h.sum.1
    rcases Int.lt_or_le 0 x.pr with q | q
    · exact q
    · have : ((cntS (raise l) 0 (fun _ => true) : Nat) : Int) * x.pr ≤ 0 := Int.mul_nonpos_of_nonneg_of_nonpos (by omega) q
      omega
  refine ⟨best (raise l), x, hx, by rw [hup], ?_, hxp, hmax⟩
  unfold turnL
  rw [hup]
  congr 1
  rw [List.getD, hx]
  simp only [Option.getD_some, downM]
  rw [show max (x.pr - (tot l : Int)) (-(7 * (tot l : Int))) = x.pr - tot l by omega]
theorem Turned.keys {l l' : List Mb} {b : Nat} {x : Mb} (h : Turned l l' b x) : keys l' = keys l := by
  rw [h.eq, keys_set _ _ x { x with pr := x.pr - tot l } h.at' rfl rfl]
  simp [Ytcmoocoklhjkfaa.keys, raise, Function.comp_def]
theorem Turned.sum {l l' : List Mb} {b : Nat} {x : Mb} (h : Turned l l' b x) (P : Nat → Bool) : sumS l' 0 P = sumS l 0 P + pwS l 0 P - (if P b then (tot l : Int) else 0) ∧ cntS l' 0 P = cntS l 0 P := by
  have h1 := lower_sum (raise l) (tot l) 0 b x P h.at'
  rw [Nat.zero_add] at h1
  rw [h.eq, h1.1, h1.2.1, (raise_sum l 0 P).1, (raise_sum l 0 P).2]
  exact ⟨rfl, rfl⟩
theorem Good.turn {B L : Nat} {l l' : List Mb} {b : Nat} {x : Mb} (h : Good B L l) (hw : weighE l = 0) (hL : tot l ≤ L + 1) (ht : Turned l l' b x) : Good B L l' := by
  have hk := ht.keys
  have htt := keys_tot hk
  have hlen := keys_len hk
  refine ⟨?_, ?_, ?_⟩
  · have := (ht.sum (fun _ => true)).1
    rw [sumS_all, sumS_all, pwS_all, if_pos rfl] at this
    rw [hlen]
    have := h.sum
    omega
  · intro m hm
    rw [ht.eq] at hm
    rcases List.mem_or_eq_of_mem_set hm with hm | rfl
    · obtain ⟨y, hy, rfl⟩ := List.mem_map.1 hm
      have := h.low y hy
      simp only
      omega
    · have := ht.pos
      simp only
      omega
  · intro P
    obtain ⟨e1, e2⟩ := ht.sum P
    rw [e1, e2, htt]
    by_cases hP : P b
    · rw [if_pos hP]
      have h1 := h.upp P
      have h2 := pwS_le l 0 P
      omega
    · rw [if_neg hP]
      have hPb : P (0 + b) = false := by rw [Nat.zero_add]; simpa using hP
      obtain ⟨y, hy, _, _⟩ := keys_get (show keys (raise l) = keys l by simp [Ytcmoocoklhjkfaa.keys, raise, Function.comp_def]) b x ht.at'
      obtain ⟨s1, s2, s3⟩ := sumS_add l 0 b y P hy hPb
      have hA := h.upp (fun j => P j || j == 0 + b)
      rw [s1, s3] at hA
      have hx : x.pr = y.pr + y.pw := by
        have := ht.at'
        rw [raise, List.getElem?_map, hy] at this
        simp at this
        rw [← this]
      have hc : cntS l 0 P < 64 := by
        have := cntS_le l 0 (fun j => P j || j == 0 + b)
        rw [s3] at this
        have := (weigh_ok l hw).2.1
        omega
      have hp := pwS_le l 0 (fun j => P j || j == 0 + b)
      rw [s2] at hp
      have hm := sumS_max (raise l) x.pr ht.max 0 P
      rw [(raise_sum l 0 P).1, (raise_sum l 0 P).2] at hm
      rw [hs_succ _ hc, show (1000000 + cntS l 0 P) / (cntS l 0 P + 1) + hs (cntS l 0 P + 1) + B = (1000000 + cntS l 0 P) / (cntS l 0 P + 1) + (hs (cntS l 0 P + 1) + B) by omega]
      refine arith_up (cntS l 0 P) _ (hs (cntS l 0 P + 1) + B) (tot l) (sumS l 0 P + pwS l 0 P - 0) (sumS l 0 P + y.pr) ((pwS l 0 P : Int) + y.pw) x.pr (ceil_mul _) hA (by omega) (by omega) (by omega)
end Go.Proofs.Ytcmoocoklhjkfaa
