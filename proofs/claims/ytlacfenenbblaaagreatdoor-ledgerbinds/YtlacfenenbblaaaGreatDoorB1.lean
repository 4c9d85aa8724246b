/- What Verify tells where all is the ledger's own, plain. -/
import Derived.Test.YtlacfenenbblaaaGreatDoorY6
import Derived.Test.YtlacfenenbblaaaGreatDoorP5
import Derived.Test.YtlacfenenbblaaaGreatDoorP9
namespace Go.Proofs.YtlacfenenbblaaaGreatDoor
open Go.RowKit
set_option linter.unusedVariables false

theorem led_asc {b s : Nat} {l : List Ac} {r : List Rl} (he : ledE b l r s = 0) : Asc l ∧ ∀ m ∈ l, 0 < m.ad := by
  unfold ledE at he
  split at he
  · cases he
  · split at he
    · rename_i h1 h2
      exact absurd he h2
    · rename_i h1 h2
      exact scanA_asc l 0 (by simpa using h2)
theorem parts_at {l : List Ac} {x j : Nat} {m : Ac} (hA : Asc l) (hj : l[j]? = some m) (e : m.ad = x) : Parts l x j j ∧ hasB l x = true := by
  refine ⟨⟨fun i n hn hi => ?_, fun i n hn hi => ?_⟩, List.any_eq_true.2 ⟨m, List.mem_of_getElem? hj, by simpa using e⟩⟩
  · have := hA.at hi hn hj
    omega
  · rcases Nat.lt_or_ge j i with h | h
    · have := hA.at h hj hn
      omega
    · have : i = j := by omega
      subst this
      rw [hj] at hn
      cases hn
      omega
theorem not_has {l : List Ac} {x : Nat} (h : ∀ m ∈ l, m.ad ≠ x) : hasB l x = false := by
  cases hb : hasB l x with
  | false => rfl
  | true =>
    obtain ⟨m, hm, e⟩ := List.any_eq_true.1 hb
    exact absurd (by simpa using e) (h m hm)
theorem getD_at {l : List Ac} {k : Nat} {m : Ac} (h : l[k]? = some m) : l.getD k ac0 = m := by
  rw [List.getD_eq_getElem?_getD, h]; rfl
/-- What Find and Verify tell of it. -/
def VP (l : List Ac) (x : Nat) (m : Ac) (f : Bool) : Prop := ∃ c, c ≤ l.length ∧ Parts l x c c ∧ m = (if hasB l x = true then l.getD c ac0 else ac0) ∧ f = hasB l x
theorem VP.find {l : List Ac} {x : Nat} {m m' : Ac} {f : Bool} {k : Int} (hA : Asc l) (hpos : ∀ m ∈ l, 0 < m.ad) (h : VP l x m f) (h' : FindP l x m' k) : m' = m ∧ ((f = true ∧ k = 0) ∨ (f = false ∧ k = 85)) := by
  obtain ⟨c, h1, h2, rfl, rfl⟩ := h
  rcases h' with ⟨rfl, rfl, q⟩ | ⟨rfl, q0, j, hj, rfl, hf⟩
  · have hb : hasB l x = false := by
      rcases q with rfl | q
      · exact not_has (fun m hm e => by have := hpos m hm; omega)
      · exact not_has q
    rw [hb]
    exact ⟨rfl, .inr ⟨rfl, rfl⟩⟩
  · obtain ⟨p1, p2⟩ := parts_at hA hj rfl
    have := parts_one h2 p1 h1 (by have := (List.getElem?_eq_some_iff.1 hj).1; omega)
    subst this
    rw [p2]
    exact ⟨by rw [if_pos rfl, getD_at hj], .inl ⟨rfl, rfl⟩⟩
theorem VP.here {L : List Ac} {a i : Nat} {m : Ac} (hA : Asc L) (hi : L[i]? = some m) (e : m.ad = a) : VP L a m true := by
  obtain ⟨p1, p2⟩ := parts_at hA hi e
  exact ⟨i, by have := (List.getElem?_eq_some_iff.1 hi).1; omega, p1, by rw [if_pos p2, getD_at hi], p2.symm⟩
/-- Nothing at a place where the list is parted, below and above. -/
theorem VP.gap {L : List Ac} {a c : Nat} (hc : c ≤ L.length) (h1 : ∀ i m, L[i]? = some m → i < c → m.ad < a) (h2 : ∀ i m, L[i]? = some m → c ≤ i → a < m.ad) : VP L a ac0 false := by
  have hb : hasB L a = false := not_has (fun m hm e => by
    obtain ⟨i, hi⟩ := List.mem_iff_getElem?.1 hm
    rcases Nat.lt_or_ge i c with q | q
    · have := h1 i m hi q; omega
    · have := h2 i m hi q; omega)
  exact ⟨c, hc, ⟨h1, fun i m hi q => Nat.le_of_lt (h2 i m hi q)⟩, by rw [hb]; rfl, hb.symm⟩
theorem vA_bad {X R : List UInt8} {a : Nat} {l : List Ac} {qs : List Pf} (h : (vA X R a l qs).2.2 ≠ 0) : (vA X R a l qs).1 = ac0 ∧ (vA X R a l qs).2.1 = false := by
  unfold vA at h ⊢
  split at h
  · rename_i q; rw [if_pos q]; exact ⟨rfl, rfl⟩
  · rename_i q
    rw [if_neg q]
    match l, qs with
    | m :: n :: _, r :: s :: _ => exact ⟨rfl, rfl⟩
    | [], _ => exact ⟨rfl, rfl⟩
    | _ :: _, [] => simp at q
    | [m], r :: qs =>
      have h : onE X R a m r ≠ 0 := h
      have hf : onF X R a m r = false := by
        unfold onE at h
        unfold onF
        split at h
        · rename_i w; rw [w]; rfl
        · have : (tpE X R r m == 0) = false := by simpa using h
          rw [this]; simp
      show onA X R a m r = ac0 ∧ onF X R a m r = false
      exact ⟨by unfold onA; rw [hf]; rfl, hf⟩
    | m :: n :: l, [r] => simp at q
/-- The digest to which the first proof leads. -/
def shH : List Ac → List Pf → List UInt8
  | m :: _, q :: _ => pathH q.t q.i q.A (formB m)
  | _, _ => rootH []
/-- What holds of each proof that was let. -/
def Let (T : List UInt8) (m : Ac) (q : Pf) : Prop := fitsB q.t q.i q.A.length = true ∧ hashOf (2 :: (numE q.t.toNat ++ upH q.t.toNat q.i.toNat q.A (hashOf (0 :: formB m)))) = T
theorem path_let {m : Ac} {q : Pf} (h : pathE q.t q.i q.A.length 33 = 0) : Let (pathH q.t q.i q.A (formB m)) m q := by
  have hf : fitsB q.t q.i q.A.length = true := by
    unfold pathE at h
    rw [if_neg (by omega)] at h
    split at h
    · assumption
    · cases h
  refine ⟨hf, ?_⟩
  unfold pathH
  rw [formB_len, if_pos h]
theorem tpE_zero {X R : List UInt8} {q : Pf} {m : Ac} (h : tpE X R q m = 0) : pathE q.t q.i q.A.length 33 = 0 ∧ inH (pathH q.t q.i q.A (formB m)) R = X := by
  unfold tpE at h
  split at h
  · rename_i p
    refine ⟨p, ?_⟩
    split at h
    · rename_i z; simpa using z
    · cases h
  · rename_i p; exact absurd h p
theorem verE_let {T : List UInt8} {m : Ac} {q : Pf} (h : verE T q.t q.i q.A (formB m) = 0) : Let T m q := by
  unfold verE at h
  rw [formB_len] at h
  split at h
  · rename_i p; exact absurd h p
  · rename_i p
    have p0 : pathE q.t q.i q.A.length 33 = 0 := Classical.byContradiction p
    split at h
    · rename_i z; rw [← z]; exact path_let p0
    · cases h
theorem vA_ok {X R : List UInt8} {a : Nat} {l : List Ac} {qs : List Pf} (h : (vA X R a l qs).2.2 = 0) : qs.length = l.length ∧ l.length ≤ 2 ∧ inH (shH l qs) R = X ∧ (∀ (j : Nat) m q, l[j]? = some m → qs[j]? = some q → Let (shH l qs) m q) ∧ (∀ m q, l[0]? = some m → qs[0]? = some q → pathE q.t q.i q.A.length 33 = 0) := by
  unfold vA at h
  split at h
  · cases h
  · rename_i w
    refine ⟨by omega, by omega, ?_⟩
    match l, qs with
    | [], [] =>
      have h : noE X R = 0 := h
      unfold noE at h
      split at h
      · rename_i z; exact ⟨by show inH (rootH []) R = X; simpa using z, (fun j m q hj => by simp at hj), (fun m q hj => by simp at hj)⟩
      · cases h
    | [], _ :: _ => simp at w
    | _ :: _, [] => simp at w
    | [m], r :: s :: qs => simp at w
    | m :: n :: l, [r] => simp at w
    | m :: n :: p :: l, r :: s :: qs => simp at w
    | [m, n], r :: s :: t :: qs => simp at w
    | [m], [r] =>
      have h : onE X R a m r = 0 := h
      unfold onE at h
      split at h
      · cases h
      · obtain ⟨h1, h2⟩ := tpE_zero h
        refine ⟨h2, fun j x y hx hy => ?_, fun x y hx hy => ?_⟩
        · have hj : j = 0 := by have := (List.getElem?_eq_some_iff.1 hx).1; simp at this; omega
          subst hj
          cases hx; cases hy
          exact path_let h1
        · cases hx; cases hy; exact h1
    | [m, n], [r, s] =>
      have h : gpE X R a m n r s = 0 := h
      unfold gpE at h
      split at h
      · cases h
      · split at h
        · rename_i z
          obtain ⟨h1, h2⟩ := tpE_zero z
          have ht : tpH X R r m = pathH r.t r.i r.A (formB m) := by unfold tpH; rw [if_pos z]
          rw [ht] at h
          refine ⟨h2, fun j x y hx hy => ?_, fun x y hx hy => ?_⟩
          · have hj : j < 2 := by have := (List.getElem?_eq_some_iff.1 hx).1; simpa using this
            rcases (show j = 0 ∨ j = 1 by omega) with e | e
            · subst e; cases hx; cases hy; exact path_let h1
            · subst e; cases hx; cases hy; exact verE_let h
          · cases hx; cases hy; exact h1
        · rename_i z; exact absurd h z
/-- An account that is the ledger's own at its proof's place. -/
def Alike (L : List Ac) (m : Ac) (q : Pf) : Prop := q.t = L.length ∧ 0 ≤ q.i ∧ q.i < q.t ∧ L[q.i.toNat]? = some m
theorem vA_end {L : List Ac} {X R : List UInt8} {a : Nat} {l : List Ac} {qs : List Pf} (hA : Asc L) (hn : L.length ≤ 65536) (h : (vA X R a l qs).2.2 = 0) (hk : ∀ (j : Nat) m q, l[j]? = some m → qs[j]? = some q → Alike L m q) (h0 : l = [] → L = []) : VP L a (vA X R a l qs).1 (vA X R a l qs).2.1 := by
  have hh := h
  unfold vA at h ⊢
  split at h
  · cases h
  · rename_i w
    rw [if_neg w]
    match l, qs with
    | [], [] =>
      rw [h0 rfl]
      exact VP.gap (Nat.le_refl _) (fun i m hi => by simp at hi) (fun i m hi => by simp at hi)
    | [], _ :: _ => simp at w
    | _ :: _, [] => simp at w
    | [m], r :: s :: qs => simp at w
    | m :: n :: l, [r] => simp at w
    | m :: n :: p :: l, r :: s :: qs => simp at w
    | [m, n], r :: s :: t :: qs => simp at w
    | [m], [r] =>
      obtain ⟨k1, k2, k3, k4⟩ := hk 0 m r rfl rfl
      have h : onE X R a m r = 0 := h
      show VP L a (onA X R a m r) (onF X R a m r)
      have hlt := (List.getElem?_eq_some_iff.1 k4).1
      unfold onE at h
      split at h
      · cases h
      · rename_i hb
        have hb : onB a m r = false := by simpa using hb
        have ht : (tpE X R r m == 0) = true := by simpa using h
        by_cases e : m.ad = a
        · have hf : onF X R a m r = true := by unfold onF; rw [hb, ht]; simp [e]
          unfold onA
          rw [hf, if_pos rfl]
          exact VP.here hA k4 e
        · have hf : onF X R a m r = false := by
            have : ((m.ad : Int) == (a : Int)) = false := by simp; omega
            unfold onF; rw [this]; simp
          unfold onA
          rw [hf, if_neg (by decide)]
          unfold onB at hb
          rw [Bool.or_eq_false_iff, Bool.and_eq_false_iff, Bool.and_eq_false_iff] at hb
          rcases Nat.lt_or_ge a m.ad with g | g
          · have i0 : r.i = 0 := by
              rcases hb.1 with q | q
              · simp at q; omega
              · simpa using q
            have i1 : r.i.toNat = 0 := by omega
            rw [i1] at k4
            refine VP.gap (Nat.zero_le _) (fun i x _ q => by omega) (fun i x hx _ => ?_)
            rcases Nat.eq_zero_or_pos i with z | z
            · subst z; rw [k4] at hx; cases hx; exact g
            · have := hA.at z k4 hx; omega
          · have i0 : r.i = r.t - 1 := by
              rcases hb.2 with q | q
              · simp at q; omega
              · have e2 : IntKind.i64.wrap (r.t - 1) = r.t - 1 := by rw [IntKind.wrap_i64]; omega
                rw [e2] at q
                simpa using q
            refine VP.gap (Nat.le_refl _) (fun i x hx _ => ?_) (fun i x hx q => by have := (List.getElem?_eq_some_iff.1 hx).1; omega)
            have hi := (List.getElem?_eq_some_iff.1 hx).1
            rcases Nat.lt_or_ge i r.i.toNat with z | z
            · have := hA.at z hx k4; omega
            · have : i = r.i.toNat := by omega
              subst this; rw [k4] at hx; cases hx; omega
    | [m, n], [r, s] =>
      obtain ⟨k1, k2, k3, k4⟩ := hk 0 m r rfl rfl
      obtain ⟨j1, j2, j3, j4⟩ := hk 1 n s rfl rfl
      have h : gpE X R a m n r s = 0 := h
      show VP L a ac0 false
      unfold gpE at h
      split at h
      · cases h
      · rename_i hb
        have hb : gpB a m n r s = false := by simpa using hb
        unfold gpB at hb
        rw [Bool.or_eq_false_iff, Bool.or_eq_false_iff, Bool.or_eq_false_iff] at hb
        obtain ⟨⟨⟨b1, b2⟩, b3⟩, b4⟩ := hb
        have b1 : m.ad < a := by simpa using b1
        have b2 : a < n.ad := by simpa using b2
        have e2 : IntKind.i64.wrap (r.i + 1) = r.i + 1 := by rw [IntKind.wrap_i64]; omega
        rw [e2] at b4
        have b4 : s.i = r.i + 1 := by simpa using b4
        have hi := (List.getElem?_eq_some_iff.1 j4).1
        refine VP.gap (c := r.i.toNat + 1) (by omega) (fun i x hx q => ?_) (fun i x hx q => ?_)
        · rcases Nat.lt_or_ge i r.i.toNat with z | z
          · have := hA.at z hx k4; omega
          · have : i = r.i.toNat := by omega
            subst this; rw [k4] at hx; cases hx; exact b1
        · have es : s.i.toNat = r.i.toNat + 1 := by omega
          rcases Nat.lt_or_ge s.i.toNat i with z | z
          · have := hA.at z j4 hx; omega
          · have : i = s.i.toNat := by omega
            subst this; rw [j4] at hx; cases hx; exact b2
end Go.Proofs.YtlacfenenbblaaaGreatDoor
