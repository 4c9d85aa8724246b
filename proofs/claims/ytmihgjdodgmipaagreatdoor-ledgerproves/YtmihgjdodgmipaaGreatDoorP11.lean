/- What Verify reads of a witness that was made, plain. -/
import Derived.Test.YtmihgjdodgmipaaGreatDoorP10
namespace Go.Proofs.YtmihgjdodgmipaaGreatDoor
open Go.RowKit
set_option linter.unusedVariables false

theorem acR_nil : rootH [] = acR [] := by
  unfold rootH
  rw [if_neg (by decide)]
  rfl
theorem getD_at {l : List Ac} {k : Nat} {m : Ac} (h : l[k]? = some m) : l.getD k ac0 = m := by
  rw [List.getD_eq_getElem?_getD, h]
  rfl
theorem below_ne {l : List Ac} {a c : Nat} (hc : Parts l a c c) (hh : hasB l a = false) {k : Nat} {m : Ac} (h : l[k]? = some m) : (k < c → m.ad < a) ∧ (c ≤ k → a < m.ad) := by
  refine ⟨fun q => hc.1 k m h q, fun q => ?_⟩
  have h1 := hc.2 k m h q
  have h2 := no_has hh m (List.mem_of_getElem? h)
  omega
theorem one_shown {l : List Ac} {a k : Nat} {m : Ac} (R : List UInt8) (hn : l.length ≤ 65536) (hk : l[k]? = some m) (h : m.ad = a ∨ (a < m.ad ∧ k = 0) ∨ (m.ad < a ∧ k + 1 = l.length)) :
    vA (inH (acR l) R) R a [m] [pfOf l k] = (if m.ad = a then m else ac0, decide (m.ad = a), 0) := by
  obtain ⟨t1, t2⟩ := tp_made R hn hk
  have hlt := (List.getElem?_eq_some_iff.1 hk).1
  have hon : onB a m (pfOf l k) = false := by
    unfold onB pfOf
    rcases h with q | ⟨q, rfl⟩ | ⟨q, q2⟩
    · have h1 : ¬ a < m.ad := by omega
      have h2 : ¬ m.ad < a := by omega
      simp [h1, h2]
    · have h2 : ¬ m.ad < a := by omega
      simp [h2]
    · have h1 : ¬ a < m.ad := by omega
      have hw : IntKind.i64.wrap ((l.length : Int) - 1) = (k : Int) := by rw [IntKind.wrap_i64]; omega
      simp [h1, hw]
  have e1 : onE (inH (acR l) R) R a m (pfOf l k) = 0 := by
    unfold onE
    rw [if_neg (by rw [hon]; decide), t1]
  have e2 : onF (inH (acR l) R) R a m (pfOf l k) = decide (m.ad = a) := by
    unfold onF
    rw [hon, t1]
    by_cases q : m.ad = a
    · simp [q]
    · have q2 : ¬ (m.ad : Int) = (a : Int) := by omega
      simp [q, q2]
  have e3 : onA (inH (acR l) R) R a m (pfOf l k) = if m.ad = a then m else ac0 := by
    unfold onA
    rw [e2]
    by_cases q : m.ad = a
    · simp [q]
    · simp [q]
  unfold vA
  rw [if_neg (by simp)]
  show (_, _, _) = _
  rw [e1, e2, e3]
theorem two_shown {l : List Ac} {a k : Nat} {m n : Ac} (R : List UInt8) (hn : l.length ≤ 65536) (hk : l[k]? = some m) (hk2 : l[k + 1]? = some n) (h1 : m.ad < a) (h2 : a < n.ad) :
    vA (inH (acR l) R) R a [m, n] [pfOf l k, pfOf l (k + 1)] = (ac0, false, 0) := by
  obtain ⟨t1, t2⟩ := tp_made R hn hk
  have hv := ver_made hn hk2
  have hlt := (List.getElem?_eq_some_iff.1 hk).1
  have hg : gpB a m n (pfOf l k) (pfOf l (k + 1)) = false := by
    unfold gpB pfOf
    have q1 : ¬ a ≤ m.ad := by omega
    have q2 : ¬ n.ad ≤ a := by omega
    have hw : IntKind.i64.wrap ((k : Int) + 1) = ((k + 1 : Nat) : Int) := by rw [IntKind.wrap_i64]; omega
    simp [q1, q2, hw]
  have hE : gpE (inH (acR l) R) R a m n (pfOf l k) (pfOf l (k + 1)) = 0 := by
    unfold gpE
    rw [if_neg (by rw [hg]; decide), if_pos t1, t2, hv]
  unfold vA
  rw [if_neg (by simp)]
  show (_, _, _) = _
  rw [hE]
/-- What Verify reads of what was proved. -/
theorem shown_ver {l : List Ac} {a c : Nat} (R : List UInt8) (hn : l.length ≤ 65536) (hA : Asc l) (hc : Parts l a c c) (h1 : c ≤ l.length) :
    vA (inH (acR l) R) R a ((shN l a c).map fun k => l.getD k ac0) ((shN l a c).map (pfOf l)) = (if hasB l a = true then l.getD c ac0 else ac0, hasB l a, 0) := by
  by_cases hh : hasB l a = true
  · obtain ⟨m, hm, e⟩ := has_at hA hc hh
    have hs : shN l a c = [c] := by unfold shN; rw [if_pos hh]
    rw [hs, if_pos hh, hh]
    have := one_shown (a := a) R hn hm (.inl e)
    rw [if_pos e] at this
    simp only [List.map_cons, List.map_nil, getD_at hm]
    rw [this]
    simp [e]
  · have hf : hasB l a = false := by simpa using hh
    have hs : shN l a c = (if 0 < c then [c - 1] else []) ++ (if c < l.length then [c] else []) := by unfold shN; rw [if_neg hh]
    rw [hs, if_neg hh, hf]
    by_cases h0 : 0 < c
    · obtain ⟨d, rfl⟩ : ∃ d, c = d + 1 := ⟨c - 1, by omega⟩
      obtain ⟨m, hm⟩ : ∃ m, l[d]? = some m := ⟨l[d]'(by omega), List.getElem?_eq_getElem _⟩
      have b1 := (below_ne hc hf hm).1 (by omega)
      rw [if_pos h0, show d + 1 - 1 = d by omega]
      by_cases h2 : d + 1 < l.length
      · obtain ⟨n, hm2⟩ : ∃ n, l[d + 1]? = some n := ⟨l[d + 1]'h2, List.getElem?_eq_getElem _⟩
        have b2 := (below_ne hc hf hm2).2 (by omega)
        rw [if_pos h2]
        simp only [List.cons_append, List.nil_append, List.map_cons, List.map_nil, getD_at hm, getD_at hm2]
        exact two_shown R hn hm hm2 b1 b2
      · rw [if_neg h2]
        simp only [List.append_nil, List.map_cons, List.map_nil, getD_at hm]
        have := one_shown (a := a) R hn hm (.inr (.inr ⟨b1, by omega⟩))
        have q : ¬ m.ad = a := by omega
        rw [if_neg q] at this
        rw [this]
        simp [q]
    · have hc0 : c = 0 := by omega
      subst hc0
      rw [if_neg h0]
      by_cases h2 : 0 < l.length
      · obtain ⟨m, hm⟩ : ∃ m, l[0]? = some m := ⟨l[0]'h2, List.getElem?_eq_getElem _⟩
        have b2 := (below_ne hc hf hm).2 (by omega)
        rw [if_pos h2]
        simp only [List.nil_append, List.map_cons, List.map_nil, getD_at hm]
        have := one_shown (a := a) R hn hm (.inr (.inl ⟨b2, rfl⟩))
        have q : ¬ m.ad = a := by omega
        rw [if_neg q] at this
        rw [this]
        simp [q]
      · have hl : l = [] := List.length_eq_zero_iff.1 (by omega)
        subst hl
        rw [if_neg h2]
        simp only [List.append_nil, List.map_nil]
        unfold vA
        rw [if_neg (by simp)]
        show (ac0, false, noE _ _) = _
        unfold noE
        rw [acR_nil, if_pos (by simp)]
end Go.Proofs.YtmihgjdodgmipaaGreatDoor
