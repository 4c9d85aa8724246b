/- The places that are shown, plain. -/
import Derived.Test.YtlacfenenbblaaaGreatDoorP1
import Derived.Test.YtlacfenenbblaaaGreatDoorG6
namespace Go.Proofs.YtlacfenenbblaaaGreatDoor
open Go.RowKit
set_option linter.unusedVariables false

/-- Where a list is parted, it is parted at one place. -/
theorem parts_one {l : List Ac} {a c k : Nat} (hc : Parts l a c c) (hk : Parts l a k k) (h1 : c ≤ l.length) (h2 : k ≤ l.length) : c = k := by
  rcases Nat.lt_trichotomy c k with h | h | h
  · have h3 : c < l.length := by omega
    have x := hk.1 c _ (List.getElem?_eq_getElem h3) h
    have y := hc.2 c _ (List.getElem?_eq_getElem h3) (Nat.le_refl _)
    omega
  · exact h
  · have h3 : k < l.length := by omega
    have x := hc.1 k _ (List.getElem?_eq_getElem h3) h
    have y := hk.2 k _ (List.getElem?_eq_getElem h3) (Nat.le_refl _)
    omega
theorem has_at {l : List Ac} {a c : Nat} (hA : Asc l) (hc : Parts l a c c) (h : hasB l a = true) : ∃ m, l[c]? = some m ∧ m.ad = a := by
  rw [has_lo hA hc] at h
  cases hq : l[c]? with
  | none => rw [hq] at h; cases h
  | some m => rw [hq] at h; exact ⟨m, rfl, by simpa using h⟩
theorem no_has {l : List Ac} {a : Nat} (h : hasB l a = false) : ∀ m ∈ l, m.ad ≠ a := by
  intro m hm e
  have : hasB l a = true := List.any_eq_true.2 ⟨m, hm, by simpa using e⟩
  rw [h] at this
  cases this
/-- The first place of an address that is there is where the list is parted. -/
theorem at_place {l : List Ac} {a c : Nat} {k : Int} (hA : Asc l) (hc : Parts l a c c) (h : hasB l a = true) (hk : AtP l a k) : k = c := by
  obtain ⟨m, hm, e⟩ := has_at hA hc h
  rcases hk with ⟨_, q⟩ | ⟨j, n, rfl, hj, hn, hf⟩
  · exact absurd e (q m (List.mem_of_getElem? hm))
  · rcases Nat.lt_trichotomy j c with g | g | g
    · have := hc.1 j n hj g
      omega
    · rw [g]
    · exact absurd e (hf c m g hm)
theorem at_none {l : List Ac} {a : Nat} {k : Int} (h : hasB l a = false) (hk : AtP l a k) : k = -1 := by
  rcases hk with ⟨q, _⟩ | ⟨j, n, rfl, hj, hn, hf⟩
  · exact q
  · exact absurd hn (no_has h n (List.mem_of_getElem? hj))
theorem shN_lt {l : List Ac} {a c : Nat} (hA : Asc l) (hc : Parts l a c c) (h1 : c ≤ l.length) : ∀ k ∈ shN l a c, k < l.length := by
  intro k hk
  unfold shN at hk
  by_cases h : hasB l a = true
  · rw [if_pos h] at hk
    obtain ⟨m, hm, _⟩ := has_at hA hc h
    have := (List.getElem?_eq_some_iff.1 hm).1
    simp at hk
    omega
  · rw [if_neg h] at hk
    rcases List.mem_append.1 hk with q | q
    · split at q
      · simp at q; omega
      · cases q
    · split at q
      · simp at q; omega
      · cases q
theorem shN_len (l : List Ac) (a c : Nat) : (shN l a c).length ≤ 2 := by
  unfold shN
  split
  · simp
  · split <;> split <;> simp
end Go.Proofs.YtlacfenenbblaaaGreatDoor

