/- The median of marks: plain. -/
import Derived.Test.YtbhimedajfkioaaN2
import Derived.Test.YtbhimedajfkioaaM1
namespace Go.Proofs.Ytbhimedajfkioaa
open Go.RowKit
set_option linter.unusedVariables false

/-- What the marks up to a time have together. -/
def below (M : List Mb) (l : List Mk) (t : Nat) : Nat := psum M (l.filter (fun m => decide (m.tm ≤ t)))
theorem below_perm (M : List Mb) {a b : List Mk} (h : a.Perm b) (t : Nat) : below M a t = below M b t := psum_perm M (h.filter _)
theorem psum_filter_le (M : List Mb) (p : Mk → Bool) : ∀ l : List Mk, psum M (l.filter p) ≤ psum M l
  | [] => by simp [psum]
  | m :: r => by
    have := psum_filter_le M p r
    rw [List.filter_cons]
    split <;> simp only [psum] <;> omega
theorem below_le (M : List Mb) (l : List Mk) (t : Nat) : below M l t ≤ psum M l := psum_filter_le M _ l
/-- The median: the least time of a mark up to which more than half is there. -/
def IsMed (M : List Mb) (l : List Mk) (t : Nat) : Prop := (∃ m ∈ l, m.tm = t) ∧ psum M l < 2 * below M l t ∧ ∀ m ∈ l, m.tm < t → 2 * below M l m.tm ≤ psum M l
theorem IsMed.one {M : List Mb} {l : List Mk} {t u : Nat} (h : IsMed M l t) (k : IsMed M l u) : t = u := by
  obtain ⟨⟨m, hm, rfl⟩, h1, h2⟩ := h
  obtain ⟨⟨x, hx, rfl⟩, k1, k2⟩ := k
  rcases Nat.lt_trichotomy m.tm x.tm with q | q | q
  · have := k2 m hm q; omega
  · exact q
  · have := h2 x hx q; omega
theorem filter_mem_all {α : Type} (p : α → Bool) : ∀ l : List α, (∀ m ∈ l, p m = true) → l.filter p = l := fun l h => List.filter_eq_self.2 h
theorem filter_none {α : Type} (p : α → Bool) (l : List α) (h : ∀ m ∈ l, p m = false) : l.filter p = [] := by
  rw [List.filter_eq_nil_iff]
  intro m hm
  simp [h m hm]
/-- The first of the sorted marks at which more than half is there. -/
theorem med_of_sorted {M : List Mb} {l s : List Mk} (hp : s.Perm l) (hs : ByTm s) {k : Nat} {m : Mk} (hk : s[k]? = some m) (h1 : 2 * psum M (s.take k) ≤ psum M l) (h2 : psum M l < 2 * psum M (s.take (k + 1))) : IsMed M l m.tm := by
  have hml : m ∈ l := hp.mem_iff.1 (List.mem_of_getElem? hk)
  have hsplit : ∀ j t, below M s t = psum M ((s.take j).filter (fun m => decide (m.tm ≤ t))) + psum M ((s.drop j).filter (fun m => decide (m.tm ≤ t))) := fun j t => by
    unfold below
    rw [← psum_append, ← List.filter_append, List.take_append_drop]
  refine ⟨⟨m, hml, rfl⟩, ?_, ?_⟩
  · rw [← below_perm M hp]
    have e := hsplit (k + 1) m.tm
    rw [filter_mem_all _ (s.take (k + 1)) (fun x hx => by
      obtain ⟨i, hi, rfl⟩ := List.mem_take_iff_getElem.1 hx
      have hi' : i < s.length := by omega
      rcases Nat.lt_or_ge i k with q | q
      · have := hs i k _ m q (List.getElem?_eq_getElem hi') hk
        simpa using this
      · have : i = k := by omega
        subst this
        rw [List.getElem?_eq_getElem hi'] at hk
        have := Option.some.inj hk
        rw [this]
        simp)] at e
    omega
  · intro x hx hlt
    rw [← below_perm M hp]
    have e := hsplit k x.tm
    rw [filter_none _ (s.drop k) (fun z hz => by
      obtain ⟨i, hi, rfl⟩ := List.mem_drop_iff_getElem.1 hz
      have hge : m.tm ≤ s[k + i].tm := by
        rcases Nat.eq_zero_or_pos i with q | q
        · subst q
          rw [List.getElem?_eq_getElem (by omega)] at hk
          have := Option.some.inj hk
          simp [← this]
        · exact hs k (k + i) m _ (by omega) hk (List.getElem?_eq_getElem (by omega))
      simp
      omega)] at e
    have := psum_filter_le M (fun m => decide (m.tm ≤ x.tm)) (s.take k)
    simp only [psum] at e
    omega
/-- Ascending indices: no member is counted twice. -/
theorem pwOf_drop {M : List Mb} {m : Mk} {p : Nat} (h1 : (p : Int) ≤ m.ix) (h2 : m.ix < (M.length : Int)) : pwOf M m + tot (M.drop (m.ix.toNat + 1)) ≤ tot (M.drop p) := by
  have h3 : m.ix.toNat < M.length := by omega
  have e : M.drop p = (M.drop p).take (m.ix.toNat - p) ++ M.drop m.ix.toNat := by
    have := List.take_append_drop (m.ix.toNat - p) (M.drop p)
    rw [List.drop_drop, show p + (m.ix.toNat - p) = m.ix.toNat by omega] at this
    exact this.symm
  rw [e, tot_append, List.drop_eq_getElem_cons h3]
  simp only [tot, pwOf, List.getD_eq_getElem?_getD, List.getElem?_eq_getElem h3, Option.getD_some]
  omega
theorem scanM_sum {M : List Mb} : ∀ (l : List Mk) (p : Nat), scanM ((p : Int) - 1) l = 0 → seatedB M.length l = true → psum M l ≤ tot (M.drop p) ∧ Sits M l
  | [], p, _, _ => ⟨by simp [psum], fun m hm => by cases hm⟩
  | m :: r, p, h, hb => by
    unfold scanM at h
    unfold seatedB at hb
    rw [List.all_cons, Bool.and_eq_true] at hb
    have hlt : m.ix < (M.length : Int) := by simpa using hb.1
    split at h
    · cases h
    · rename_i hq
      split at h
      · cases h
      · rename_i hle
        have h0 : 0 ≤ m.ix := by
          rcases Int.lt_or_le m.ix 0 with z | z
          · exact absurd (Or.inl z) hq
          · exact z
        have hn : ((m.ix.toNat + 1 : Nat) : Int) - 1 = m.ix := by omega
        obtain ⟨i1, i2⟩ := scanM_sum r (m.ix.toNat + 1) (by rw [hn]; exact h) hb.2
        refine ⟨?_, fun x hx => ?_⟩
        · have := pwOf_drop (M := M) (m := m) (p := p) (by omega) hlt
          simp only [psum]
          omega
        · rcases List.mem_cons.1 hx with rfl | hx
          · exact ⟨h0, hlt⟩
          · exact i2 x hx
/-- What is wrong with a council and a certificate for a median. -/
def medE (M : List Mb) (h : Nat) (r : Int) (id : List UInt8) (l : List Mk) : Int := if soundE M ≠ 0 then soundE M else if plainE h r id l ≠ 0 then plainE h r id l else if l.length = 0 then 127 else if seatedB M.length l = false then 101 else 0
theorem med_sits {M : List Mb} {h : Nat} {r : Int} {id : List UInt8} {l : List Mk} (hp : plainE h r id l = 0) (hn : l.length ≠ 0) (hb : seatedB M.length l = true) : Sits M l ∧ psum M l ≤ tot M ∧ l.length ≤ 64 := by
  unfold plainE at hp
  have hz : zeroB h r id l.length = false := by simp [zeroB, hn]
  rw [hz, if_neg (by simp)] at hp
  split at hp
  · cases hp
  · split at hp
    · cases hp
    · rename_i h64
      obtain ⟨a, b⟩ := scanM_sum (M := M) l 0 hp hb
      exact ⟨b, by simpa using a, by omega⟩
theorem pw_pos {M : List Mb} {l : List Mk} (hs : soundE M = 0) (h : Sits M l) (hn : l.length ≠ 0) : 0 < psum M l := by
  cases l with
  | nil => exact absurd rfl hn
  | cons m r =>
    obtain ⟨x, hx, hxp, _⟩ := h.at (List.mem_cons_self ..)
    have hw : weighE M = 0 := Classical.byContradiction fun q => by rw [sound_weigh M q] at hs; exact q hs
    obtain ⟨_, _, hsc, _⟩ := weigh_ok M hw
    have := (scan_mem M 0 hsc x (List.mem_of_getElem? hx)).2.1
    simp only [psum, ← hxp]
    omega
end Go.Proofs.Ytbhimedajfkioaa
