/- DigestPieces: Hashers and their texts, side by side. -/
import Derived.Test.YtnibmkenbidnfaaDoorH3
import Derived.Test.YtnibmkenbidnfaaDoorE7
namespace Go.Proofs.YtnibmkenbidnfaaDoor
open Go.RowKit
set_option linter.unusedVariables false

def ptr (p : Nat) : Value := .pointer (some ⟨p, 0, none⟩)
/-- A list of Hashers (in vh), and beside it the texts that they have taken (in vt); all made since the world had 'base' blocks. -/
structure Beside (base : Nat) (w : World) (vh vt : Value) (ps : List Nat) (ts : List (Value × List UInt8)) : Prop where
  oh : Own w 23 vh (ps.map ptr)
  ot : Own w 22 vt (ts.map (·.1))
  len : ps.length = ts.length
  hh : ∀ (j p : Nat) (t : Value × List UInt8), ps[j]? = some p → ts[j]? = some t → Hs w p t.2
  tt : ∀ t ∈ ts, Own w 5 t.1 (t.2.map bv)
  nd : ps.Nodup
  fp : ∀ p ∈ ps, base ≤ p
  fh : ∀ g, vh.ownBlock = some g → base ≤ g
  ft : ∀ g, vt.ownBlock = some g → base ≤ g
  ff : ∀ t ∈ ts, ∀ g, t.1.ownBlock = some g → base ≤ g

theorem Own.obj {w : World} {e : TypeId} {v : Value} {xs : List Value} (h : Own w e v xs) {g : Nat} (hg : v.ownBlock = some g) : ∃ cur, w.heap[g]? = some (.cells cur e (0, 0)) := by
  rcases h.shape with ⟨rfl, _⟩ | ⟨g', cap, cur, rfl, ho, _⟩
  · cases hg
  · cases hg
    exact ⟨cur, ho⟩
theorem Own.apart {w : World} {e e' : TypeId} {v v' : Value} {xs xs' : List Value} (h : Own w e v xs) (h' : Own w e' v' xs') (hne : e ≠ e') : ∀ g, v.ownBlock = some g → v'.ownBlock ≠ some g := fun g hg hg' => by
  obtain ⟨c, h1⟩ := h.obj hg
  obtain ⟨c', h2⟩ := h'.obj hg'
  rw [h1] at h2
  simp at h2
  exact hne h2.2
theorem Hs.row {w : World} {p : Nat} {text : List UInt8} (h : Hs w p text) : ∃ arr, Row w p arr 31 := by
  obtain ⟨arr, rest, hr, _⟩ := h
  exact ⟨arr, hr⟩
theorem Hs.apart {w : World} {p : Nat} {text : List UInt8} {e : TypeId} {v : Value} {xs : List Value} (h : Hs w p text) (h' : Own w e v xs) (hne : e ≠ 31) : v.ownBlock ≠ some p := fun hg => by
  obtain ⟨c, h1⟩ := h'.obj hg
  obtain ⟨arr, h2⟩ := h.row
  unfold Row at h2
  rw [h1] at h2
  simp at h2
  exact hne h2.2
theorem Beside.hs {base : Nat} {w : World} {vh vt : Value} {ps : List Nat} {ts : List (Value × List UInt8)} (h : Beside base w vh vt ps ts) {p : Nat} (hp : p ∈ ps) : ∃ t, Hs w p t := by
  obtain ⟨j, hj⟩ := List.getElem?_of_mem hp
  have hl : j < ts.length := by rw [← h.len]; exact (List.getElem?_eq_some_iff.1 hj).1
  exact ⟨_, h.hh j p _ hj (List.getElem?_eq_getElem hl)⟩

theorem Beside.turn_no {base : Nat} {w w' : World} {vh vt : Value} {ps : List Nat} {ts : List (Value × List UInt8)} (h : Beside base w vh vt ps ts) (t : Turn no w w') : Beside base w' vh vt ps ts :=
  ⟨h.oh.turn_no t, h.ot.turn_no t, h.len, fun j p x h1 h2 => (h.hh j p x h1 h2).turn t (fun q => q), fun x hx => (h.tt x hx).turn_no t, h.nd, h.fp, h.fh, h.ft, h.ff⟩

/-- One more Hasher, with its text; only the two lists' rows may have turned. -/
theorem Beside.push {base : Nat} {w w' : World} {vh vt vh' vt' nt : Value} {p : Nat} {tx : List UInt8} {ps : List Nat} {ts : List (Value × List UInt8)} (h : Beside base w vh vt ps ts)
    (t : Turn (fun k => vh.ownBlock = some k ∨ vt.ownBlock = some k) w w') (hp : w.heap.size ≤ p) (hb : base ≤ w.heap.size)
    (oh : Own w' 23 vh' (ps.map ptr ++ [ptr p])) (ot : Own w' 22 vt' (ts.map (·.1) ++ [nt])) (hs : Hs w' p tx) (tt : Own w' 5 nt (tx.map bv))
    (fh : ∀ g, vh'.ownBlock = some g → base ≤ g) (ft : ∀ g, vt'.ownBlock = some g → base ≤ g) (ff : ∀ g, nt.ownBlock = some g → base ≤ g) : Beside base w' vh' vt' (ps ++ [p]) (ts ++ [(nt, tx)]) := by
  have hold : ∀ q ∈ ps, q < w.heap.size := fun q hq => by
    obtain ⟨x, hx⟩ := h.hs hq
    obtain ⟨arr, hr⟩ := hx.row
    exact hr.lt
  refine ⟨by simpa using oh, by simpa using ot, by simp [h.len], fun j q x h1 h2 => ?_, fun x hx => ?_, ?_, fun q hq => ?_, fh, ft, fun x hx g hg => ?_⟩
  · by_cases hj : j < ps.length
    · rw [List.getElem?_append_left hj] at h1
      rw [List.getElem?_append_left (by rw [← h.len]; exact hj)] at h2
      have hq := h.hh j q x h1 h2
      exact hq.turn t (fun e => e.elim (hq.apart h.oh (by decide)) (hq.apart h.ot (by decide)))
    · have hj' : j = ps.length := by
        have := (List.getElem?_eq_some_iff.1 h1).1
        simp at this
        omega
      subst hj'
      simp at h1
      rw [h.len] at h2
      simp at h2
      subst h1
      subst h2
      exact hs
  · rcases List.mem_append.1 hx with hx | hx
    · have ho := h.tt x hx
      exact ho.turn t (fun g hg e => e.elim (fun e => ho.apart h.oh (by decide) g hg e) (fun e => ho.apart h.ot (by decide) g hg e))
    · simp at hx
      subst hx
      exact tt
  · rw [List.nodup_append]
    refine ⟨h.nd, by simp, fun q hq r hr e => ?_⟩
    simp at hr
    have := hold q hq
    omega
  · rcases List.mem_append.1 hq with hq | hq
    · exact h.fp q hq
    · simp at hq
      omega
  · rcases List.mem_append.1 hx with hx | hx
    · exact h.ff x hx g hg
    · simp at hx
      subst hx
      exact ff g hg

/-- The k-th Hasher has taken more, and its text is laid anew; only that Hasher and the texts' row may have turned. -/
theorem Beside.set {base : Nat} {w w' : World} {vh vt nt : Value} {p k : Nat} {tx : List UInt8} {ps : List Nat} {ts : List (Value × List UInt8)} (h : Beside base w vh vt ps ts) (hk : ps[k]? = some p)
    (t : Turn (fun j => j = p ∨ vt.ownBlock = some j) w w') (ot : Own w' 22 vt ((ts.set k (nt, tx)).map (·.1))) (hs : Hs w' p tx) (tt : Own w' 5 nt (tx.map bv)) (ff : ∀ g, nt.ownBlock = some g → base ≤ g) :
    Beside base w' vh vt ps (ts.set k (nt, tx)) := by
  obtain ⟨t0, hp⟩ := h.hs (List.mem_of_getElem? hk)
  refine ⟨h.oh.turn t (fun g hg e => ?_), ot, by simp [h.len], fun j q x h1 h2 => ?_, fun x hx => ?_, h.nd, h.fp, h.fh, h.ft, fun x hx g hg => ?_⟩
  · rcases e with e | e
    · subst e
      exact hp.apart h.oh (by decide) hg
    · exact h.oh.apart h.ot (by decide) g hg e
  · by_cases hj : j = k
    · subst hj
      rw [hk] at h1
      cases h1
      rw [List.getElem?_set_self (by rw [← h.len]; exact (List.getElem?_eq_some_iff.1 hk).1)] at h2
      cases h2
      exact hs
    · rw [List.getElem?_set_ne (fun e => hj e.symm)] at h2
      have hq := h.hh j q x h1 h2
      refine hq.turn t (fun e => ?_)
      rcases e with e | e
      · subst e
        exact hj ((List.getElem?_inj (List.getElem?_eq_some_iff.1 h1).1 h.nd).1 (h1.trans hk.symm))
      · exact hq.apart h.ot (by decide) e
  · rcases List.mem_or_eq_of_mem_set hx with hx | hx
    · have ho := h.tt x hx
      refine ho.turn t (fun g hg e => ?_)
      rcases e with e | e
      · subst e
        exact hp.apart ho (by decide) hg
      · exact ho.apart h.ot (by decide) g hg e
    · subst hx
      exact tt
  · rcases List.mem_or_eq_of_mem_set hx with hx | hx
    · exact h.ff x hx g hg
    · subst hx
      exact ff g hg
end Go.Proofs.YtnibmkenbidnfaaDoor
