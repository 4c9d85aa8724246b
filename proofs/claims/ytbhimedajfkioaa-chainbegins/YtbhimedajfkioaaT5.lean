/- Two beginnings of one genesis; accounts from a place on, in a block that is written. -/
import Derived.Test.YtbhimedajfkioaaT4
namespace Go.Proofs.Ytbhimedajfkioaa
open Go.RowKit
set_option linter.unusedVariables false

theorem begin13 (w : World) (s : ByteArray) (t : Nat) (va : Value) (p : Pm) (l : List Ac) (ha : As w va l) (hl : l.length * 40 ≤ 140737488355328) : Calls Try.prog 13 #[.agg (gnL s t va p).toArray] w fun e w' => Began w.heap.size w' e s t p l ∧ Turn no w w' := by
  by_cases hA : argB s t p = true
  · exact begin13_ok w s t va p l ha hl hA
  · have hA : argB s t p = false := by simpa using hA
    have hb : beginE s t p l [] = 2 := by unfold beginE; rw [if_pos hA]
    refine (begin13_arg w s t va p l ha hA).mono ?_
    rintro e w' ⟨rfl, t1⟩
    exact ⟨⟨[], fun q => (by rw [hA] at q; cases q), .inl ⟨by rw [hb]; decide, by rw [hb]⟩⟩, t1⟩
theorem begin14 (w : World) (s : ByteArray) (t : Nat) (va : Value) (p : Pm) (l : List Ac) (ha : As w va l) (hl : l.length * 40 ≤ 140737488355328) : Calls Try.prog 14 #[.agg (gnL s t va p).toArray] w fun e w' => Began w.heap.size w' e s t p l ∧ Turn no w w' := by
  by_cases hA : argB s t p = true
  · exact begin14_ok w s t va p l ha hl hA
  · have hA : argB s t p = false := by simpa using hA
    have hb : beginE s t p l [] = 2 := by unfold beginE; rw [if_pos hA]
    refine (begin14_arg w s t va p l ha hA).mono ?_
    rintro e w' ⟨rfl, t1⟩
    exact ⟨⟨[], fun q => (by rw [hA] at q; cases q), .inl ⟨by rw [hb]; decide, by rw [hb]⟩⟩, t1⟩
/-- A state whose lists lie behind old. -/
def StOf (old : Nat) (W : World) (X : Array Value) (s : ByteArray) (p : Pm) (t : Int) (L N : List Mb) (l : List Ac) (k : Int) : Prop :=
  ∃ v u va, X = (stL s p 0 t v u va nilV 0 k).toArray ∧ ∀ W', Turn (fun k => k < old) W W' → Ms W' v L ∧ Ms W' u N ∧ As W' va l
theorem ms_nil (W : World) : Ms W nilV [] := ⟨none, 0, rfl, by simp, by simp [maxLen], fun m hm => (by cases hm), fun j m hm => (by simp at hm)⟩
theorem as_nil (W : World) : As W nilV [] := ⟨none, 0, rfl, by simp, by simp [maxLen], fun m hm => (by cases hm), fun j m hm => (by simp at hm)⟩
theorem rs_nil (W : World) : Rs W nilV [] := ⟨none, 0, rfl, by simp, by simp [maxLen], fun m hm => (by cases hm), fun j m hm => (by simp at hm)⟩
theorem zero_of (old : Nat) (W : World) : StOf old W stZ.toArray ByteArray.empty p0 0 [] [] [] 0 := ⟨nilV, nilV, nilV, rfl, fun W' _ => ⟨ms_nil W', ms_nil W', as_nil W'⟩⟩
theorem Began.shape {old : Nat} {w : World} {e : Ending} {s : ByteArray} {t : Nat} {p : Pm} {l : List Ac} (h : Began old w e s t p l) : ∃ X E, e = .returned (.tuple #[.agg X, .int .i64 E]) ∧ X.size = 55 ∧ (Try.prog.info? 65).map (·.size) = some X.size ∧ X.all (·.oneCell') = true := by
  obtain ⟨L, _, ⟨_, rfl⟩ | ⟨_, v, u, va, rfl, hv, hu, ha, _⟩⟩ := h
  · exact ⟨_, _, rfl, rfl, sizez, onez⟩
  · obtain ⟨_, _, e1, _⟩ := hv
    obtain ⟨_, _, e2, _⟩ := hu
    obtain ⟨_, _, e3, _⟩ := ha
    subst e1 e2 e3
    exact ⟨_, _, rfl, rfl, size65 _ _ _ _ _ _ _ _ _ _, one65 _ _ _ _ _ _ _ _ _ _ _ _ _⟩
theorem Began.st {old : Nat} {w : World} {v u va : Value} {L : List Ac} {l : List Ac} (hv : Made old w v (firstL L)) (hu : Made old w u (nextL L)) (ha : As w va l) (hf : ∀ g, va.ownBlock = some g → old ≤ g) (s : ByteArray) (p : Pm) (t k : Int) :
    StOf old w (stL s p 0 t v u va nilV 0 k).toArray s p t (firstL L) (nextL L) l k := by
  refine ⟨v, u, va, rfl, fun W' T => ⟨(hv.turn T (fun g hg q => ?_)).ms, (hu.turn T (fun g hg q => ?_)).ms, ?_⟩⟩
  · have h1 := hv.ge hg
    have h2 : g < old := q
    omega
  · have h1 := hu.ge hg
    have h2 : g < old := q
    omega
  · obtain ⟨a, c, e, h⟩ := ha
    refine ⟨a, c, e, h.turn T (fun x hx q => ?_)⟩
    have h1 := hf x.block (by rw [e, hx]; rfl)
    have h2 : x.block < old := q
    omega
/-- Two that began of one genesis tell the same. -/
theorem Began.two {old old' : Nat} {w w' : World} {X Y : Array Value} {E F : Int} {s : ByteArray} {t : Nat} {p : Pm} {l : List Ac} (h : Began old w (.returned (.tuple #[.agg X, .int .i64 E])) s t p l) (h' : Began old' w' (.returned (.tuple #[.agg Y, .int .i64 F])) s t p l) :
    E = F ∧ ∃ s' p' t' L N l' k, StOf old w X s' p' t' L N l' k ∧ StOf old' w' Y s' p' t' L N l' k := by
  obtain ⟨L, hS, h⟩ := h
  obtain ⟨L', hS', h'⟩ := h'
  have key : beginE s t p l L = beginE s t p l L' ∧ (beginE s t p l L = 0 → L = L') := by
    unfold beginE
    by_cases hA : argB s t p = false
    · rw [if_pos hA, if_pos hA]
      exact ⟨rfl, fun q => by cases q⟩
    · rw [if_neg hA, if_neg hA]
      by_cases hN : newE l = 0
      · have hA' : argB s t p = true := by simpa using hA
        have e := (hS hA' hN).one (asc_of_new hN).1 (hS' hA' hN)
        subst e
        exact ⟨rfl, fun _ => rfl⟩
      · rw [if_pos hN, if_pos hN]
        exact ⟨rfl, fun q => absurd q hN⟩
  rcases h with ⟨h0, h1⟩ | ⟨h0, v, u, va, h1, hv, hu, ha, hf⟩ <;> rcases h' with ⟨k0, k1⟩ | ⟨k0, v', u', va', k1, hv', hu', ha', hf'⟩
  · simp only [Ending.returned.injEq, Value.tuple.injEq, Array.mk.injEq, List.cons.injEq, Value.agg.injEq, Value.int.injEq, true_and, and_true] at h1 k1
    obtain ⟨rfl, rfl⟩ := h1
    obtain ⟨rfl, rfl⟩ := k1
    exact ⟨key.1, _, _, _, _, _, _, _, zero_of _ _, zero_of _ _⟩
  · exact absurd (key.1.trans k0) h0
  · exact absurd (key.1.symm.trans h0) k0
  · simp only [Ending.returned.injEq, Value.tuple.injEq, Array.mk.injEq, List.cons.injEq, Value.agg.injEq, Value.int.injEq, true_and, and_true] at h1 k1
    obtain ⟨rfl, rfl⟩ := h1
    obtain ⟨rfl, rfl⟩ := k1
    have e := key.2 h0
    subst e
    exact ⟨rfl, _, _, _, _, _, _, _, Began.st hv hu ha hf _ _ _ _, Began.st hv' hu' ha' hf' _ _ _ _⟩
/-- sameState of the two. -/
theorem two15 {old old' : Nat} {w w' W : World} {X Y : Array Value} {s : ByteArray} {p : Pm} {t : Int} {L N : List Mb} {l : List Ac} {k : Int} (h : StOf old w X s p t L N l k) (h' : StOf old' w' Y s p t L N l k) (T : Turn (fun k => k < old) w W) (T' : Turn (fun k => k < old') w' W) :
    Calls Try.prog 15 #[.agg X, .agg Y] W fun e W' => e = .returned (.bool true) ∧ Turn no W W' := by
  obtain ⟨v, u, va, rfl, h⟩ := h
  obtain ⟨v', u', va', rfl, h'⟩ := h'
  obtain ⟨a1, a2, a3⟩ := h W T
  obtain ⟨b1, b2, b3⟩ := h' W T'
  exact state15 W s p 0 t v v' u u' va nilV va' nilV L N l [] 0 k a1 b1 a2 b2 a3 (rs_nil W) b3 (rs_nil W)

def acL (m : Ac) : List Value := [.int .u64 m.ad, .int .u64 m.bal, .int .u64 m.bond, .int .u64 m.nonce, .bool m.jail]
def a71 : Ac := ⟨71, 0, 0, 0, false⟩
theorem Turn.setCells (b : Nat) : ∀ (vs : List Value) (o : Nat) (w : World), Turn (fun k => k = b) w (w.setCells b o vs)
  | [], _, w => Turn.refl _ w
  | v :: r, o, w => ((Turn.refl (fun k => k = b) w).setCell (p := ⟨b, o, none⟩) (fun _ => rfl) v).trans (Turn.setCells b r (o + 1) _) (fun _ _ q => q)
/-- The accounts of a block from a place on. -/
def Fro (W : World) (g i : Nat) (M : List Ac) : Prop := ∃ cur, Row W g cur 58 ∧ M.length * 5 ≤ cur.size ∧ ∀ j m, i ≤ j → M[j]? = some m → ∀ q x, (acL m)[q]? = some x → cur[j * 5 + q]? = some x
theorem Fro.turn {S : Nat → Prop} {W W' : World} {g i : Nat} {M : List Ac} (h : Fro W g i M) (t : Turn S W W') (hn : ¬ S g) : Fro W' g i M := by
  obtain ⟨cur, R, z, c⟩ := h
  exact ⟨cur, R.turn t hn, z, c⟩
theorem Fro.cells {W : World} {g i : Nat} {M : List Ac} (h : Fro W g i M) {j : Nat} {m : Ac} (hj : i ≤ j) (hm : M[j]? = some m) :
    W.cell? ⟨g, j * 5, none⟩ = some (.int .u64 m.ad) ∧ W.cell? ⟨g, j * 5 + 1, none⟩ = some (.int .u64 m.bal) ∧ W.cell? ⟨g, j * 5 + 2, none⟩ = some (.int .u64 m.bond) ∧ W.cell? ⟨g, j * 5 + 3, none⟩ = some (.int .u64 m.nonce) ∧ W.cell? ⟨g, j * 5 + 4, none⟩ = some (.bool m.jail) := by
  obtain ⟨cur, R, z, c⟩ := h
  exact ⟨R.cell _ _ (c j m hj hm 0 _ rfl), R.cell _ _ (c j m hj hm 1 _ rfl), R.cell _ _ (c j m hj hm 2 _ rfl), R.cell _ _ (c j m hj hm 3 _ rfl), R.cell _ _ (c j m hj hm 4 _ rfl)⟩
theorem Fro.there {W : World} {g i : Nat} {M : List Ac} (h : Fro W g i M) {j : Nat} (hj : j < M.length) : W.there g (j * 5) 5 := by
  obtain ⟨cur, R, z, c⟩ := h
  intro q hq
  refine ⟨?_, frozen_of_row _ _ _ _ 58 R⟩
  rw [R.cell _ _ (Array.getElem?_eq_getElem (i := j * 5 + q) (by omega))]
  rfl
theorem Fro.write {W : World} {g i : Nat} {M : List Ac} (h : Fro W g i M) (v0 v1 v2 v3 v4 : Value) : Fro (W.setCells g (i * 5) [v0, v1, v2, v3, v4]) g (i + 1) M := by
  obtain ⟨cur, R, z, c⟩ := h
  have R0 := heap_setCell_same W g (i * 5) cur 58 v0 R
  have R1 := heap_setCell_same _ g (i * 5 + 1) _ 58 v1 R0
  have R2 := heap_setCell_same _ g (i * 5 + 1 + 1) _ 58 v2 R1
  have R3 := heap_setCell_same _ g (i * 5 + 1 + 1 + 1) _ 58 v3 R2
  have R4 := heap_setCell_same _ g (i * 5 + 1 + 1 + 1 + 1) _ 58 v4 R3
  refine ⟨_, R4, by simpa using z, fun j m hj hm q x hx => ?_⟩
  have h0 := c j m (by omega) hm q x hx
  have hq : q < 5 := (List.getElem?_eq_some_iff.1 hx).1
  simp only [Array.getElem?_setIfInBounds]
  rw [if_neg (by omega), if_neg (by omega), if_neg (by omega), if_neg (by omega), if_neg (by omega)]
  exact h0
theorem acC_snoc (l : List Ac) (m : Ac) : acC l ++ acL m = acC (l ++ [m]) := by simp [acC, acL]
theorem OwnN.fro {W : World} {g c n : Nat} {M : List Ac} (h : OwnN W 58 5 (.slice (some ⟨g, 0, none⟩) n c) n (acC M)) (hn : n = M.length) (h0 : 0 < n) : Fro W g 0 M := by
  subst hn
  rcases h.2 with ⟨e, _⟩ | ⟨b, cap, cur, e, _, R, h1, h2, h3, h4⟩
  · cases e
  · cases e
    refine ⟨cur, R, by rw [h3]; exact Nat.mul_le_mul_right 5 h1, fun j m hj hm q x hx => ?_⟩
    have hq : q < 5 := (List.getElem?_eq_some_iff.1 hx).1
    have hjm := (List.getElem?_eq_some_iff.1 hm).1
    have h5 := acC_at M j m hm q hq
    rw [← h4, List.getElem?_take, if_pos (by omega)] at h5
    rw [← Array.getElem?_toList, h5]
    exact hx
end Go.Proofs.Ytbhimedajfkioaa
