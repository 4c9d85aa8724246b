/- SealOnce: what a script makes, and two sights beside each other. -/
import Derived.Test.YtnlcngcilojnkaaDoorU2
import Derived.Test.YtnlcngcilojnkaaDoorT7
namespace Go.Proofs.YtnlcngcilojnkaaDoor
open Go.RowKit Go.Maps Go.MuLone
set_option linter.unusedVariables false

theorem txs_app (R S : List Rec) (a : UInt64) : txs (R ++ S) a = txs R a ++ txs S a := by
  unfold txs
  rw [List.filter_append, List.map_append]
theorem recs_app (B C : List Wr) (k : Nat) : recs (B ++ C) k = recs B k ++ recs C k := by
  unfold recs
  rw [List.filter_append, List.map_append]
theorem txs_cons (r : Rec) (R : List Rec) (a : UInt64) : (txs (r :: R) a).length = (if r.1 = a then 1 else 0) + (txs R a).length := by
  unfold txs
  by_cases h : r.1 = a
  · simp [h]; omega
  · simp [h]
theorem sum_one (E : List UInt64) (x : UInt64) (f : UInt64 → Nat) (hn : E.Nodup) (hx : x ∈ E) : (E.map fun a => (if x = a then 1 else 0) + f a).sum = 1 + (E.map f).sum := by
  have h0 : ∀ E : List UInt64, x ∉ E → (E.map fun a => (if x = a then 1 else 0) + f a).sum = (E.map f).sum := by
    intro E
    induction E with
    | nil => simp
    | cons b E ih =>
      intro h
      simp at h
      simp [h.1, ih h.2]
  induction E with
  | nil => simp at hx
  | cons b E ih =>
    rw [List.nodup_cons] at hn
    simp only [List.map_cons, List.sum_cons]
    by_cases hb : x = b
    · subst hb
      rw [h0 E hn.1]
      simp
      omega
    · have hx' : x ∈ E := by simpa [hb] using hx
      rw [ih hn.2 hx']
      simp [hb]
      omega
/-- Each record is of one of the addresses: the addresses' messages together are all. -/
theorem sum_txs (E : List UInt64) (hn : E.Nodup) : ∀ R : List Rec, (∀ r ∈ R, r.1 ∈ E) → (E.map fun a => (txs R a).length).sum = R.length
  | [], _ => by
    have : ∀ E : List UInt64, (E.map fun a => (txs [] a).length).sum = 0 := fun E => by
      induction E with
      | nil => rfl
      | cons b E ih =>
        simp [txs] at ih ⊢
        exact ih
    simpa using this E
  | r :: R, h => by
    have e : (E.map fun a => (txs (r :: R) a).length) = E.map fun a => (if r.1 = a then 1 else 0) + (txs R a).length := by
      apply List.map_congr_left
      intro a _
      exact txs_cons r R a
    rw [e, sum_one E r.1 (fun a => (txs R a).length) hn (h r (by simp)), sum_txs E hn R (fun x hx => h x (by simp [hx]))]
    simp
    omega
theorem sum_take (E : List UInt64) (f : UInt64 → Nat) (i : Nat) (a : UInt64) (h : E[i]? = some a) : ((E.take (i + 1)).map f).sum = ((E.take i).map f).sum + f a := by
  rw [List.take_add_one, h]
  simp

structure AbOk (s : Ab) : Prop where
  nd : ∀ k, (s.E k).Nodup
  inn : ∀ x ∈ s.B, x.2.1 ∈ s.E x.1
theorem sgA_mem (E : List UInt64) (x : Int) (h : E ≠ []) : sgA E x ∈ E := by
  have hl : 1 ≤ E.length := by
    have := List.length_pos_iff.2 h
    omega
  have ha := around_lt x E.length hl
  unfold sgA
  rw [List.getD_eq_getElem?_getD, List.getElem?_eq_getElem ha]
  exact List.getElem_mem _
theorem AbOk.step {s : Ab} (h : AbOk s) (x : Opx) : AbOk (stepA s x) := by
  unfold stepA
  split
  · refine ⟨fun k => ?_, fun y hy => ?_⟩
    · by_cases hk : k = x.k
      · subst hk
        simp only [if_true]
        unfold entE
        split
        · exact h.nd _
        · next hc =>
          rw [List.nodup_append]
          refine ⟨h.nd _, by simp, fun b hb c hc' e => ?_⟩
          simp at hc'
          subst e
          subst hc'
          exact hc (.inr hb)
      · simp only [if_neg hk]
        exact h.nd k
    · have := h.inn y hy
      by_cases hk : y.1 = x.k
      · simp only [hk, if_true]
        rw [hk] at this
        unfold entE
        split
        · exact this
        · exact List.mem_append_left _ this
      · simp only [if_neg hk]
        exact this
  · split
    · refine ⟨h.nd, fun y hy => ?_⟩
      simp only [sgB] at hy
      split at hy
      · exact h.inn y hy
      · next hc =>
        split at hy
        · exact h.inn y hy
        · rcases List.mem_append.1 hy with hy | hy
          · exact h.inn y hy
          · simp at hy
            subst hy
            exact sgA_mem _ _ (fun q => hc (.inl q))
    · exact h
theorem abOk_run (l : List Opx) : AbOk (runA l) := by
  unfold runA
  suffices h : ∀ s, AbOk s → AbOk (l.foldl stepA s) from h _ ⟨fun k => by simp [ab0], fun x hx => by simp [ab0] at hx⟩
  induction l with
  | nil => exact fun s h => h
  | cons x l ih => exact fun s h => ih _ (h.step x)
theorem stepA_more (s : Ab) (x : Opx) : ∃ C, (stepA s x).B = s.B ++ C := by
  unfold stepA
  split
  · exact ⟨[], by simp⟩
  · split
    · simp only [sgB]
      split
      · exact ⟨[], by simp⟩
      · split
        · exact ⟨[], by simp⟩
        · exact ⟨_, rfl⟩
    · exact ⟨[], by simp⟩
theorem runA_more (l : List Opx) (i : Nat) : ∃ C, (runA l).B = (runA (l.take i)).B ++ C := by
  have e : runA l = (l.drop i).foldl stepA (runA (l.take i)) := by
    unfold runA
    rw [← List.foldl_append, List.take_append_drop]
  rw [e]
  generalize runA (l.take i) = s
  generalize l.drop i = m
  induction m generalizing s with
  | nil => exact ⟨[], by simp⟩
  | cons x m ih =>
    obtain ⟨C, hC⟩ := ih (stepA s x)
    obtain ⟨D, hD⟩ := stepA_more s x
    exact ⟨D ++ C, by rw [List.foldl_cons, hC, hD, List.append_assoc]⟩
/-- The records of one address, up to the j-th record of the book. -/
theorem at_hit (B : List Wr) (k : Nat) (a : UInt64) (j : Nat) (s : List UInt8) (h : B[j]? = some (k, a, s)) :
    txs (recs (B.take (j + 1)) k) a = txs (recs (B.take j) k) a ++ [s] ∧ (txs (recs B k) a)[(txs (recs (B.take j) k) a).length]? = some s := by
  have e1 : B.take (j + 1) = B.take j ++ [(k, a, s)] := by rw [List.take_add_one, h]; rfl
  have e2 : txs (recs [(k, a, s)] k) a = [s] := by simp [recs, txs]
  have h1 : txs (recs (B.take (j + 1)) k) a = txs (recs (B.take j) k) a ++ [s] := by rw [e1, recs_app, txs_app, e2]
  refine ⟨h1, ?_⟩
  have e3 : txs (recs B k) a = (txs (recs (B.take j) k) a ++ [s]) ++ txs (recs (B.drop (j + 1)) k) a := by
    rw [← h1, ← txs_app, ← recs_app, List.take_append_drop]
  rw [e3, List.getElem?_append_left (by simp), List.getElem?_append_right (Nat.le_refl _)]
  simp
theorem at_miss (B : List Wr) (k : Nat) (a : UInt64) (j : Nat) (x : Wr) (h : B[j]? = some x) (hm : ¬ (x.1 = k ∧ x.2.1 = a)) :
    txs (recs (B.take (j + 1)) k) a = txs (recs (B.take j) k) a := by
  have e1 : B.take (j + 1) = B.take j ++ [x] := by rw [List.take_add_one, h]; rfl
  rw [e1, recs_app, txs_app]
  have : txs (recs [x] k) a = [] := by
    unfold txs recs
    by_cases h1 : x.1 = k
    · have h2 : ¬ x.2.1 = a := fun q => hm ⟨h1, q⟩
      simp [h1, h2]
    · simp [h1]
  rw [this, List.append_nil]
theorem sum_take_le (E : List UInt64) (f : UInt64 → Nat) (i : Nat) : ((E.take i).map f).sum ≤ (E.map f).sum := by
  have e : (E.map f).sum = ((E.map f).take i).sum + ((E.map f).drop i).sum := by rw [← List.sum_append, List.take_append_drop]
  rw [List.map_take, e]
  omega

structure Low (M sw : Nat) (d : Nat → Sd) (vb : Value) : Prop where
  sw : sw < M
  sd : ∀ k g, k < 2 → SFp (d k) g → g < M
  vb : ∀ g, vb.ownBlock = some g → g < M
theorem Sight.low {base sw : Nat} {w : World} {d : Nat → Sd} {vb : Value} {B : List Wr} (h : Sight base w sw d vb B) : Low w.heap.size sw d vb := ⟨h.row.lt, fun k g hk hg => (h.side k hk).lt hg, fun g hg => h.book.lt hg⟩
theorem Sight.turn_low {S : Nat → Prop} {base sw M : Nat} {w w' : World} {d : Nat → Sd} {vb : Value} {B : List Wr} (h : Sight base w sw d vb B) (lo : Low M sw d vb) (t : Turn S w w') (hS : ∀ g, S g → M ≤ g) : Sight base w' sw d vb B :=
  ⟨h.row.turn t (fun q => by have := hS _ q; have := lo.sw; omega), fun k hk => (h.side k hk).turn t (fun g hg q => by have := hS _ q; have := lo.sd k g hk hg; omega), h.disj, h.fresh, h.book.turn t (fun g hg q => by have := hS _ q; have := lo.vb g hg; omega), h.fb, h.fs, Nat.le_trans h.hb t.size, h.who⟩

/-- Two sights, the second made behind the first. -/
structure Twain (w : World) (M sv : Nat) (dv : Nat → Sd) (vv : Value) (Bv : List Wr) (sw : Nat) (d : Nat → Sd) (vb : Value) (B : List Wr) (W : World) : Prop where
  s1 : Sight w.heap.size W sv dv vv Bv
  lo : Low M sv dv vv
  s2 : Sight M W sw d vb B
  hM : w.heap.size ≤ M
  t : Turn no w W
section
variable {w W W' : World} {M sv : Nat} {dv : Nat → Sd} {vv : Value} {Bv : List Wr} {sw : Nat} {d : Nat → Sd} {vb : Value} {B : List Wr}
theorem Twain.no (h : Twain w M sv dv vv Bv sw d vb B W) (t : Turn no W W') : Twain w M sv dv vv Bv sw d vb B W' := ⟨h.s1.turn_no t, h.lo, h.s2.turn_no t, h.hM, h.t.then_no t⟩
theorem Twain.one (h : Twain w M sv dv vv Bv sw d vb B W) {k : Nat} (hk : k < 2) (t : Turn (fun g => g = (dv k).p) W W') (hB : Bk W' (dv k).p (dv k).br (dv k).bt (dv k).V (dv k).E (recs Bv k)) : Twain w M sv dv vv Bv sw d vb B W' := by
  have hp : (dv k).p < M := h.lo.sd k _ hk (.inl (.inl rfl))
  have hb := h.s1.fresh k _ hk (.inl (.inl rfl))
  exact ⟨(h.s1.checked hk t hB).1, h.lo, h.s2.turn t (fun g hg q => by omega), h.hM, (h.t.of_no.trans t (fun _ _ q => q)).mono (S := fun g => g = (dv k).p) (fun g hg q => by omega)⟩
theorem Twain.two (h : Twain w M sv dv vv Bv sw d vb B W) {k : Nat} (hk : k < 2) (t : Turn (fun g => g = (d k).p) W W') (hB : Bk W' (d k).p (d k).br (d k).bt (d k).V (d k).E (recs B k)) : Twain w M sv dv vv Bv sw d vb B W' := by
  have hp : M ≤ (d k).p := h.s2.fresh k _ hk (.inl (.inl rfl))
  have := h.hM
  exact ⟨h.s1.turn_low h.lo t (fun g q => by omega), h.lo, (h.s2.checked hk t hB).1, h.hM, (h.t.of_no.trans t (fun _ _ q => q)).mono (S := fun g => g = (d k).p) (fun g hg q => by omega)⟩
end
theorem Script.turn_no {w w' : World} {v : Value} {l : List Opx} (h : Script w v l) (t : Turn no w w') : Script w' v l := by
  rcases h with q | ⟨a, cap, e, h1, h2, h3⟩
  · exact .inl q
  · refine .inr ⟨a, cap, e, h1, h2, fun j x hx => ?_⟩
    obtain ⟨b, off, e, hr, hb, hX⟩ := h3 j x hx
    exact ⟨b, off, e, rangeAt_turn hr t, hb.turn_no t, hX⟩
theorem Script.take {w : World} {a : Option Addr} {n cp : Nat} {l : List Opx} (h : Script w (.slice a n cp) l) (m : Nat) (hm : m ≤ l.length) : Script w (.slice a m cp) (l.take m) := by
  rcases h with ⟨q, rfl⟩ | ⟨a', cap, e, h1, h2, h3⟩
  · cases q
    have : m = 0 := by simpa using hm
    subst this
    exact .inl ⟨rfl, rfl⟩
  · cases e
    refine .inr ⟨a', cp, by rw [List.length_take, Nat.min_eq_left hm], by rw [List.length_take]; omega, h2, fun j x hx => h3 j x ?_⟩
    rw [List.getElem?_take] at hx
    split at hx
    · exact hx
    · cases hx
end Go.Proofs.YtnlcngcilojnkaaDoor
