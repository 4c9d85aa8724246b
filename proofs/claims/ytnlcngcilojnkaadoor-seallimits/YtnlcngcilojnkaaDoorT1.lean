/- A registry as the list of its addresses and the list of its records. -/
import Derived.Test.YtnlcngcilojnkaaDoorS8
import Derived.Test.YtnlcngcilojnkaaDoorBaseN
namespace Go.Proofs.YtnlcngcilojnkaaDoor
open Go.RowKit Go.Maps Go.MuLone
set_option linter.unusedVariables false

def ptr (p : Nat) : Value := .pointer (some ⟨p, 0, none⟩)
theorem Own.obj {w : World} {e : TypeId} {v : Value} {xs : List Value} (h : Own w e v xs) {g : Nat} (hg : v.ownBlock = some g) : ∃ cur, w.heap[g]? = some (.cells cur e (0, 0)) := by
  rcases h.shape with ⟨rfl, _⟩ | ⟨g', cap, cur, rfl, ho, _⟩
  · cases hg
  · cases hg
    exact ⟨cur, ho⟩
theorem OwnN.obj {w : World} {e : TypeId} {size : Nat} {v : Value} {n : Nat} {xs : List Value} (h : OwnN w e size v n xs) {g : Nat} (hg : v.ownBlock = some g) : ∃ cur, w.heap[g]? = some (.cells cur e (0, 0)) := by
  rcases h.2 with ⟨rfl, _⟩ | ⟨g', cap, cur, rfl, _, ho, _⟩
  · cases hg
  · cases hg
    exact ⟨cur, ho⟩
theorem Own.at {w : World} {e : TypeId} {v : Value} {xs : List Value} (h : Own w e v xs) (hp : 0 < xs.length) : ∃ g cap, v = .slice (some ⟨g, 0, none⟩) xs.length cap ∧ xs.length ≤ cap ∧ cap ≤ maxLen ∧ ∀ j u, xs[j]? = some u → w.cell? ⟨g, j, none⟩ = some u := by
  rcases h.shape with ⟨rfl, rfl⟩ | ⟨g, cap, cur, rfl, hg, h1, h2, _⟩
  · simp at hp
  · exact ⟨g, cap, rfl, h1, h2, fun j u hu => h.cell j u hu⟩
theorem tag_ne {w : World} {g : Nat} {c c' : Array Value} {e e' : TypeId} {f f' : Nat × Nat} (h : w.heap[g]? = some (.cells c e f)) (h' : w.heap[g]? = some (.cells c' e' f')) : e = e' := by
  rw [h] at h'
  simp at h'
  exact h'.2.1

abbrev Rec := UInt64 × List UInt8
/-- What an address has signed, in its order. -/
def txs (R : List Rec) (a : UInt64) : List (List UInt8) := (R.filter (fun r => r.1 == a)).map (·.2)
def strV (s : List UInt8) : Value := .string ⟨s.toArray⟩
def noted (R : List Rec) (a : UInt64) (s : List UInt8) : List Rec := if (a, s) ∈ R then R else R ++ [(a, s)]
theorem strSize (s : List UInt8) : (ByteArray.mk s.toArray).size = s.length := by simp [ByteArray.size]

structure Maps2 (D1 D2 : DataW Value) (V : UInt64 → Value) (E : List UInt64) (R : List Rec) : Prop where
  m1 : Tidy D1
  m2 : IsMap D2
  sz : size D1 = R.length
  has1 : ∀ a s, s.length ≤ maxLen → has D1 (recKey Tryd.prog a ⟨s.toArray⟩) = decide ((a, s) ∈ R)
  has2 : ∀ a, has D2 (adKey a) = decide (a ∈ E)
  at2 : ∀ a, D2.atKey (adKey a) (.held (.slice none 0 0)) = .held (V a)
  lens : ∀ r ∈ R, r.2.length ≤ maxLen

theorem Maps2.new : Maps2 (.map []) (.map []) (fun _ => .slice none 0 0) [] [] :=
  ⟨tidy_empty, isMap_empty, rfl, fun a s _ => rfl, fun a => rfl, fun a => rfl, fun r h => by cases h⟩
theorem Maps2.enter {D1 D2 : DataW Value} {V : UInt64 → Value} {E : List UInt64} {R : List Rec} (h : Maps2 D1 D2 V E R) (a : UInt64) (ha : a ∉ E) : Maps2 D1 (D2.put (adKey a) (.held (.slice none 0 0))) V (E ++ [a]) R := by
  have hk := law29.key (adKey_of a)
  have h0 : has D2 (adKey a) = false := by rw [h.has2]; simpa using ha
  have hv : DataW.held (.slice none 0 0) = DataW.held (V a) := by rw [← h.at2 a, atKey_of_not_has h0]
  refine ⟨h.m1, h.m2.put _ _, h.sz, h.has1, fun b => ?_, fun b => ?_, h.lens⟩
  · by_cases hb : b = a
    · subst hb
      rw [has_put_same h.m2 hk]
      simp
    · rw [has_put_other (fun e => hb (adKey_inj e)), h.has2]
      simp [hb]
  · by_cases hb : b = a
    · subst hb
      rw [atKey_put_same h.m2 hk, hv]
    · rw [atKey_put_other (fun e => hb (adKey_inj e)), h.at2]
set_option maxRecDepth 100000 in
theorem Maps2.note {D1 D2 : DataW Value} {V : UInt64 → Value} {E : List UInt64} {R : List Rec} (h : Maps2 D1 D2 V E R) (a : UInt64) (ha : a ∈ E) (s : List UInt8) (hs : s.length ≤ maxLen) (hn : (a, s) ∉ R) (v : Value) :
    Maps2 (D1.put (recKey Tryd.prog a ⟨s.toArray⟩) (.agg [])) (D2.put (adKey a) (.held v)) (fun b => if b = a then v else V b) E (R ++ [(a, s)]) := by
  have hk := law29.key (adKey_of a)
  have hk1 := law86.key (recKey_of a ⟨s.toArray⟩ (by rw [strSize]; exact hs))
  have h0 : has D1 (recKey Tryd.prog a ⟨s.toArray⟩) = false := by rw [h.has1 a s hs]; simpa using hn
  refine ⟨h.m1.put hk1 _, h.m2.put _ _, ?_, fun b t ht => ?_, fun b => ?_, fun b => ?_, fun r hr => ?_⟩
  · rw [size_put h.m1, h0, h.sz]
    simp
  · by_cases hb : b = a ∧ t = s
    · obtain ⟨rfl, rfl⟩ := hb
      rw [has_put_same h.m1.isMap hk1]
      simp
    · rw [has_put_other (fun e => hb ?_), h.has1 b t ht]
      · have : ¬ ((b, t) = (a, s)) := fun e => hb (by simpa using e)
        simp [this]
      · obtain ⟨e1, e2⟩ := recKey_inj (by rw [strSize]; exact ht) (by rw [strSize]; exact hs) e
        refine ⟨e1, ?_⟩
        simpa using e2
  · by_cases hb : b = a
    · subst hb
      rw [has_put_same h.m2 hk]
      simpa using ha
    · rw [has_put_other (fun e => hb (adKey_inj e)), h.has2]
  · by_cases hb : b = a
    · subst hb
      rw [atKey_put_same h.m2 hk]
      simp
    · rw [atKey_put_other (fun e => hb (adKey_inj e)), h.at2]
      simp [hb]
  · rcases List.mem_append.1 hr with hr | hr
    · exact h.lens r hr
    · simp at hr
      subst hr
      exact hs

/-- A registry that New made: the addresses E, the records R; the texts of an address lie in V. -/
structure Bk (w : World) (p br bt : Nat) (V : UInt64 → Value) (E : List UInt64) (R : List Rec) : Prop where
  reg : ∃ D1 D2, Reg w p br bt (E.length + R.length) D1 D2 ∧ Maps2 D1 D2 V E R
  rows : ∀ a, Own w 9 (V a) ((txs R a).map strV)
  apart : ∀ a b g, a ≠ b → (V a).ownBlock = some g → (V b).ownBlock ≠ some g
/-- Its blocks. -/
def Fp (p br bt : Nat) (V : UInt64 → Value) (k : Nat) : Prop := k = p ∨ k = br ∨ k = bt ∨ ∃ a, (V a).ownBlock = some k

section
variable {w w' : World} {p br bt : Nat} {V : UInt64 → Value} {E : List UInt64} {R : List Rec}
theorem Bk.row_ne (h : Bk w p br bt V E R) {a : UInt64} {g : Nat} (hg : (V a).ownBlock = some g) : g ≠ p ∧ g ≠ br ∧ g ≠ bt ∧ g < w.heap.size := by
  obtain ⟨D1, D2, hr, _⟩ := h.reg
  obtain ⟨c, ho⟩ := (h.rows a).obj hg
  refine ⟨?_, ?_, ?_, lt_of_obj ho⟩
  · rintro rfl
    exact absurd (tag_ne ho hr.row) (by decide)
  · rintro rfl; obtain ⟨es, clock, hb, _⟩ := hr.recs; rw [hb] at ho; cases ho
  · rintro rfl; obtain ⟨es, clock, hb, _⟩ := hr.texts; rw [hb] at ho; cases ho
theorem Bk.lt (h : Bk w p br bt V E R) {k : Nat} (hk : Fp p br bt V k) : k < w.heap.size := by
  obtain ⟨D1, D2, hr, _⟩ := h.reg
  rcases hk with rfl | rfl | rfl | ⟨a, ha⟩
  · exact lt_of_obj hr.row
  · exact hr.recs.lt
  · exact hr.texts.lt
  · exact (h.row_ne ha).2.2.2
/-- A block of cells of another type is none of its blocks. -/
theorem Bk.away (h : Bk w p br bt V E R) {g : Nat} {c : Array Value} {e : TypeId} {f : Nat × Nat} (ho : w.heap[g]? = some (.cells c e f)) (h1 : e ≠ 57) (h2 : e ≠ 9) : ¬ Fp p br bt V g := by
  obtain ⟨D1, D2, hr, _⟩ := h.reg
  rintro (rfl | rfl | rfl | ⟨a, ha⟩)
  · exact h1 (tag_ne ho hr.row)
  · obtain ⟨es, clock, hb, _⟩ := hr.recs; rw [hb] at ho; cases ho
  · obtain ⟨es, clock, hb, _⟩ := hr.texts; rw [hb] at ho; cases ho
  · obtain ⟨c', ho'⟩ := (h.rows a).obj ha
    exact h2 (tag_ne ho ho')
theorem Bk.turn {S : Nat → Prop} (h : Bk w p br bt V E R) (t : Turn S w w') (hS : ∀ k, Fp p br bt V k → ¬ S k) : Bk w' p br bt V E R := by
  obtain ⟨D1, D2, hr, hm⟩ := h.reg
  exact ⟨⟨D1, D2, hr.turn t (hS _ (.inl rfl)) (hS _ (.inr (.inl rfl))) (hS _ (.inr (.inr (.inl rfl)))), hm⟩, fun a => (h.rows a).turn t (fun g hg => hS g (.inr (.inr (.inr ⟨a, hg⟩)))), h.apart⟩
theorem Bk.turn_no (h : Bk w p br bt V E R) (t : Turn no w w') : Bk w' p br bt V E R := h.turn t (fun _ _ q => q)

theorem bk_new (w : World) : Calls Tryd.prog 9 #[] w fun e w' => ∃ p br bt, e = .returned (.pointer (some ⟨p, 0, none⟩)) ∧ w.heap.size ≤ p ∧ w.heap.size ≤ br ∧ w.heap.size ≤ bt ∧ Bk w' p br bt (fun _ => .slice none 0 0) [] [] ∧ Turn no w w' :=
  (new9 w).mono fun e w' ⟨p, br, bt, he, h1, h2, h3, hr, t⟩ => ⟨p, br, bt, he, h1, h2, h3, ⟨⟨_, _, hr, Maps2.new⟩, fun a => Own.nil _ _, fun a b g _ q => by cases q⟩, t⟩

theorem Bk.enter0 (h : Bk w p br bt V E R) : Calls Tryd.prog 10 #[.pointer (some ⟨p, 0, none⟩), .int .u64 0] w fun e w' => e = .returned (.tuple #[.pointer none, .int .i64 2]) ∧ w' = w := by
  obtain ⟨D1, D2, hr, hm⟩ := h.reg
  exact enter_zero hr
theorem Bk.enter1 (h : Bk w p br bt V E R) (a : UInt64) (ha : ¬ (a.toNat : Int) = 0) (hin : a ∉ E) (hm : E.length + R.length < maxLen) : Calls Tryd.prog 10 #[.pointer (some ⟨p, 0, none⟩), .int .u64 a.toNat] w fun e w' =>
    ∃ q, e = .returned (.tuple #[.pointer (some ⟨q, 0, none⟩), .int .i64 0]) ∧ w.heap.size ≤ q ∧ Sg w' q p a ∧ Bk w' p br bt V (E ++ [a]) R ∧ Turn (fun k => k = p ∨ k = bt) w w' := by
  obtain ⟨D1, D2, hr, h2⟩ := h.reg
  refine (enter_new hr a ha (by rw [h2.has2]; simpa using hin) hm).mono fun e w' ⟨q, he, hq, sg, hr', t⟩ => ⟨q, he, hq, sg, ⟨⟨D1, _, ?_, h2.enter a hin⟩, fun b => (h.rows b).turn t (fun g hg e => e.elim (h.row_ne hg).1 (h.row_ne hg).2.2.1), h.apart⟩, t⟩
  have e : (E ++ [a]).length + R.length = E.length + R.length + 1 := by simp; omega
  rw [e]
  exact hr'
theorem Bk.enter2 (h : Bk w p br bt V E R) (a : UInt64) (ha : ¬ (a.toNat : Int) = 0) (hin : a ∈ E) : Calls Tryd.prog 10 #[.pointer (some ⟨p, 0, none⟩), .int .u64 a.toNat] w fun e w' =>
    e = .returned (.tuple #[.pointer none, .int .i64 30]) ∧ Bk w' p br bt V E R ∧ Turn (fun k => k = p) w w' := by
  obtain ⟨D1, D2, hr, h2⟩ := h.reg
  exact (enter_twice hr a ha (by rw [h2.has2]; simpa using hin)).mono fun e w' ⟨he, hr', t⟩ => ⟨he, ⟨⟨D1, D2, hr', h2⟩, fun b => (h.rows b).turn t (fun g hg e => (h.row_ne hg).1 e), h.apart⟩, t⟩
theorem Bk.known (h : Bk w p br bt V E R) (a : UInt64) : Calls Tryd.prog 15 #[.pointer (some ⟨p, 0, none⟩), .int .u64 a.toNat] w fun e w' => e = .returned (.bool (decide (a ∈ E))) ∧ Bk w' p br bt V E R ∧ Turn (fun k => k = p) w w' := by
  obtain ⟨D1, D2, hr, h2⟩ := h.reg
  exact (known15 hr a).mono fun e w' ⟨he, hr', t⟩ => ⟨by rw [he, h2.has2], ⟨⟨D1, D2, hr', h2⟩, fun b => (h.rows b).turn t (fun g hg e => (h.row_ne hg).1 e), h.apart⟩, t⟩
theorem Bk.count (h : Bk w p br bt V E R) : Calls Tryd.prog 13 #[.pointer (some ⟨p, 0, none⟩)] w fun e w' => e = .returned (.int .i64 R.length) ∧ Bk w' p br bt V E R ∧ Turn (fun k => k = p) w w' := by
  obtain ⟨D1, D2, hr, h2⟩ := h.reg
  exact (count13 hr).mono fun e w' ⟨he, hr', t⟩ => ⟨by rw [he, h2.sz], ⟨⟨D1, D2, hr', h2⟩, fun b => (h.rows b).turn t (fun g hg e => (h.row_ne hg).1 e), h.apart⟩, t⟩
theorem Bk.check (h : Bk w p br bt V E R) (a : UInt64) (va : Value) (bs : List UInt8) (hb : Bs w va bs) (hbp : bs ≠ [] → va.ownBlock ≠ some p) (X : List UInt8) (hx : X.length = 16) (hl : Laid1 w) (h2 : 2 ≤ w.heap.size) (hp1 : p ≠ 1) (hsz : (a, bs) ∈ R → bs.length ≤ 1099511627776) :
    Calls Tryd.prog 14 #[.pointer (some ⟨p, 0, none⟩), .int .u64 a.toNat, va, .agg (X.map bv).toArray] w fun e w' => e = .returned (.bool (decide ((a, bs) ∈ R) && (X == sealB a bs))) ∧ Bk w' p br bt V E R ∧ Turn (fun k => k = p) w w' := by
  obtain ⟨D1, D2, hr, hm⟩ := h.reg
  have hbl := hb.le
  by_cases hin : (a, bs) ∈ R
  · refine (check_yes hr a va bs hb hbp X hx (by rw [hm.has1 a bs hbl]; simpa using hin) hl h2 hp1 (hsz hin)).mono fun e w' ⟨he, hr', t⟩ => ⟨by rw [he]; simp [hin], ⟨⟨D1, D2, hr', hm⟩, fun b => (h.rows b).turn t (fun g hg e => (h.row_ne hg).1 e), h.apart⟩, t⟩
  · refine (check_no hr a va bs hb hbp X hx (by rw [hm.has1 a bs hbl]; simpa using hin)).mono fun e w' ⟨he, hr', t⟩ => ⟨by rw [he]; simp [hin], ⟨⟨D1, D2, hr', hm⟩, fun b => (h.rows b).turn t (fun g hg e => (h.row_ne hg).1 e), h.apart⟩, t⟩

theorem txs_append (R : List Rec) (a b : UInt64) (s : List UInt8) : txs (R ++ [(a, s)]) b = txs R b ++ (if b = a then [s] else []) := by
  unfold txs
  rw [List.filter_append, List.map_append]
  congr 1
  by_cases hb : b = a
  · subst hb; simp
  · have : ¬ a = b := fun e => hb e.symm
    simp [this, hb]
theorem txs_len (R : List Rec) (a : UInt64) : (txs R a).length ≤ R.length := by
  unfold txs
  rw [List.length_map]
  exact List.length_filter_le _ _

theorem Bk.note (h : Bk w p br bt V E R) (a : UInt64) (ha : a ∈ E) (s : List UInt8) (hs : s.length ≤ maxLen) (hm : E.length + R.length < maxLen) (hb : (R.length + 1) * 16 ≤ 140737488355328) : Calls Tryd.prog 30 #[.pointer (some ⟨p, 0, none⟩), recV a ⟨s.toArray⟩] w fun e w' =>
    e = .returned (.tuple #[]) ∧ ∃ V', Bk w' p br bt V' E (noted R a s) ∧ (∀ b g, (V' b).ownBlock = some g → (V b).ownBlock = some g ∨ w.heap.size < g) ∧ Turn (Fp p br bt V) w w' := by
  obtain ⟨D1, D2, hr, h2⟩ := h.reg
  have hsz : (ByteArray.mk s.toArray).size ≤ maxLen := by rw [strSize]; exact hs
  by_cases hin : (a, s) ∈ R
  · refine (note_old hr a _ hsz (by rw [h2.has1 a s hs]; simpa using hin)).mono fun e w' ⟨he, hr', t⟩ => ⟨he, V, ?_, fun b g hg => .inl hg, t.mono (fun _ _ q => .inl q)⟩
    rw [noted, if_pos hin]
    exact ⟨⟨D1, D2, hr', h2⟩, fun b => (h.rows b).turn t (fun g hg e => (h.row_ne hg).1 e), h.apart⟩
  · refine (note_new hr a _ hsz (by rw [h2.has1 a s hs]; simpa using hin) hm (V a) _ (h2.at2 a) (h.rows a) (by have := txs_len R a; rw [List.length_map]; omega)).mono fun e w' ⟨he, v', ho, hv, hr', t⟩ => ⟨he, fun b => if b = a then v' else V b, ?_, fun b g hg => ?_, t.mono (fun k _ q => ?_)⟩
    · rw [noted, if_neg hin]
      refine ⟨⟨_, _, ?_, h2.note a ha s hs hin v'⟩, fun b => ?_, fun b c g hbc hg hg' => ?_⟩
      · have e : E.length + (R ++ [(a, s)]).length = E.length + R.length + 1 := by simp; omega
        rw [e]
        exact hr'
      · rw [txs_append]
        by_cases hb : b = a
        · subst hb
          simp only [if_true, List.map_append, List.map_cons, List.map_nil]
          exact ho
        · simp only [if_neg hb, List.append_nil]
          refine (h.rows b).turn t (fun g hg e => ?_)
          rcases e with e | e | e | e
          · exact (h.row_ne hg).1 e
          · exact (h.row_ne hg).2.1 e
          · exact (h.row_ne hg).2.2.1 e
          · exact h.apart a b g (fun e => hb e.symm) e hg
      · by_cases h1 : b = a
        · by_cases h3 : c = a
          · exact hbc (h1.trans h3.symm)
          · simp only [if_pos h1, if_neg h3] at hg hg'
            rcases hv with hv | ⟨g', hv, hg2⟩
            · exact h.apart a c g (fun e => h3 e.symm) (by rw [← hv]; exact hg) hg'
            · rw [hg] at hv
              cases hv
              have := (h.row_ne hg').2.2.2
              omega
        · by_cases h3 : c = a
          · simp only [if_pos h3, if_neg h1] at hg hg'
            rcases hv with hv | ⟨g', hv, hg2⟩
            · exact h.apart b a g h1 hg (by rw [← hv]; exact hg')
            · rw [hg'] at hv
              cases hv
              have := (h.row_ne hg).2.2.2
              omega
          · simp only [if_neg h1, if_neg h3] at hg hg'
            exact h.apart b c g hbc hg hg'
    · by_cases hb : b = a
      · subst hb
        simp only [if_true] at hg
        rcases hv with hv | ⟨g', hv, hg2⟩
        · exact .inl (by rw [← hv]; exact hg)
        · rw [hg] at hv
          cases hv
          exact .inr hg2
      · simp only [if_neg hb] at hg
        exact .inl hg
    · rcases q with q | q | q | q
      · exact .inl q
      · exact .inr (.inl q)
      · exact .inr (.inr (.inl q))
      · exact .inr (.inr (.inr ⟨a, q⟩))

theorem Bk.sign (h : Bk w p br bt V E R) (q : Nat) (a : UInt64) (hq : Sg w q p a) (ha : a ∈ E) (va : Value) (bs : List UInt8) (hb : Bs w va bs) (hva : bs ≠ [] → ∀ g, va.ownBlock = some g → ¬ Fp p br bt V g) (hl : Laid1 w) (h2 : 2 ≤ w.heap.size) (h1 : ¬ Fp p br bt V 1) (hlen : bs.length ≤ 1048576)
    (hm : E.length + R.length < maxLen) (hbb : (R.length + 1) * 16 ≤ 140737488355328) : Calls Tryd.prog 12 #[.pointer (some ⟨q, 0, none⟩), va] w fun e w' =>
    e = .returned (.tuple #[.agg (sealV a bs), .int .i64 0]) ∧ ∃ V', Bk w' p br bt V' E (noted R a bs) ∧ (∀ b g, (V' b).ownBlock = some g → (V b).ownBlock = some g ∨ w.heap.size < g) ∧ Turn (Fp p br bt V) w w' := by
  have hp0 : w.cell? ⟨p, 0, none⟩ = some (.pointer (some ⟨p, 0, none⟩)) := by obtain ⟨D1, D2, hr, _⟩ := h.reg; exact hr.c0
  refine (sign12 w q p a va bs hq hp0 hb hl h2 hlen (Fp p br bt V) (fun W => ∃ V', Bk W p br bt V' E (noted R a bs) ∧ (∀ b g, (V' b).ownBlock = some g → (V b).ownBlock = some g ∨ w.heap.size < g)) (fun k hk => ⟨h.lt hk, ?_, ?_, ?_⟩) ?_ ?_).mono fun e w' ⟨he, t, V', hB, hf⟩ => ⟨he, V', hB, hf, t⟩
  · rintro rfl
    exact h.away hq (by decide) (by decide) hk
  · rintro rfl
    exact h1 hk
  · intro hne e
    exact hva hne k e hk
  · rintro W W' ⟨V', hB, hf⟩ t
    refine ⟨V', hB.turn t (fun k hk e => ?_), hf⟩
    subst e
    rcases hk with hk | hk | hk | ⟨b, hk⟩
    · have := h.lt (k := p) (.inl rfl); omega
    · have := h.lt (k := br) (.inr (.inl rfl)); omega
    · have := h.lt (k := bt) (.inr (.inr (.inl rfl))); omega
    · rcases hf b _ hk with q | q
      · have := (h.row_ne q).2.2.2; omega
      · omega
  · intro W t
    refine ((h.turn_no t).note a ha bs (by simp [maxLen]; omega) hm hbb).mono fun e w' ⟨he, V', hB, hf, t'⟩ => ⟨he, t', V', hB, fun b g hg => ?_⟩
    rcases hf b g hg with q | q
    · exact .inl q
    · exact .inr (by have := t.size; omega)
end
end Go.Proofs.YtnlcngcilojnkaaDoor
