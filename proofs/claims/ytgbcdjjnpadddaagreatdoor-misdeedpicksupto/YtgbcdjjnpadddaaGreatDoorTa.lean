/- Texts in one. -/
import Derived.Test.YtgbcdjjnpadddaaGreatDoorS8
import Derived.Test.YtgbcdjjnpadddaaGreatDoorBaseN
import Derived.Lib.ConvBytes
/- A registry as the list of its addresses and the list of its records. -/
namespace Go.Proofs.YtgbcdjjnpadddaaGreatDoor
open Go.RowKit Go.Maps Go.MuLone
set_option linter.unusedVariables false

def ptr (p : Nat) : Value := .pointer (some ⟨p, 0, none⟩)
theorem Own.obj {w : World} {e : TypeId} {v : Value} {xs : List Value} (h : Own w e v xs) {g : Nat} (hg : v.ownBlock = some g) : ∃ cur, w.heap[g]? = some (.cells cur e (0, 0)) := by
  rcases h.shape with ⟨rfl, _⟩ | ⟨g', cap, cur, rfl, ho, _⟩
  · cases hg
  · cases hg
    exact ⟨cur, ho⟩
theorem OwnN.obj {w : World} {e : TypeId} {size : Nat} {v : Value} {n : Nat} {xs : List Value} (h : OwnN w e size v n xs) {g : Nat} (hg : v.ownBlock = some g) : ∃ cur, w.heap[g]? = some (.cells cur e (0, 0)) := by
  rcases h.2 with ⟨rfl, _⟩ | ⟨g', cap, cur, rfl, _, ho, _⟩
  · cases hg
  · cases hg
    exact ⟨cur, ho⟩
theorem Own.at {w : World} {e : TypeId} {v : Value} {xs : List Value} (h : Own w e v xs) (hp : 0 < xs.length) : ∃ g cap, v = .slice (some ⟨g, 0, none⟩) xs.length cap ∧ xs.length ≤ cap ∧ cap ≤ maxLen ∧ ∀ j u, xs[j]? = some u → w.cell? ⟨g, j, none⟩ = some u := by
  rcases h.shape with ⟨rfl, rfl⟩ | ⟨g, cap, cur, rfl, hg, h1, h2, _⟩
  · simp at hp
  · exact ⟨g, cap, rfl, h1, h2, fun j u hu => h.cell j u hu⟩
theorem tag_ne {w : World} {g : Nat} {c c' : Array Value} {e e' : TypeId} {f f' : Nat × Nat} (h : w.heap[g]? = some (.cells c e f)) (h' : w.heap[g]? = some (.cells c' e' f')) : e = e' := by
  rw [h] at h'
  simp at h'
  exact h'.2.1

abbrev Rec := UInt64 × List UInt8
/-- What an address has signed, in its order. -/
def txs (R : List Rec) (a : UInt64) : List (List UInt8) := (R.filter (fun r => r.1 == a)).map (·.2)
def strV (s : List UInt8) : Value := .string ⟨s.toArray⟩
def noted (R : List Rec) (a : UInt64) (s : List UInt8) : List Rec := if (a, s) ∈ R then R else R ++ [(a, s)]
theorem strSize (s : List UInt8) : (ByteArray.mk s.toArray).size = s.length := by simp [ByteArray.size]

structure Maps2 (D1 D2 : DataW Value) (V : UInt64 → Value) (E : List UInt64) (R : List Rec) : Prop where
  m1 : Tidy D1
  m2 : IsMap D2
  sz : size D1 = R.length
  has1 : ∀ a s, s.length ≤ maxLen → has D1 (recKey Tryz.prog a ⟨s.toArray⟩) = decide ((a, s) ∈ R)
  has2 : ∀ a, has D2 (adKey a) = decide (a ∈ E)
  at2 : ∀ a, D2.atKey (adKey a) (.held (.slice none 0 0)) = .held (V a)
  lens : ∀ r ∈ R, r.2.length ≤ maxLen

theorem Maps2.new : Maps2 (.map []) (.map []) (fun _ => .slice none 0 0) [] [] :=
  ⟨tidy_empty, isMap_empty, rfl, fun a s _ => rfl, fun a => rfl, fun a => rfl, fun r h => by cases h⟩
theorem Maps2.enter {D1 D2 : DataW Value} {V : UInt64 → Value} {E : List UInt64} {R : List Rec} (h : Maps2 D1 D2 V E R) (a : UInt64) (ha : a ∉ E) : Maps2 D1 (D2.put (adKey a) (.held (.slice none 0 0))) V (E ++ [a]) R := by
  have hk := law29.key (adKey_of a)
  have h0 : has D2 (adKey a) = false := by rw [h.has2]; simpa using ha
  have hv : DataW.held (.slice none 0 0) = DataW.held (V a) := by rw [← h.at2 a, atKey_of_not_has h0]
  refine ⟨h.m1, h.m2.put _ _, h.sz, h.has1, fun b => ?_, fun b => ?_, h.lens⟩
  · by_cases hb : b = a
    · subst hb
      rw [has_put_same h.m2 hk]
      simp
    · rw [has_put_other (fun e => hb (adKey_inj e)), h.has2]
      simp [hb]
  · by_cases hb : b = a
    · subst hb
      rw [atKey_put_same h.m2 hk, hv]
    · rw [atKey_put_other (fun e => hb (adKey_inj e)), h.at2]
set_option maxRecDepth 100000 in
theorem Maps2.note {D1 D2 : DataW Value} {V : UInt64 → Value} {E : List UInt64} {R : List Rec} (h : Maps2 D1 D2 V E R) (a : UInt64) (ha : a ∈ E) (s : List UInt8) (hs : s.length ≤ maxLen) (hn : (a, s) ∉ R) (v : Value) :
    Maps2 (D1.put (recKey Tryz.prog a ⟨s.toArray⟩) (.agg [])) (D2.put (adKey a) (.held v)) (fun b => if b = a then v else V b) E (R ++ [(a, s)]) := by
  have hk := law29.key (adKey_of a)
  have hk1 := law86.key (recKey_of a ⟨s.toArray⟩ (by rw [strSize]; exact hs))
  have h0 : has D1 (recKey Tryz.prog a ⟨s.toArray⟩) = false := by rw [h.has1 a s hs]; simpa using hn
  refine ⟨h.m1.put hk1 _, h.m2.put _ _, ?_, fun b t ht => ?_, fun b => ?_, fun b => ?_, fun r hr => ?_⟩
  · rw [size_put h.m1, h0, h.sz]
    simp
  · by_cases hb : b = a ∧ t = s
    · obtain ⟨rfl, rfl⟩ := hb
      rw [has_put_same h.m1.isMap hk1]
      simp
    · rw [has_put_other (fun e => hb ?_), h.has1 b t ht]
      · have : ¬ ((b, t) = (a, s)) := fun e => hb (by simpa using e)
        simp [this]
      · obtain ⟨e1, e2⟩ := recKey_inj (by rw [strSize]; exact ht) (by rw [strSize]; exact hs) e
        refine ⟨e1, ?_⟩
        simpa using e2
  · by_cases hb : b = a
    · subst hb
      rw [has_put_same h.m2 hk]
      simpa using ha
    · rw [has_put_other (fun e => hb (adKey_inj e)), h.has2]
  · by_cases hb : b = a
    · subst hb
      rw [atKey_put_same h.m2 hk]
      simp
    · rw [atKey_put_other (fun e => hb (adKey_inj e)), h.at2]
      simp [hb]
  · rcases List.mem_append.1 hr with hr | hr
    · exact h.lens r hr
    · simp at hr
      subst hr
      exact hs

/-- A registry that New made: the addresses E, the records R; the texts of an address lie in V. -/
structure Bk (w : World) (p br bt : Nat) (V : UInt64 → Value) (E : List UInt64) (R : List Rec) : Prop where
  reg : ∃ D1 D2, Reg w p br bt (E.length + R.length) D1 D2 ∧ Maps2 D1 D2 V E R
  rows : ∀ a, Own w 9 (V a) ((txs R a).map strV)
  apart : ∀ a b g, a ≠ b → (V a).ownBlock = some g → (V b).ownBlock ≠ some g
/-- Its blocks. -/
def Fp (p br bt : Nat) (V : UInt64 → Value) (k : Nat) : Prop := k = p ∨ k = br ∨ k = bt ∨ ∃ a, (V a).ownBlock = some k

section
variable {w w' : World} {p br bt : Nat} {V : UInt64 → Value} {E : List UInt64} {R : List Rec}
theorem Bk.row_ne (h : Bk w p br bt V E R) {a : UInt64} {g : Nat} (hg : (V a).ownBlock = some g) : g ≠ p ∧ g ≠ br ∧ g ≠ bt ∧ g < w.heap.size := by
  obtain ⟨D1, D2, hr, _⟩ := h.reg
  obtain ⟨c, ho⟩ := (h.rows a).obj hg
  refine ⟨?_, ?_, ?_, lt_of_obj ho⟩
  · rintro rfl
    exact absurd (tag_ne ho hr.row) (by decide)
  · rintro rfl; obtain ⟨es, clock, hb, _⟩ := hr.recs; rw [hb] at ho; cases ho
  · rintro rfl; obtain ⟨es, clock, hb, _⟩ := hr.texts; rw [hb] at ho; cases ho
theorem Bk.lt (h : Bk w p br bt V E R) {k : Nat} (hk : Fp p br bt V k) : k < w.heap.size := by
  obtain ⟨D1, D2, hr, _⟩ := h.reg
  rcases hk with rfl | rfl | rfl | ⟨a, ha⟩
  · exact lt_of_obj hr.row
  · exact hr.recs.lt
  · exact hr.texts.lt
  · exact (h.row_ne ha).2.2.2
/-- A block of cells of another type is none of its blocks. -/
theorem Bk.away (h : Bk w p br bt V E R) {g : Nat} {c : Array Value} {e : TypeId} {f : Nat × Nat} (ho : w.heap[g]? = some (.cells c e f)) (h1 : e ≠ 135) (h2 : e ≠ 9) : ¬ Fp p br bt V g := by
  obtain ⟨D1, D2, hr, _⟩ := h.reg
  rintro (rfl | rfl | rfl | ⟨a, ha⟩)
  · exact h1 (tag_ne ho hr.row)
  · obtain ⟨es, clock, hb, _⟩ := hr.recs; rw [hb] at ho; cases ho
  · obtain ⟨es, clock, hb, _⟩ := hr.texts; rw [hb] at ho; cases ho
  · obtain ⟨c', ho'⟩ := (h.rows a).obj ha
    exact h2 (tag_ne ho ho')
theorem Bk.turn {S : Nat → Prop} (h : Bk w p br bt V E R) (t : Turn S w w') (hS : ∀ k, Fp p br bt V k → ¬ S k) : Bk w' p br bt V E R := by
  obtain ⟨D1, D2, hr, hm⟩ := h.reg
  exact ⟨⟨D1, D2, hr.turn t (hS _ (.inl rfl)) (hS _ (.inr (.inl rfl))) (hS _ (.inr (.inr (.inl rfl)))), hm⟩, fun a => (h.rows a).turn t (fun g hg => hS g (.inr (.inr (.inr ⟨a, hg⟩)))), h.apart⟩
theorem Bk.turn_no (h : Bk w p br bt V E R) (t : Turn no w w') : Bk w' p br bt V E R := h.turn t (fun _ _ q => q)

theorem bk_new (w : World) : Calls Tryz.prog 22 #[] w fun e w' => ∃ p br bt, e = .returned (.pointer (some ⟨p, 0, none⟩)) ∧ w.heap.size ≤ p ∧ w.heap.size ≤ br ∧ w.heap.size ≤ bt ∧ Bk w' p br bt (fun _ => .slice none 0 0) [] [] ∧ Turn no w w' :=
  (new9 w).mono fun e w' ⟨p, br, bt, he, h1, h2, h3, hr, t⟩ => ⟨p, br, bt, he, h1, h2, h3, ⟨⟨_, _, hr, Maps2.new⟩, fun a => Own.nil _ _, fun a b g _ q => by cases q⟩, t⟩

theorem Bk.enter0 (h : Bk w p br bt V E R) : Calls Tryz.prog 25 #[.pointer (some ⟨p, 0, none⟩), .int .u64 0] w fun e w' => e = .returned (.tuple #[.pointer none, .int .i64 2]) ∧ w' = w := by
  obtain ⟨D1, D2, hr, hm⟩ := h.reg
  exact enter_zero hr
theorem Bk.enter1 (h : Bk w p br bt V E R) (a : UInt64) (ha : ¬ (a.toNat : Int) = 0) (hin : a ∉ E) (hm : E.length + R.length < maxLen) : Calls Tryz.prog 25 #[.pointer (some ⟨p, 0, none⟩), .int .u64 a.toNat] w fun e w' =>
    ∃ q, e = .returned (.tuple #[.pointer (some ⟨q, 0, none⟩), .int .i64 0]) ∧ w.heap.size ≤ q ∧ Sg w' q p a ∧ Bk w' p br bt V (E ++ [a]) R ∧ Turn (fun k => k = p ∨ k = bt) w w' := by
  obtain ⟨D1, D2, hr, h2⟩ := h.reg
  refine (enter_new hr a ha (by rw [h2.has2]; simpa using hin) hm).mono fun e w' ⟨q, he, hq, sg, hr', t⟩ => ⟨q, he, hq, sg, ⟨⟨D1, _, ?_, h2.enter a hin⟩, fun b => (h.rows b).turn t (fun g hg e => e.elim (h.row_ne hg).1 (h.row_ne hg).2.2.1), h.apart⟩, t⟩
  have e : (E ++ [a]).length + R.length = E.length + R.length + 1 := by simp; omega
  rw [e]
  exact hr'
theorem Bk.enter2 (h : Bk w p br bt V E R) (a : UInt64) (ha : ¬ (a.toNat : Int) = 0) (hin : a ∈ E) : Calls Tryz.prog 25 #[.pointer (some ⟨p, 0, none⟩), .int .u64 a.toNat] w fun e w' =>
    e = .returned (.tuple #[.pointer none, .int .i64 30]) ∧ Bk w' p br bt V E R ∧ Turn (fun k => k = p) w w' := by
  obtain ⟨D1, D2, hr, h2⟩ := h.reg
  exact (enter_twice hr a ha (by rw [h2.has2]; simpa using hin)).mono fun e w' ⟨he, hr', t⟩ => ⟨he, ⟨⟨D1, D2, hr', h2⟩, fun b => (h.rows b).turn t (fun g hg e => (h.row_ne hg).1 e), h.apart⟩, t⟩
theorem Bk.check (h : Bk w p br bt V E R) (a : UInt64) (va : Value) (bs : List UInt8) (hb : Bs w va bs) (hbp : bs ≠ [] → va.ownBlock ≠ some p) (X : List UInt8) (hx : X.length = 16) (hl : Laid1 w) (h2 : 3 ≤ w.heap.size) (hp1 : p ≠ 2) (hsz : (a, bs) ∈ R → bs.length ≤ 1099511627776) :
    Calls Tryz.prog 68 #[.pointer (some ⟨p, 0, none⟩), .int .u64 a.toNat, va, .agg (X.map bv).toArray] w fun e w' => e = .returned (.bool (decide ((a, bs) ∈ R) && (X == sealB a bs))) ∧ Bk w' p br bt V E R ∧ Turn (fun k => k = p) w w' := by
  obtain ⟨D1, D2, hr, hm⟩ := h.reg
  have hbl := hb.le
  by_cases hin : (a, bs) ∈ R
  · refine (check_yes hr a va bs hb hbp X hx (by rw [hm.has1 a bs hbl]; simpa using hin) hl h2 hp1 (hsz hin)).mono fun e w' ⟨he, hr', t⟩ => ⟨by rw [he]; simp [hin], ⟨⟨D1, D2, hr', hm⟩, fun b => (h.rows b).turn t (fun g hg e => (h.row_ne hg).1 e), h.apart⟩, t⟩
  · refine (check_no hr a va bs hb hbp X hx (by rw [hm.has1 a bs hbl]; simpa using hin)).mono fun e w' ⟨he, hr', t⟩ => ⟨by rw [he]; simp [hin], ⟨⟨D1, D2, hr', hm⟩, fun b => (h.rows b).turn t (fun g hg e => (h.row_ne hg).1 e), h.apart⟩, t⟩

theorem txs_append (R : List Rec) (a b : UInt64) (s : List UInt8) : txs (R ++ [(a, s)]) b = txs R b ++ (if b = a then [s] else []) := by
  unfold txs
  rw [List.filter_append, List.map_append]
  congr 1
  by_cases hb : b = a
  · subst hb; simp
  · have : ¬ a = b := fun e => hb e.symm
    simp [this, hb]
theorem txs_len (R : List Rec) (a : UInt64) : (txs R a).length ≤ R.length := by
  unfold txs
  rw [List.length_map]
  exact List.length_filter_le _ _

theorem Bk.note (h : Bk w p br bt V E R) (a : UInt64) (ha : a ∈ E) (s : List UInt8) (hs : s.length ≤ maxLen) (hm : E.length + R.length < maxLen) (hb : (R.length + 1) * 16 ≤ 140737488355328) : Calls Tryz.prog 85 #[.pointer (some ⟨p, 0, none⟩), recV a ⟨s.toArray⟩] w fun e w' =>
    e = .returned (.tuple #[]) ∧ ∃ V', Bk w' p br bt V' E (noted R a s) ∧ (∀ b g, (V' b).ownBlock = some g → (V b).ownBlock = some g ∨ w.heap.size < g) ∧ Turn (Fp p br bt V) w w' := by
  obtain ⟨D1, D2, hr, h2⟩ := h.reg
  have hsz : (ByteArray.mk s.toArray).size ≤ maxLen := by rw [strSize]; exact hs
  by_cases hin : (a, s) ∈ R
  · refine (note_old hr a _ hsz (by rw [h2.has1 a s hs]; simpa using hin)).mono fun e w' ⟨he, hr', t⟩ => ⟨he, V, ?_, fun b g hg => .inl hg, t.mono (fun _ _ q => .inl q)⟩
    rw [noted, if_pos hin]
    exact ⟨⟨D1, D2, hr', h2⟩, fun b => (h.rows b).turn t (fun g hg e => (h.row_ne hg).1 e), h.apart⟩
  · refine (note_new hr a _ hsz (by rw [h2.has1 a s hs]; simpa using hin) hm (V a) _ (h2.at2 a) (h.rows a) (by have := txs_len R a; rw [List.length_map]; omega)).mono fun e w' ⟨he, v', ho, hv, hr', t⟩ => ⟨he, fun b => if b = a then v' else V b, ?_, fun b g hg => ?_, t.mono (fun k _ q => ?_)⟩
    · rw [noted, if_neg hin]
      refine ⟨⟨_, _, ?_, h2.note a ha s hs hin v'⟩, fun b => ?_, fun b c g hbc hg hg' => ?_⟩
      · have e : E.length + (R ++ [(a, s)]).length = E.length + R.length + 1 := by simp; omega
        rw [e]
        exact hr'
      · rw [txs_append]
        by_cases hb : b = a
        · subst hb
          simp only [if_true, List.map_append, List.map_cons, List.map_nil]
          exact ho
        · simp only [if_neg hb, List.append_nil]
          refine (h.rows b).turn t (fun g hg e => ?_)
          rcases e with e | e | e | e
          · exact (h.row_ne hg).1 e
          · exact (h.row_ne hg).2.1 e
          · exact (h.row_ne hg).2.2.1 e
          · exact h.apart a b g (fun e => hb e.symm) e hg
      · by_cases h1 : b = a
        · by_cases h3 : c = a
          · exact hbc (h1.trans h3.symm)
          · simp only [if_pos h1, if_neg h3] at hg hg'
            rcases hv with hv | ⟨g', hv, hg2⟩
            · exact h.apart a c g (fun e => h3 e.symm) (by rw [← hv]; exact hg) hg'
            · rw [hg] at hv
              cases hv
              have := (h.row_ne hg').2.2.2
              omega
        · by_cases h3 : c = a
          · simp only [if_pos h3, if_neg h1] at hg hg'
            rcases hv with hv | ⟨g', hv, hg2⟩
            · exact h.apart b a g h1 hg (by rw [← hv]; exact hg')
            · rw [hg'] at hv
              cases hv
              have := (h.row_ne hg).2.2.2
              omega
          · simp only [if_neg h1, if_neg h3] at hg hg'
            exact h.apart b c g hbc hg hg'
    · by_cases hb : b = a
      · subst hb
        simp only [if_true] at hg
        rcases hv with hv | ⟨g', hv, hg2⟩
        · exact .inl (by rw [← hv]; exact hg)
        · rw [hg] at hv
          cases hv
          exact .inr hg2
      · simp only [if_neg hb] at hg
        exact .inl hg
    · rcases q with q | q | q | q
      · exact .inl q
      · exact .inr (.inl q)
      · exact .inr (.inr (.inl q))
      · exact .inr (.inr (.inr ⟨a, q⟩))

theorem Bk.sign (h : Bk w p br bt V E R) (q : Nat) (a : UInt64) (hq : Sg w q p a) (ha : a ∈ E) (va : Value) (bs : List UInt8) (hb : Bs w va bs) (hva : bs ≠ [] → ∀ g, va.ownBlock = some g → ¬ Fp p br bt V g) (hl : Laid1 w) (h2 : 3 ≤ w.heap.size) (h1 : ¬ Fp p br bt V 2) (hlen : bs.length ≤ 1048576)
    (hm : E.length + R.length < maxLen) (hbb : (R.length + 1) * 16 ≤ 140737488355328) : Calls Tryz.prog 54 #[.pointer (some ⟨q, 0, none⟩), va] w fun e w' =>
    e = .returned (.tuple #[.agg (sealV a bs), .int .i64 0]) ∧ ∃ V', Bk w' p br bt V' E (noted R a bs) ∧ (∀ b g, (V' b).ownBlock = some g → (V b).ownBlock = some g ∨ w.heap.size < g) ∧ Turn (Fp p br bt V) w w' := by
  have hp0 : w.cell? ⟨p, 0, none⟩ = some (.pointer (some ⟨p, 0, none⟩)) := by obtain ⟨D1, D2, hr, _⟩ := h.reg; exact hr.c0
  refine (sign12 w q p a va bs hq hp0 hb hl h2 hlen (Fp p br bt V) (fun W => ∃ V', Bk W p br bt V' E (noted R a bs) ∧ (∀ b g, (V' b).ownBlock = some g → (V b).ownBlock = some g ∨ w.heap.size < g)) (fun k hk => ⟨h.lt hk, ?_, ?_, ?_⟩) ?_ ?_).mono fun e w' ⟨he, t, V', hB, hf⟩ => ⟨he, V', hB, hf, t⟩
  · rintro rfl
    exact h.away hq (by decide) (by decide) hk
  · rintro rfl
    exact h1 hk
  · intro hne e
    exact hva hne k e hk
  · rintro W W' ⟨V', hB, hf⟩ t
    refine ⟨V', hB.turn t (fun k hk e => ?_), hf⟩
    subst e
    rcases hk with hk | hk | hk | ⟨b, hk⟩
    · have := h.lt (k := p) (.inl rfl); omega
    · have := h.lt (k := br) (.inr (.inl rfl)); omega
    · have := h.lt (k := bt) (.inr (.inr (.inl rfl))); omega
    · rcases hf b _ hk with q | q
      · have := (h.row_ne q).2.2.2; omega
      · omega
  · intro W t
    refine ((h.turn_no t).note a ha bs (by simp [maxLen]; omega) hm hbb).mono fun e w' ⟨he, V', hB, hf, t'⟩ => ⟨he, t', V', hB, fun b g hg => ?_⟩
    rcases hf b g hg with q | q
    · exact .inl q
    · exact .inr (by have := t.size; omega)
end
end Go.Proofs.YtgbcdjjnpadddaaGreatDoor



/- A text as bytes, and one byte behind it. -/
namespace Go.Proofs.YtgbcdjjnpadddaaGreatDoor
open Go.RowKit Go.Maps Go.MuLone
set_option linter.unusedVariables false

theorem run_store_one {P : Program} (w : World) (g n : Nat) (u x : Value) (hx : w.cell? ⟨g, n, none⟩ = some x) (hf : w.frozen? ⟨g, n, none⟩ = false) (hu : u.oneCell' = true) : (storeCells ⟨g, n, none⟩ [u]).run P w = .ok () (w.setCell ⟨g, n, none⟩ u) := by
  have h : (store ⟨g, n, none⟩ u).run P w = .ok () (w.setCell ⟨g, n, none⟩ u) := by
    rw [run_store P w _ u _ hu, hx]
    simp [hf]
  simp [storeCells, Addr.add_lit, h]

section
variable {P : Program}
/-- One byte behind bytes that lie in a row of their own. -/
theorem run_append_bs {t tx e : TypeId} {z : Value} {bytes : Nat} (ht : P.underlying t = some (.slice e)) (hinf : (P.info? e).map (fun i => (i.zero, i.size, i.bytes)) = some (some z, 1, bytes)) (hz : z.cells.size = 1)
    (ty : TypeId) (w : World) (g cap : Nat) (bs : List UInt8) (hc : ∀ j u, bs[j]? = some u → w.cell? ⟨g, j, none⟩ = some (bv u)) (hcap : bs.length ≤ cap) (hcm : cap ≤ maxLen) (hroom : bs.length < cap → ∃ x, w.cell? ⟨g, bs.length, none⟩ = some x ∧ w.frozen? ⟨g, bs.length, none⟩ = false)
    (b : UInt8) (x : Value) (hs : Src P 1 tx x 1 [bv b] w) (hb : (bs.length + 1) * bytes ≤ 140737488355328) (hm : bs.length + 1 ≤ maxLen) :
    ∃ v' w', (Builtin.append_ #[t, tx] ty #[.slice (some ⟨g, 0, none⟩) bs.length cap, x]).run P w = .ok v' w' ∧ Bs w' v' (bs ++ [b]) ∧ Turn (fun k => k = g) w w' ∧ (v'.ownBlock = some g ∨ v'.ownBlock = some w.heap.size) := by
  obtain ⟨i, hi, hz0, hz1, hz2⟩ := info_parts hinf
  by_cases hr : bs.length + 1 ≤ cap
  · obtain ⟨x0, hx0, hf0⟩ := hroom (by omega)
    have hst := run_store_one (P := P) w g bs.length (bv b) x0 hx0 hf0 rfl
    refine ⟨.slice (some ⟨g, 0, none⟩) (bs.length + 1) cap, w.setCell ⟨g, bs.length, none⟩ (bv b), ?_, .inr ⟨⟨g, 0, none⟩, cap, by simp, by simpa using hr, hcm, fun j u hu => ?_⟩, (Turn.refl (fun k => k = g) w).setCell (p := ⟨g, bs.length, none⟩) (fun _ => rfl) _, .inl rfl⟩
    · have hcc := hs.cells
      rcases hs.kind with ⟨e', hk⟩ | hk <;> simp [Builtin.append_, run_underlying ht, run_underlying hk, sizeOf, typeInfo, hi, hz1, hs.len, hr, hcc, Addr.add_lit, hst]
    · rw [Addr.add_lit]
      by_cases hj : j < bs.length
      · rw [List.getElem?_append_left hj] at hu
        rw [World.cell?_setCell_other _ _ _ _ (by intro q; simp at q)]
        simpa using hc j u hu
      · have hj' : j = bs.length := by
          have := (List.getElem?_eq_some_iff.1 hu).1
          simp at this
          omega
        subst hj'
        simp at hu
        subst hu
        simpa using World.cell?_setCell_same w _ (bv b) hx0
  · have hold : (Builtin.firstCells 1 bs.length (.slice (some ⟨g, 0, none⟩) bs.length cap)).run P w.drew = .ok (bs.map bv).toArray w.drew :=
      run_firstCells_some w.drew 1 bs.length ⟨g, 0, none⟩ bs.length cap (bs.map bv) (by simp) (fun j u hu => by
        rw [List.getElem?_map] at hu
        cases hb : bs[j]? with
        | none => rw [hb] at hu; cases hu
        | some b => rw [hb] at hu; cases hu; rw [Addr.add_lit]; simpa using hc j b hb)
    have hr := run_append_grow_src (P := P) w t tx ty e i z ht hi hz0 (some ⟨g, 0, none⟩) bs.length cap (bs.map bv) (by rw [hz1]; exact hold) x 1 [bv b] (by rw [hz1]; exact hs) (by omega) (by simp only [maxLen] at hm; omega) (growslice_fits (by omega) (by rw [hz2]; exact hb))
    have hge := grownCap_ge w (bs.length + 1) cap e
    have hcm2 := grownCap_le_maxLen w (bs.length + 1) cap e hm
    refine ⟨_, _, hr, .inr ⟨⟨w.heap.size, 0, none⟩, _, by simp, by simpa using hge, hcm2, fun j u hu => ?_⟩, ((Turn.refl no w).drew.alloc _).of_no, .inr rfl⟩
    rw [Addr.add_lit]
    have hl : j < bs.length + 1 := by have := (List.getElem?_eq_some_iff.1 hu).1; simpa using this
    have hget : (bs.map bv ++ [bv b])[j]? = some (bv u) := by
      have : bs.map bv ++ [bv b] = (bs ++ [b]).map bv := by simp
      rw [this, List.getElem?_map, hu]
      rfl
    have := cell_of_row (w.drew.alloc (.cells ((bs.map bv ++ [bv b]).toArray ++ Builtin.zeroCells z.cells (grownCap w (bs.length + 1) cap e - (bs.length + 1))) e)) w.heap.size (0 + j) _ e (0, 0) (heap_alloc_new w.drew _)
    rw [this, Nat.zero_add, Array.getElem?_append_left (by simp; omega)]
    simpa using hget
end

/-- The bytes of a text, in a row of their own. -/
theorem conv_bs (w : World) (s : List UInt8) (hs : s.length ≤ 1048577) : (convert 9 124 (.string ⟨s.toArray⟩)).run Tryz.prog w = .ok (.slice (some ⟨w.heap.size, 0, none⟩) s.length (grownCap w s.length 0 5)) (Lib.bytesWorld w 5 ⟨s.toArray⟩) ∧ Turn no w (Lib.bytesWorld w 5 ⟨s.toArray⟩) ∧ (Lib.bytesWorld w 5 ⟨s.toArray⟩).heap.size = w.heap.size + 1 ∧
    (∀ j u, s[j]? = some u → (Lib.bytesWorld w 5 ⟨s.toArray⟩).cell? ⟨w.heap.size, j, none⟩ = some (bv u)) ∧ s.length ≤ grownCap w s.length 0 5 ∧ grownCap w s.length 0 5 ≤ maxLen ∧
    (s.length < grownCap w s.length 0 5 → ∃ x, (Lib.bytesWorld w 5 ⟨s.toArray⟩).cell? ⟨w.heap.size, s.length, none⟩ = some x ∧ (Lib.bytesWorld w 5 ⟨s.toArray⟩).frozen? ⟨w.heap.size, s.length, none⟩ = false) := by
  have hsz := strSize s
  have h := Lib.run_convert_string_bytes (P := Tryz.prog) w 9 124 5 ⟨s.toArray⟩ Tryz.underlying9 Tryz.underlying124 Tryz.underlying5
  rw [hsz] at h
  have hge := grownCap_ge w s.length 0 5
  have hcs : (Lib.bytesCells w 5 ⟨s.toArray⟩).size = grownCap w s.length 0 5 := by
    simp [Lib.bytesCells, ByteArray.size]
    omega
  refine ⟨h, ⟨rfl, rfl, rfl, by rw [Lib.bytesWorld_size]; omega, fun k hk _ => Lib.bytesWorld_at_old w 5 _ k hk⟩, Lib.bytesWorld_size _ _ _, fun j u hu => ?_, hge, grownCap_le_maxLen w s.length 0 5 (by simp [maxLen]; omega), fun hlt => ?_⟩
  · have hj := (List.getElem?_eq_some_iff.1 hu).1
    rw [Lib.bytesWorld_cell w 5 ⟨s.toArray⟩ j (by rw [hsz]; exact hj)]
    simp [bv, List.getD, hu]
  · have ho := Lib.bytesWorld_at_new w 5 ⟨s.toArray⟩
    have hlt' : s.length < (Lib.bytesCells w 5 ⟨s.toArray⟩).size := by omega
    refine ⟨(Lib.bytesCells w 5 ⟨s.toArray⟩)[s.length], ?_, ?_⟩
    · simp [World.cell?, ho, hlt']
    · simp [World.frozen?, ho]
      omega
theorem info5T : (Tryz.prog.info? 5).map (fun i => (i.zero, i.size, i.bytes)) = some (some (.int .u8 0), 1, 1) := by kernel_rfl
theorem conv_one (w : World) (s : List UInt8) (hs : s.length ≤ 1048576) : ∃ cap w', (convert 9 124 (.string ⟨s.toArray⟩)).run Tryz.prog w = .ok (.slice (some ⟨w.heap.size, 0, none⟩) s.length cap) w' ∧ Turn no w w' ∧ w'.heap.size = w.heap.size + 1 ∧ Bs w' (.slice (some ⟨w.heap.size, 0, none⟩) s.length cap) s := by
  obtain ⟨h, T, hz, k, l, m, _⟩ := conv_bs w s (by omega)
  exact ⟨_, _, h, T, hz, .inr ⟨_, _, rfl, l, m, fun j u hu => by rw [Addr.add_lit]; simpa using k j u hu⟩⟩
theorem conv_more (w : World) (s : List UInt8) (hs : s.length ≤ 1048576) : ∃ cap w', (convert 9 124 (.string ⟨s.toArray⟩)).run Tryz.prog w = .ok (.slice (some ⟨w.heap.size, 0, none⟩) s.length cap) w' ∧ Turn no w w' ∧ w'.heap.size = w.heap.size + 1 ∧
    ∃ mo w2, (Builtin.append_ #[124, 124] 124 #[.slice (some ⟨w.heap.size, 0, none⟩) s.length cap, .slice (some ⟨w'.heap.size, 0, none⟩) 1 1]).run Tryz.prog (w'.alloc (.cells #[.int .u8 0] 5)) = .ok mo w2 ∧ Bs w2 mo (s ++ [0]) ∧ Turn no w w2 ∧ (∀ g, mo.ownBlock = some g → w.heap.size ≤ g) := by
  obtain ⟨h, T, hz, k, l, m, r⟩ := conv_bs w s (by omega)
  generalize Lib.bytesWorld w 5 ⟨s.toArray⟩ = w' at *
  generalize grownCap w s.length 0 5 = cap at *
  have T2 : Turn no w' (w'.alloc (.cells #[.int .u8 0] 5)) := (Turn.refl no w').alloc _
  obtain ⟨mo, w2, h2, b2, t2, e2⟩ := run_append_bs (P := Tryz.prog) (t := 124) (tx := 124) Tryz.underlying124 info5T rfl 124 (w'.alloc (.cells #[.int .u8 0] 5)) w.heap.size cap s (fun j u hu => T2.keep (k j u hu) (fun q => q)) l m (fun hlt => by
    obtain ⟨x, h1, h2⟩ := r hlt
    exact ⟨x, T2.keep h1 (fun q => q), (T2.frozen (World.block_lt_of_cell? _ _ h1) (fun q => q)).trans h2⟩) 0 (.slice (some ⟨w'.heap.size, 0, none⟩) 1 1) (src_byte Tryz.underlying124 w' 0 0 rfl) (by omega) (by simp only [maxLen]; omega)
  refine ⟨cap, w', h, T, hz, mo, w2, h2, b2, ?_, fun g hg => ?_⟩
  · exact ((T.then_no T2).of_no.trans t2 (fun _ _ q => q)).mono (S := fun k => k = w.heap.size) (fun g hg q => absurd hg (by omega))
  · rcases e2 with e | e
    · rw [e] at hg; cases hg; exact Nat.le_refl _
    · rw [e] at hg
      cases hg
      have := T2.size
      omega
end Go.Proofs.YtgbcdjjnpadddaaGreatDoor


