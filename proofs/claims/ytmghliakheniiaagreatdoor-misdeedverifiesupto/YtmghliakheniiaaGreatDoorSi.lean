/- The law's world: two registries side by side, and its signers. -/
import Derived.Test.YtmghliakheniiaaGreatDoorSh
import Derived.Test.YtmghliakheniiaaGreatDoorG1
import Derived.Test.YtmghliakheniiaaGreatDoorAb
namespace Go.Proofs.YtmghliakheniiaaGreatDoor
open Go.RowKit Go.Maps Go.MuLone
set_option linter.unusedVariables false

/-- No block of S is of kind e. -/
def Kd (S : Nat → Prop) (W : World) (e : TypeId) : Prop := ∀ k, S k → ∀ c f, W.heap[k]? ≠ some (.cells c e f)
theorem Row.off {S : Nat → Prop} {W W' : World} {g : Nat} {cs : Array Value} {t : TypeId} (r : Row W g cs t) (tt : Turn S W W') (hS : Kd S W t) : Row W' g cs t := r.turn tt (fun hs => hS g hs _ _ r)
theorem Own.off {S : Nat → Prop} {W W' : World} {e : TypeId} {v : Value} {xs : List Value} (h : Own W e v xs) (tt : Turn S W W') (hS : Kd S W e) : Own W' e v xs := h.turn tt (fun g hg hs => by
  obtain ⟨c, ho⟩ := h.obj hg
  exact hS g hs _ _ ho)
theorem Rf.off {S : Nat → Prop} {W W' : World} {q : Nat} {ve vr : Value} {E : List UInt64} {R : List Rec} (h : Rf W q ve vr E R) (tt : Turn S W W') (h1 : Kd S W 128) (h2 : Kd S W 39) (h3 : Kd S W 163) : Rf W' q ve vr E R :=
  h.turn tt (fun k hk hs => by
    rcases hk with rfl | hk | hk
    · exact h1 _ hs _ _ h.row
    · obtain ⟨c, ho⟩ := h.oe.obj hk
      exact h2 _ hs _ _ ho
    · obtain ⟨c, ho⟩ := h.orr.obj hk
      exact h3 _ hs _ _ ho)
theorem Bk.off {S : Nat → Prop} {W W' : World} {p br bt : Nat} {V : UInt64 → Value} {E : List UInt64} {R : List Rec} (h : Bk W p br bt V E R) (tt : Turn S W W') (hS : ∀ k, S k → ∃ c e f, W.heap[k]? = some (.cells c e f) ∧ e ≠ 73 ∧ e ≠ 9) : Bk W' p br bt V E R :=
  h.turn tt (fun k hk hs => by
    obtain ⟨c, e, f, ho, h1, h2⟩ := hS k hs
    exact h.away ho h1 h2 hk)
theorem Bk.kd1 {W : World} {p br bt : Nat} {V : UInt64 → Value} {E : List UInt64} {R : List Rec} (h : Bk W p br bt V E R) {e : TypeId} (he : e ≠ 73) : Kd (fun k => k = p ∨ k = bt) W e := by
  obtain ⟨D1, D2, hr, _⟩ := h.reg
  rintro k (rfl | rfl) c f ho
  · exact he (tag_ne ho hr.row)
  · obtain ⟨es, clock, hb, _⟩ := hr.texts
    rw [hb] at ho
    cases ho
theorem Bk.kd2 {W : World} {p br bt : Nat} {V : UInt64 → Value} {E : List UInt64} {R : List Rec} (h : Bk W p br bt V E R) {e : TypeId} (he : e ≠ 73) (h9 : e ≠ 9) : Kd (Fp p br bt V) W e := fun k hk c f ho => h.away ho he h9 hk
theorem Rf.kd1 {W : World} {q : Nat} {ve vr : Value} {E : List UInt64} {R : List Rec} (h : Rf W q ve vr E R) {e : TypeId} (h1 : e ≠ 128) (h2 : e ≠ 39) : Kd (fun k => k = q ∨ ve.ownBlock = some k) W e := by
  rintro k (rfl | hk) c f ho
  · exact h1 (tag_ne ho h.row)
  · obtain ⟨c', ho'⟩ := h.oe.obj hk
    exact h2 (tag_ne ho ho')
theorem Rf.kd2 {W : World} {q : Nat} {ve vr : Value} {E : List UInt64} {R : List Rec} (h : Rf W q ve vr E R) {e : TypeId} (h1 : e ≠ 128) (h2 : e ≠ 163) : Kd (fun k => k = q ∨ vr.ownBlock = some k) W e := by
  rintro k (rfl | hk) c f ho
  · exact h1 (tag_ne ho h.row)
  · obtain ⟨c', ho'⟩ := h.orr.obj hk
    exact h2 (tag_ne ho ho')

def ptV (s : Nat) : Value := .pointer (some ⟨s, 0, none⟩)
/-- The law's world. -/
structure Wd (n0 : Nat) (W : World) (g p br bt q : Nat) (vm vo ve vr : Value) (V : UInt64 → Value) (E : List UInt64) (R : List Rec) (E1 E2 : List UInt64) (S1 S2 : List Nat) : Prop where
  row : Row W g #[.pointer (some ⟨p, 0, none⟩), .pointer (some ⟨q, 0, none⟩), vm, vo] 62
  bk : Bk W p br bt V E R
  rf : Rf W q ve vr E R
  om : Own W 89 vm (S1.map ptV)
  oo : Own W 92 vo (S2.map ptV)
  l1 : S1.length = E1.length
  l2 : S2.length = E2.length
  sg : ∀ (k : Nat) a s, E1[k]? = some a → S1[k]? = some s → Sg W s p a
  rs : ∀ (k : Nat) a s, E2[k]? = some a → S2[k]? = some s → Rsg W s q a
  lo : (n0 ≤ g ∧ n0 ≤ p ∧ n0 ≤ br ∧ n0 ≤ bt ∧ n0 ≤ q)
  lv : ∀ k, vm.ownBlock = some k ∨ vo.ownBlock = some k ∨ ve.ownBlock = some k ∨ vr.ownBlock = some k ∨ (∃ b, (V b).ownBlock = some k) → n0 ≤ k
section
variable {n0 : Nat} {W : World} {g p br bt q : Nat} {vm vo ve vr : Value} {V : UInt64 → Value} {E : List UInt64} {R : List Rec} {E1 E2 : List UInt64} {S1 S2 : List Nat}
theorem Wd.turn_no (h : Wd n0 W g p br bt q vm vo ve vr V E R E1 E2 S1 S2) {W' : World} (t : Turn no W W') : Wd n0 W' g p br bt q vm vo ve vr V E R E1 E2 S1 S2 :=
  ⟨h.row.turn t (fun q => q), h.bk.turn_no t, h.rf.turn_no t, h.om.turn_no t, h.oo.turn_no t, h.l1, h.l2, fun k a s e1 e2 => Row.turn (h.sg k a s e1 e2) t (fun q => q), fun k a s e1 e2 => Row.turn (h.rs k a s e1 e2) t (fun q => q), h.lo, h.lv⟩
/-- All that it may write. -/
def Ab (n0 : Nat) (k : Nat) : Prop := n0 ≤ k
theorem Wd.rf1 (h : Wd n0 W g p br bt q vm vo ve vr V E R E1 E2 S1 S2) {W' : World} (t : Turn (fun k => k = p ∨ k = bt) W W') : Rf W' q ve vr E R ∧ Row W' g #[.pointer (some ⟨p, 0, none⟩), .pointer (some ⟨q, 0, none⟩), vm, vo] 62 :=
  ⟨h.rf.off t (h.bk.kd1 (by decide)) (h.bk.kd1 (by decide)) (h.bk.kd1 (by decide)), h.row.off t (h.bk.kd1 (by decide))⟩
/-- Both registries have entered an address. -/
theorem Wd.both (h : Wd n0 W g p br bt q vm vo ve vr V E R E1 E2 S1 S2) (hn : n0 ≤ W.heap.size) {a : UInt64} {W1 W2 : World} {s s' : Nat} {ve' : Value}
    (t1 : Turn (fun k => k = p ∨ k = bt) W W1) (b1 : Bk W1 p br bt V (E ++ [a]) R) (g1 : Sg W1 s p a)
    (t2 : Turn (fun k => k = q ∨ ve.ownBlock = some k) W1 W2) (r2 : Rf W2 q ve' vr (E ++ [a]) R) (g2 : Rsg W2 s' q a) (hv : ∀ k, ve'.ownBlock = some k → ve.ownBlock = some k ∨ W1.heap.size ≤ k) :
    Wd n0 W2 g p br bt q vm vo ve' vr V (E ++ [a]) R E1 E2 S1 S2 ∧ Sg W2 s p a ∧ Rsg W2 s' q a ∧ Turn (Ab n0) W W2 := by
  obtain ⟨rf1, rw1⟩ := h.rf1 t1
  have K1 : ∀ {e : TypeId}, e ≠ 73 → Kd (fun k => k = p ∨ k = bt) W e := fun he => h.bk.kd1 he
  have K2 : ∀ {e : TypeId}, e ≠ 128 → e ≠ 39 → Kd (fun k => k = q ∨ ve.ownBlock = some k) W1 e := fun h1 h2 => rf1.kd1 h1 h2
  have b2 : Bk W2 p br bt V (E ++ [a]) R := b1.off t2 (fun k hk => by
    rcases hk with rfl | hk
    · exact ⟨_, _, _, rf1.row, by decide, by decide⟩
    · obtain ⟨c, ho⟩ := rf1.oe.obj hk
      exact ⟨_, _, _, ho, by decide, by decide⟩)
  have hs1 := t1.size
  refine ⟨⟨rw1.off t2 (K2 (by decide) (by decide)), b2, r2, (h.om.off t1 (K1 (by decide))).off t2 (K2 (by decide) (by decide)), (h.oo.off t1 (K1 (by decide))).off t2 (K2 (by decide) (by decide)), h.l1, h.l2, fun k b u e1 e2 => Row.off (Row.off (h.sg k b u e1 e2) t1 (K1 (by decide))) t2 (K2 (by decide) (by decide)), fun k b u e1 e2 => Row.off (Row.off (h.rs k b u e1 e2) t1 (K1 (by decide))) t2 (K2 (by decide) (by decide)), h.lo, ?_⟩, Row.off g1 t2 (K2 (by decide) (by decide)), g2, ?_⟩
  · rintro k (hk | hk | hk | hk | hk)
    · exact h.lv k (.inl hk)
    · exact h.lv k (.inr (.inl hk))
    · rcases hv k hk with e | e
      · exact h.lv k (.inr (.inr (.inl e)))
      · omega
    · exact h.lv k (.inr (.inr (.inr (.inl hk))))
    · exact h.lv k (.inr (.inr (.inr (.inr hk))))
  · refine ((t1.mono (fun k _ hk => ?_) : Turn (Ab n0) W W1)).trans t2 (fun k _ hk => ?_)
    · rcases hk with rfl | rfl
      · exact h.lo.2.1
      · exact h.lo.2.2.2.1
    · rcases hk with rfl | hk
      · exact h.lo.2.2.2.2
      · exact h.lv k (.inr (.inr (.inl hk)))
theorem own_kd {W : World} {e : TypeId} {v : Value} {xs : List Value} (h : Own W e v xs) {e' : TypeId} (he : e' ≠ e) : Kd (fun k => v.ownBlock = some k) W e' := fun k hk c f ho => by
  obtain ⟨c', ho'⟩ := h.obj hk
  exact he (tag_ne ho ho')
theorem row_kd {W : World} {g : Nat} {cs : Array Value} {t : TypeId} (h : Row W g cs t) {e' : TypeId} (he : e' ≠ t) : Kd (fun k => k = g) W e' := by
  rintro k rfl c f ho
  exact he (tag_ne ho h)
/-- A real signer more. -/
theorem Wd.mine (h : Wd n0 W g p br bt q vm vo ve vr V E R E1 E2 S1 S2) (hn : n0 ≤ W.heap.size) {W1 W2 : World} {v2 : Value} {a : UInt64} {s : Nat} (t1 : Turn no W W1) (O2 : Own W2 89 v2 (S1.map ptV ++ [ptV s])) (G2 : Grew W1 W2 vm v2) (hs : Sg W s p a) :
    Row W2 g #[.pointer (some ⟨p, 0, none⟩), .pointer (some ⟨q, 0, none⟩), vm, vo] 62 ∧ Wd n0 (W2.setCell ⟨g, 2, none⟩ v2) g p br bt q v2 vo ve vr V E R (E1 ++ [a]) E2 (S1 ++ [s]) S2 ∧ Turn (Ab n0) W (W2.setCell ⟨g, 2, none⟩ v2) ∧ (∀ s' b, Rsg W s' q b → Rsg (W2.setCell ⟨g, 2, none⟩ v2) s' q b) := by
  have h1 := h.turn_no t1
  have K : ∀ {e : TypeId}, e ≠ 89 → Kd (fun k => vm.ownBlock = some k) W1 e := fun he => own_kd h1.om he
  have r2 := h1.row.off G2.turn (K (by decide))
  have tS : Turn (fun k => k = g) W2 (W2.setCell ⟨g, 2, none⟩ v2) := (Turn.refl (fun k => k = g) W2).setCell (p := ⟨g, 2, none⟩) (fun _ => rfl) _
  have K2 : ∀ {e : TypeId}, e ≠ 62 → Kd (fun k => k = g) W2 e := fun he => row_kd r2 he
  have b2 : Bk W2 p br bt V E R := h1.bk.off G2.turn (fun k hk => by
    obtain ⟨c, ho⟩ := h1.om.obj hk
    exact ⟨_, _, _, ho, by decide, by decide⟩)
  have b3 := b2.off tS (fun k hk => by
    have e : k = g := hk
    subst e
    exact ⟨_, _, _, r2, by decide, by decide⟩)
  have f2 := h1.rf.off G2.turn (K (by decide)) (K (by decide)) (K (by decide))
  have hs1 := t1.size
  refine ⟨r2, ⟨r2.set 2 v2, b3, f2.off tS (K2 (by decide)) (K2 (by decide)) (K2 (by decide)), ?_, (h1.oo.off G2.turn (K (by decide))).off tS (K2 (by decide)), by simp [h.l1], h.l2, fun k b u e1 e2 => ?_, fun k b u e1 e2 => Row.off (Row.off (h1.rs k b u e1 e2) G2.turn (K (by decide))) tS (K2 (by decide)), h.lo, ?_⟩, ?_, fun s' b hb => Row.off (Row.off (Row.turn hb t1 (fun q => q)) G2.turn (K (by decide))) tS (K2 (by decide))⟩
  · have := O2.off tS (K2 (by decide))
    simpa using this
  · have hS : ∀ {u b}, Sg W1 u p b → Sg (W2.setCell ⟨g, 2, none⟩ v2) u p b := fun hb => Row.off (Row.off hb G2.turn (K (by decide))) tS (K2 (by decide))
    by_cases hk : k < E1.length
    · rw [List.getElem?_append_left hk] at e1
      rw [List.getElem?_append_left (by rw [h.l1]; exact hk)] at e2
      exact hS (h1.sg k b u e1 e2)
    · have hk2 : k = E1.length := by
        have := (List.getElem?_eq_some_iff.1 e1).1
        simp at this
        omega
      subst hk2
      rw [List.getElem?_append_right (by omega)] at e1
      rw [List.getElem?_append_right (by rw [h.l1]; omega), h.l1] at e2
      simp at e1 e2
      subst e1
      subst e2
      exact hS (Row.turn hs t1 (fun q => q))
  · rintro k (hk | hk)
    · rcases G2.blk with e | ⟨g', e, h2, _⟩
      · exact h.lv k (.inl (by rw [← e]; exact hk))
      · rw [e] at hk
        cases hk
        omega
    · exact h.lv k (.inr hk)
  · refine ((t1.of_no.trans G2.turn (fun k _ hk => h.lv k (.inl hk)) : Turn (Ab n0) W W2)).trans tS (fun k _ hk => ?_)
    have e : k = g := hk
    subst e
    exact h.lo.1
/-- One of the document's signers more. -/
theorem Wd.other (h : Wd n0 W g p br bt q vm vo ve vr V E R E1 E2 S1 S2) (hn : n0 ≤ W.heap.size) {W1 W2 : World} {v2 : Value} {a : UInt64} {s : Nat} (t1 : Turn no W W1) (O2 : Own W2 92 v2 (S2.map ptV ++ [ptV s])) (G2 : Grew W1 W2 vo v2) (hs : Rsg W s q a) :
    Row W2 g #[.pointer (some ⟨p, 0, none⟩), .pointer (some ⟨q, 0, none⟩), vm, vo] 62 ∧ Wd n0 (W2.setCell ⟨g, 3, none⟩ v2) g p br bt q vm v2 ve vr V E R E1 (E2 ++ [a]) S1 (S2 ++ [s]) ∧ Turn (Ab n0) W (W2.setCell ⟨g, 3, none⟩ v2) := by
  have h1 := h.turn_no t1
  have K : ∀ {e : TypeId}, e ≠ 92 → Kd (fun k => vo.ownBlock = some k) W1 e := fun he => own_kd h1.oo he
  have r2 := h1.row.off G2.turn (K (by decide))
  have tS : Turn (fun k => k = g) W2 (W2.setCell ⟨g, 3, none⟩ v2) := (Turn.refl (fun k => k = g) W2).setCell (p := ⟨g, 3, none⟩) (fun _ => rfl) _
  have K2 : ∀ {e : TypeId}, e ≠ 62 → Kd (fun k => k = g) W2 e := fun he => row_kd r2 he
  have b2 : Bk W2 p br bt V E R := h1.bk.off G2.turn (fun k hk => by
    obtain ⟨c, ho⟩ := h1.oo.obj hk
    exact ⟨_, _, _, ho, by decide, by decide⟩)
  have b3 := b2.off tS (fun k hk => by
    have e : k = g := hk
    subst e
    exact ⟨_, _, _, r2, by decide, by decide⟩)
  have f2 := h1.rf.off G2.turn (K (by decide)) (K (by decide)) (K (by decide))
  have hs1 := t1.size
  refine ⟨r2, ⟨r2.set 3 v2, b3, f2.off tS (K2 (by decide)) (K2 (by decide)) (K2 (by decide)), (h1.om.off G2.turn (K (by decide))).off tS (K2 (by decide)), ?_, h.l1, by simp [h.l2], fun k b u e1 e2 => Row.off (Row.off (h1.sg k b u e1 e2) G2.turn (K (by decide))) tS (K2 (by decide)), fun k b u e1 e2 => ?_, h.lo, ?_⟩, ?_⟩
  · have := O2.off tS (K2 (by decide))
    simpa using this
  · have hS : ∀ {u b}, Rsg W1 u q b → Rsg (W2.setCell ⟨g, 3, none⟩ v2) u q b := fun hb => Row.off (Row.off hb G2.turn (K (by decide))) tS (K2 (by decide))
    by_cases hk : k < E2.length
    · rw [List.getElem?_append_left hk] at e1
      rw [List.getElem?_append_left (by rw [h.l2]; exact hk)] at e2
      exact hS (h1.rs k b u e1 e2)
    · have hk2 : k = E2.length := by
        have := (List.getElem?_eq_some_iff.1 e1).1
        simp at this
        omega
      subst hk2
      rw [List.getElem?_append_right (by omega)] at e1
      rw [List.getElem?_append_right (by rw [h.l2]; omega), h.l2] at e2
      simp at e1 e2
      subst e1
      subst e2
      exact hS (Row.turn hs t1 (fun q => q))
  · rintro k (hk | hk | hk)
    · exact h.lv k (.inl hk)
    · rcases G2.blk with e | ⟨g', e, h2, _⟩
      · exact h.lv k (.inr (.inl (by rw [← e]; exact hk)))
      · rw [e] at hk
        cases hk
        omega
    · exact h.lv k (.inr (.inr hk))
  · refine ((t1.of_no.trans G2.turn (fun k _ hk => h.lv k (.inr (.inl hk))) : Turn (Ab n0) W W2)).trans tS (fun k _ hk => ?_)
    have e : k = g := hk
    subst e
    exact h.lo.1
/-- Both registries have noted a signature. -/
theorem Wd.signs (h : Wd n0 W g p br bt q vm vo ve vr V E R E1 E2 S1 S2) (hn : n0 ≤ W.heap.size) {R' : List Rec} {W0 W1 W2 W3 : World} {V' : UInt64 → Value} {vr' : Value}
    (t0 : Turn no W W0) (t1 : Turn (Fp p br bt V) W0 W1) (b1 : Bk W1 p br bt V' E R') (hV : ∀ b k, (V' b).ownBlock = some k → (V b).ownBlock = some k ∨ W0.heap.size < k)
    (t2 : Turn no W1 W2) (t3 : Turn (fun k => k = q ∨ vr.ownBlock = some k) W2 W3) (r3 : Rf W3 q ve vr' E R') (hv : ∀ k, vr'.ownBlock = some k → vr.ownBlock = some k ∨ W2.heap.size ≤ k) :
    Wd n0 W3 g p br bt q vm vo ve vr' V' E R' E1 E2 S1 S2 ∧ Turn (Ab n0) W W3 := by
  have h0 := h.turn_no t0
  have K1 : ∀ {e : TypeId}, e ≠ 73 → e ≠ 9 → Kd (Fp p br bt V) W0 e := fun he h9 => h0.bk.kd2 he h9
  have f1 := h0.rf.off t1 (K1 (by decide) (by decide)) (K1 (by decide) (by decide)) (K1 (by decide) (by decide))
  have f2 := f1.turn_no t2
  have K2 : ∀ {e : TypeId}, e ≠ 128 → e ≠ 163 → Kd (fun k => k = q ∨ vr.ownBlock = some k) W2 e := fun h1 h2 => f2.kd2 h1 h2
  have rR : ∀ {u : Nat} {cs : Array Value} {t : TypeId}, Row W0 u cs t → t ≠ 73 → t ≠ 9 → t ≠ 128 → t ≠ 163 → Row W3 u cs t := fun r h1 h2 h3 h4 => ((r.off t1 (K1 h1 h2)).turn t2 (fun q => q)).off t3 (K2 h3 h4)
  have oR : ∀ {v : Value} {xs : List Value} {t : TypeId}, Own W0 t v xs → t ≠ 73 → t ≠ 9 → t ≠ 128 → t ≠ 163 → Own W3 t v xs := fun r h1 h2 h3 h4 => ((r.off t1 (K1 h1 h2)).turn_no t2).off t3 (K2 h3 h4)
  have b2 := b1.turn_no t2
  have b3 : Bk W3 p br bt V' E R' := b2.off t3 (fun k hk => by
    rcases hk with rfl | hk
    · exact ⟨_, _, _, f2.row, by decide, by decide⟩
    · obtain ⟨c, ho⟩ := f2.orr.obj hk
      exact ⟨_, _, _, ho, by decide, by decide⟩)
  have e0 := t0.size
  have e1 := t1.size
  have e2 := t2.size
  refine ⟨⟨rR h0.row (by decide) (by decide) (by decide) (by decide), b3, r3, oR h0.om (by decide) (by decide) (by decide) (by decide), oR h0.oo (by decide) (by decide) (by decide) (by decide), h.l1, h.l2, fun k a s e1 e2 => rR (h0.sg k a s e1 e2) (by decide) (by decide) (by decide) (by decide), fun k a s e1 e2 => rR (h0.rs k a s e1 e2) (by decide) (by decide) (by decide) (by decide), h.lo, ?_⟩, ?_⟩
  · rintro k (hk | hk | hk | hk | ⟨b, hk⟩)
    · exact h.lv k (.inl hk)
    · exact h.lv k (.inr (.inl hk))
    · exact h.lv k (.inr (.inr (.inl hk)))
    · rcases hv k hk with e | e
      · exact h.lv k (.inr (.inr (.inr (.inl e))))
      · omega
    · rcases hV b k hk with e | e
      · exact h.lv k (.inr (.inr (.inr (.inr ⟨b, e⟩))))
      · omega
  · refine (((t0.of_no.trans t1 (fun k _ hk => ?_) : Turn (Ab n0) W W1)).then_no t2).trans t3 (fun k _ hk => ?_)
    · rcases hk with rfl | rfl | rfl | ⟨b, hk⟩
      · exact h.lo.2.1
      · exact h.lo.2.2.1
      · exact h.lo.2.2.2.1
      · exact h.lv k (.inr (.inr (.inr (.inr ⟨b, hk⟩))))
    · rcases hk with rfl | hk
      · exact h.lo.2.2.2.2
      · exact h.lv k (.inr (.inr (.inr (.inl hk))))
end
end Go.Proofs.YtmghliakheniiaaGreatDoor
