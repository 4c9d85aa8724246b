/- Texts in one. -/
import Derived.Test.YtgbcdjjnpadddaaGreatDoorSh
import Derived.Test.YtgbcdjjnpadddaaGreatDoorG1
import Derived.Test.YtgbcdjjnpadddaaGreatDoorAb
/- The law's world: two registries side by side, and its signers. -/
namespace Go.Proofs.YtgbcdjjnpadddaaGreatDoor
open Go.RowKit Go.Maps Go.MuLone
set_option linter.unusedVariables false

/-- No block of S is of kind e. -/
def Kd (S : Nat → Prop) (W : World) (e : TypeId) : Prop := ∀ k, S k → ∀ c f, W.heap[k]? ≠ some (.cells c e f)
theorem Row.off {S : Nat → Prop} {W W' : World} {g : Nat} {cs : Array Value} {t : TypeId} (r : Row W g cs t) (tt : Turn S W W') (hS : Kd S W t) : Row W' g cs t := r.turn tt (fun hs => hS g hs _ _ r)
theorem Own.off {S : Nat → Prop} {W W' : World} {e : TypeId} {v : Value} {xs : List Value} (h : Own W e v xs) (tt : Turn S W W') (hS : Kd S W e) : Own W' e v xs := h.turn tt (fun g hg hs => by
  obtain ⟨c, ho⟩ := h.obj hg
  exact hS g hs _ _ ho)
theorem Rf.off {S : Nat → Prop} {W W' : World} {q : Nat} {ve vr : Value} {E : List UInt64} {R : List Rec} (h : Rf W q ve vr E R) (tt : Turn S W W') (h1 : Kd S W 138) (h2 : Kd S W 46) (h3 : Kd S W 186) : Rf W' q ve vr E R :=
  h.turn tt (fun k hk hs => by
    rcases hk with rfl | hk | hk
    · exact h1 _ hs _ _ h.row
    · obtain ⟨c, ho⟩ := h.oe.obj hk
      exact h2 _ hs _ _ ho
    · obtain ⟨c, ho⟩ := h.orr.obj hk
      exact h3 _ hs _ _ ho)
theorem Bk.off {S : Nat → Prop} {W W' : World} {p br bt : Nat} {V : UInt64 → Value} {E : List UInt64} {R : List Rec} (h : Bk W p br bt V E R) (tt : Turn S W W') (hS : ∀ k, S k → ∃ c e f, W.heap[k]? = some (.cells c e f) ∧ e ≠ 135 ∧ e ≠ 9) : Bk W' p br bt V E R :=
  h.turn tt (fun k hk hs => by
    obtain ⟨c, e, f, ho, h1, h2⟩ := hS k hs
    exact h.away ho h1 h2 hk)
theorem Bk.kd1 {W : World} {p br bt : Nat} {V : UInt64 → Value} {E : List UInt64} {R : List Rec} (h : Bk W p br bt V E R) {e : TypeId} (he : e ≠ 135) : Kd (fun k => k = p ∨ k = bt) W e := by
  obtain ⟨D1, D2, hr, _⟩ := h.reg
  rintro k (rfl | rfl) c f ho
  · exact he (tag_ne ho hr.row)
  · obtain ⟨es, clock, hb, _⟩ := hr.texts
    rw [hb] at ho
    cases ho
theorem Bk.kd2 {W : World} {p br bt : Nat} {V : UInt64 → Value} {E : List UInt64} {R : List Rec} (h : Bk W p br bt V E R) {e : TypeId} (he : e ≠ 135) (h9 : e ≠ 9) : Kd (Fp p br bt V) W e := fun k hk c f ho => h.away ho he h9 hk
theorem Rf.kd1 {W : World} {q : Nat} {ve vr : Value} {E : List UInt64} {R : List Rec} (h : Rf W q ve vr E R) {e : TypeId} (h1 : e ≠ 138) (h2 : e ≠ 46) : Kd (fun k => k = q ∨ ve.ownBlock = some k) W e := by
  rintro k (rfl | hk) c f ho
  · exact h1 (tag_ne ho h.row)
  · obtain ⟨c', ho'⟩ := h.oe.obj hk
    exact h2 (tag_ne ho ho')
theorem Rf.kd2 {W : World} {q : Nat} {ve vr : Value} {E : List UInt64} {R : List Rec} (h : Rf W q ve vr E R) {e : TypeId} (h1 : e ≠ 138) (h2 : e ≠ 186) : Kd (fun k => k = q ∨ vr.ownBlock = some k) W e := by
  rintro k (rfl | hk) c f ho
  · exact h1 (tag_ne ho h.row)
  · obtain ⟨c', ho'⟩ := h.orr.obj hk
    exact h2 (tag_ne ho ho')

def ptV (s : Nat) : Value := .pointer (some ⟨s, 0, none⟩)
/-- The law's world. -/
structure Wd (n0 : Nat) (W : World) (g p br bt q : Nat) (vm vo ve vr : Value) (V : UInt64 → Value) (E : List UInt64) (R : List Rec) (E1 E2 : List UInt64) (S1 S2 : List Nat) : Prop where
  row : Row W g #[.pointer (some ⟨p, 0, none⟩), .pointer (some ⟨q, 0, none⟩), vm, vo] 65
  bk : Bk W p br bt V E R
  rf : Rf W q ve vr E R
  om : Own W 88 vm (S1.map ptV)
  oo : Own W 91 vo (S2.map ptV)
  l1 : S1.length = E1.length
  l2 : S2.length = E2.length
  sg : ∀ (k : Nat) a s, E1[k]? = some a → S1[k]? = some s → Sg W s p a
  rs : ∀ (k : Nat) a s, E2[k]? = some a → S2[k]? = some s → Rsg W s q a
  lo : (n0 ≤ g ∧ n0 ≤ p ∧ n0 ≤ br ∧ n0 ≤ bt ∧ n0 ≤ q)
  lv : ∀ k, vm.ownBlock = some k ∨ vo.ownBlock = some k ∨ ve.ownBlock = some k ∨ vr.ownBlock = some k ∨ (∃ b, (V b).ownBlock = some k) → n0 ≤ k
section
variable {n0 : Nat} {W : World} {g p br bt q : Nat} {vm vo ve vr : Value} {V : UInt64 → Value} {E : List UInt64} {R : List Rec} {E1 E2 : List UInt64} {S1 S2 : List Nat}
theorem Wd.turn_no (h : Wd n0 W g p br bt q vm vo ve vr V E R E1 E2 S1 S2) {W' : World} (t : Turn no W W') : Wd n0 W' g p br bt q vm vo ve vr V E R E1 E2 S1 S2 :=
  ⟨h.row.turn t (fun q => q), h.bk.turn_no t, h.rf.turn_no t, h.om.turn_no t, h.oo.turn_no t, h.l1, h.l2, fun k a s e1 e2 => Row.turn (h.sg k a s e1 e2) t (fun q => q), fun k a s e1 e2 => Row.turn (h.rs k a s e1 e2) t (fun q => q), h.lo, h.lv⟩
/-- All that it may write. -/
def Ab (n0 : Nat) (k : Nat) : Prop := n0 ≤ k
theorem Wd.rf1 (h : Wd n0 W g p br bt q vm vo ve vr V E R E1 E2 S1 S2) {W' : World} (t : Turn (fun k => k = p ∨ k = bt) W W') : Rf W' q ve vr E R ∧ Row W' g #[.pointer (some ⟨p, 0, none⟩), .pointer (some ⟨q, 0, none⟩), vm, vo] 65 :=
  ⟨h.rf.off t (h.bk.kd1 (by decide)) (h.bk.kd1 (by decide)) (h.bk.kd1 (by decide)), h.row.off t (h.bk.kd1 (by decide))⟩
/-- Both registries have entered an address. -/
theorem Wd.both (h : Wd n0 W g p br bt q vm vo ve vr V E R E1 E2 S1 S2) (hn : n0 ≤ W.heap.size) {a : UInt64} {W1 W2 : World} {s s' : Nat} {ve' : Value}
    (t1 : Turn (fun k => k = p ∨ k = bt) W W1) (b1 : Bk W1 p br bt V (E ++ [a]) R) (g1 : Sg W1 s p a)
    (t2 : Turn (fun k => k = q ∨ ve.ownBlock = some k) W1 W2) (r2 : Rf W2 q ve' vr (E ++ [a]) R) (g2 : Rsg W2 s' q a) (hv : ∀ k, ve'.ownBlock = some k → ve.ownBlock = some k ∨ W1.heap.size ≤ k) :
    Wd n0 W2 g p br bt q vm vo ve' vr V (E ++ [a]) R E1 E2 S1 S2 ∧ Sg W2 s p a ∧ Rsg W2 s' q a ∧ Turn (Ab n0) W W2 := by
  obtain ⟨rf1, rw1⟩ := h.rf1 t1
  have K1 : ∀ {e : TypeId}, e ≠ 135 → Kd (fun k => k = p ∨ k = bt) W e := fun he => h.bk.kd1 he
  have K2 : ∀ {e : TypeId}, e ≠ 138 → e ≠ 46 → Kd (fun k => k = q ∨ ve.ownBlock = some k) W1 e := fun h1 h2 => rf1.kd1 h1 h2
  have b2 : Bk W2 p br bt V (E ++ [a]) R := b1.off t2 (fun k hk => by
    rcases hk with rfl | hk
    · exact ⟨_, _, _, rf1.row, by decide, by decide⟩
    · obtain ⟨c, ho⟩ := rf1.oe.obj hk
      exact ⟨_, _, _, ho, by decide, by decide⟩)
  have hs1 := t1.size
  refine ⟨⟨rw1.off t2 (K2 (by decide) (by decide)), b2, r2, (h.om.off t1 (K1 (by decide))).off t2 (K2 (by decide) (by decide)), (h.oo.off t1 (K1 (by decide))).off t2 (K2 (by decide) (by decide)), h.l1, h.l2, fun k b u e1 e2 => Row.off (Row.off (h.sg k b u e1 e2) t1 (K1 (by decide))) t2 (K2 (by decide) (by decide)), fun k b u e1 e2 => Row.off (Row.off (h.rs k b u e1 e2) t1 (K1 (by decide))) t2 (K2 (by decide) (by decide)), h.lo, ?_⟩, Row.off g1 t2 (K2 (by decide) (by decide)), g2, ?_⟩
  · rintro k (hk | hk | hk | hk | hk)
    · exact h.lv k (.inl hk)
    · exact h.lv k (.inr (.inl hk))
    · rcases hv k hk with e | e
      · exact h.lv k (.inr (.inr (.inl e)))
      · omega
    · exact h.lv k (.inr (.inr (.inr (.inl hk))))
    · exact h.lv k (.inr (.inr (.inr (.inr hk))))
  · refine ((t1.mono (fun k _ hk => ?_) : Turn (Ab n0) W W1)).trans t2 (fun k _ hk => ?_)
    · rcases hk with rfl | rfl
      · exact h.lo.2.1
      · exact h.lo.2.2.2.1
    · rcases hk with rfl | hk
      · exact h.lo.2.2.2.2
      · exact h.lv k (.inr (.inr (.inl hk)))
theorem own_kd {W : World} {e : TypeId} {v : Value} {xs : List Value} (h : Own W e v xs) {e' : TypeId} (he : e' ≠ e) : Kd (fun k => v.ownBlock = some k) W e' := fun k hk c f ho => by
  obtain ⟨c', ho'⟩ := h.obj hk
  exact he (tag_ne ho ho')
theorem row_kd {W : World} {g : Nat} {cs : Array Value} {t : TypeId} (h : Row W g cs t) {e' : TypeId} (he : e' ≠ t) : Kd (fun k => k = g) W e' := by
  rintro k rfl c f ho
  exact he (tag_ne ho h)
/-- A real signer more. -/
theorem Wd.mine (h : Wd n0 W g p br bt q vm vo ve vr V E R E1 E2 S1 S2) (hn : n0 ≤ W.heap.size) {W1 W2 : World} {v2 : Value} {a : UInt64} {s : Nat} (t1 : Turn no W W1) (O2 : Own W2 88 v2 (S1.map ptV ++ [ptV s])) (G2 : Grew W1 W2 vm v2) (hs : Sg W s p a) :
    Row W2 g #[.pointer (some ⟨p, 0, none⟩), .pointer (some ⟨q, 0, none⟩), vm, vo] 65 ∧ Wd n0 (W2.setCell ⟨g, 2, none⟩ v2) g p br bt q v2 vo ve vr V E R (E1 ++ [a]) E2 (S1 ++ [s]) S2 ∧ Turn (Ab n0) W (W2.setCell ⟨g, 2, none⟩ v2) ∧ (∀ s' b, Rsg W s' q b → Rsg (W2.setCell ⟨g, 2, none⟩ v2) s' q b) := by
  have h1 := h.turn_no t1
  have K : ∀ {e : TypeId}, e ≠ 88 → Kd (fun k => vm.ownBlock = some k) W1 e := fun he => own_kd h1.om he
  have r2 := h1.row.off G2.turn (K (by decide))
  have tS : Turn (fun k => k = g) W2 (W2.setCell ⟨g, 2, none⟩ v2) := (Turn.refl (fun k => k = g) W2).setCell (p := ⟨g, 2, none⟩) (fun _ => rfl) _
  have K2 : ∀ {e : TypeId}, e ≠ 65 → Kd (fun k => k = g) W2 e := fun he => row_kd r2 he
  have b2 : Bk W2 p br bt V E R := h1.bk.off G2.turn (fun k hk => by
    obtain ⟨c, ho⟩ := h1.om.obj hk
    exact ⟨_, _, _, ho, by decide, by decide⟩)
  have b3 := b2.off tS (fun k hk => by
    have e : k = g := hk
    subst e
    exact ⟨_, _, _, r2, by decide, by decide⟩)
  have f2 := h1.rf.off G2.turn (K (by decide)) (K (by decide)) (K (by decide))
  have hs1 := t1.size
  refine ⟨r2, ⟨r2.set 2 v2, b3, f2.off tS (K2 (by decide)) (K2 (by decide)) (K2 (by decide)), ?_, (h1.oo.off G2.turn (K (by decide))).off tS (K2 (by decide)), by simp [h.l1], h.l2, fun k b u e1 e2 => ?_, fun k b u e1 e2 => Row.off (Row.off (h1.rs k b u e1 e2) G2.turn (K (by decide))) tS (K2 (by decide)), h.lo, ?_⟩, ?_, fun s' b hb => Row.off (Row.off (Row.turn hb t1 (fun q => q)) G2.turn (K (by decide))) tS (K2 (by decide))⟩
  · have := O2.off tS (K2 (by decide))
    simpa using this
  · have hS : ∀ {u b}, Sg W1 u p b → Sg (W2.setCell ⟨g, 2, none⟩ v2) u p b := fun hb => Row.off (Row.off hb G2.turn (K (by decide))) tS (K2 (by decide))
    by_cases hk : k < E1.length
    · rw [List.getElem?_append_left hk] at e1
      rw [List.getElem?_append_left (by rw [h.l1]; exact hk)] at e2
      exact hS (h1.sg k b u e1 e2)
    · have hk2 : k = E1.length := by
        have := (List.getElem?_eq_some_iff.1 e1).1
        simp at this
        omega
      subst hk2
      rw [List.getElem?_append_right (by omega)] at e1
      rw [List.getElem?_append_right (by rw [h.l1]; omega), h.l1] at e2
      simp at e1 e2
      subst e1
      subst e2
      exact hS (Row.turn hs t1 (fun q => q))
  · rintro k (hk | hk)
    · rcases G2.blk with e | ⟨g', e, h2, _⟩
      · exact h.lv k (.inl (by rw [← e]; exact hk))
      · rw [e] at hk
        cases hk
        omega
    · exact h.lv k (.inr hk)
  · refine ((t1.of_no.trans G2.turn (fun k _ hk => h.lv k (.inl hk)) : Turn (Ab n0) W W2)).trans tS (fun k _ hk => ?_)
    have e : k = g := hk
    subst e
    exact h.lo.1
/-- One of the document's signers more. -/
theorem Wd.other (h : Wd n0 W g p br bt q vm vo ve vr V E R E1 E2 S1 S2) (hn : n0 ≤ W.heap.size) {W1 W2 : World} {v2 : Value} {a : UInt64} {s : Nat} (t1 : Turn no W W1) (O2 : Own W2 91 v2 (S2.map ptV ++ [ptV s])) (G2 : Grew W1 W2 vo v2) (hs : Rsg W s q a) :
    Row W2 g #[.pointer (some ⟨p, 0, none⟩), .pointer (some ⟨q, 0, none⟩), vm, vo] 65 ∧ Wd n0 (W2.setCell ⟨g, 3, none⟩ v2) g p br bt q vm v2 ve vr V E R E1 (E2 ++ [a]) S1 (S2 ++ [s]) ∧ Turn (Ab n0) W (W2.setCell ⟨g, 3, none⟩ v2) := by
  have h1 := h.turn_no t1
  have K : ∀ {e : TypeId}, e ≠ 91 → Kd (fun k => vo.ownBlock = some k) W1 e := fun he => own_kd h1.oo he
  have r2 := h1.row.off G2.turn (K (by decide))
  have tS : Turn (fun k => k = g) W2 (W2.setCell ⟨g, 3, none⟩ v2) := (Turn.refl (fun k => k = g) W2).setCell (p := ⟨g, 3, none⟩) (fun _ => rfl) _
  have K2 : ∀ {e : TypeId}, e ≠ 65 → Kd (fun k => k = g) W2 e := fun he => row_kd r2 he
  have b2 : Bk W2 p br bt V E R := h1.bk.off G2.turn (fun k hk => by
    obtain ⟨c, ho⟩ := h1.oo.obj hk
    exact ⟨_, _, _, ho, by decide, by decide⟩)
  have b3 := b2.off tS (fun k hk => by
    have e : k = g := hk
    subst e
    exact ⟨_, _, _, r2, by decide, by decide⟩)
  have f2 := h1.rf.off G2.turn (K (by decide)) (K (by decide)) (K (by decide))
  have hs1 := t1.size
  refine ⟨r2, ⟨r2.set 3 v2, b3, f2.off tS (K2 (by decide)) (K2 (by decide)) (K2 (by decide)), (h1.om.off G2.turn (K (by decide))).off tS (K2 (by decide)), ?_, h.l1, by simp [h.l2], fun k b u e1 e2 => Row.off (Row.off (h1.sg k b u e1 e2) G2.turn (K (by decide))) tS (K2 (by decide)), fun k b u e1 e2 => ?_, h.lo, ?_⟩, ?_⟩
  · have := O2.off tS (K2 (by decide))
    simpa using this
  · have hS : ∀ {u b}, Rsg W1 u q b → Rsg (W2.setCell ⟨g, 3, none⟩ v2) u q b := fun hb => Row.off (Row.off hb G2.turn (K (by decide))) tS (K2 (by decide))
    by_cases hk : k < E2.length
    · rw [List.getElem?_append_left hk] at e1
      rw [List.getElem?_append_left (by rw [h.l2]; exact hk)] at e2
      exact hS (h1.rs k b u e1 e2)
    · have hk2 : k = E2.length := by
        have := (List.getElem?_eq_some_iff.1 e1).1
        simp at this
        omega
      subst hk2
      rw [List.getElem?_append_right (by omega)] at e1
      rw [List.getElem?_append_right (by rw [h.l2]; omega), h.l2] at e2
      simp at e1 e2
      subst e1
      subst e2
      exact hS (Row.turn hs t1 (fun q => q))
  · rintro k (hk | hk | hk)
    · exact h.lv k (.inl hk)
    · rcases G2.blk with e | ⟨g', e, h2, _⟩
      · exact h.lv k (.inr (.inl (by rw [← e]; exact hk)))
      · rw [e] at hk
        cases hk
        omega
    · exact h.lv k (.inr (.inr hk))
  · refine ((t1.of_no.trans G2.turn (fun k _ hk => h.lv k (.inr (.inl hk))) : Turn (Ab n0) W W2)).trans tS (fun k _ hk => ?_)
    have e : k = g := hk
    subst e
    exact h.lo.1
/-- Both registries have noted a signature. -/
theorem Wd.signs (h : Wd n0 W g p br bt q vm vo ve vr V E R E1 E2 S1 S2) (hn : n0 ≤ W.heap.size) {R' : List Rec} {W0 W1 W2 W3 : World} {V' : UInt64 → Value} {vr' : Value}
    (t0 : Turn no W W0) (t1 : Turn (Fp p br bt V) W0 W1) (b1 : Bk W1 p br bt V' E R') (hV : ∀ b k, (V' b).ownBlock = some k → (V b).ownBlock = some k ∨ W0.heap.size < k)
    (t2 : Turn no W1 W2) (t3 : Turn (fun k => k = q ∨ vr.ownBlock = some k) W2 W3) (r3 : Rf W3 q ve vr' E R') (hv : ∀ k, vr'.ownBlock = some k → vr.ownBlock = some k ∨ W2.heap.size ≤ k) :
    Wd n0 W3 g p br bt q vm vo ve vr' V' E R' E1 E2 S1 S2 ∧ Turn (Ab n0) W W3 := by
  have h0 := h.turn_no t0
  have K1 : ∀ {e : TypeId}, e ≠ 135 → e ≠ 9 → Kd (Fp p br bt V) W0 e := fun he h9 => h0.bk.kd2 he h9
  have f1 := h0.rf.off t1 (K1 (by decide) (by decide)) (K1 (by decide) (by decide)) (K1 (by decide) (by decide))
  have f2 := f1.turn_no t2
  have K2 : ∀ {e : TypeId}, e ≠ 138 → e ≠ 186 → Kd (fun k => k = q ∨ vr.ownBlock = some k) W2 e := fun h1 h2 => f2.kd2 h1 h2
  have rR : ∀ {u : Nat} {cs : Array Value} {t : TypeId}, Row W0 u cs t → t ≠ 135 → t ≠ 9 → t ≠ 138 → t ≠ 186 → Row W3 u cs t := fun r h1 h2 h3 h4 => ((r.off t1 (K1 h1 h2)).turn t2 (fun q => q)).off t3 (K2 h3 h4)
  have oR : ∀ {v : Value} {xs : List Value} {t : TypeId}, Own W0 t v xs → t ≠ 135 → t ≠ 9 → t ≠ 138 → t ≠ 186 → Own W3 t v xs := fun r h1 h2 h3 h4 => ((r.off t1 (K1 h1 h2)).turn_no t2).off t3 (K2 h3 h4)
  have b2 := b1.turn_no t2
  have b3 : Bk W3 p br bt V' E R' := b2.off t3 (fun k hk => by
    rcases hk with rfl | hk
    · exact ⟨_, _, _, f2.row, by decide, by decide⟩
    · obtain ⟨c, ho⟩ := f2.orr.obj hk
      exact ⟨_, _, _, ho, by decide, by decide⟩)
  have e0 := t0.size
  have e1 := t1.size
  have e2 := t2.size
  refine ⟨⟨rR h0.row (by decide) (by decide) (by decide) (by decide), b3, r3, oR h0.om (by decide) (by decide) (by decide) (by decide), oR h0.oo (by decide) (by decide) (by decide) (by decide), h.l1, h.l2, fun k a s e1 e2 => rR (h0.sg k a s e1 e2) (by decide) (by decide) (by decide) (by decide), fun k a s e1 e2 => rR (h0.rs k a s e1 e2) (by decide) (by decide) (by decide) (by decide), h.lo, ?_⟩, ?_⟩
  · rintro k (hk | hk | hk | hk | ⟨b, hk⟩)
    · exact h.lv k (.inl hk)
    · exact h.lv k (.inr (.inl hk))
    · exact h.lv k (.inr (.inr (.inl hk)))
    · rcases hv k hk with e | e
      · exact h.lv k (.inr (.inr (.inr (.inl e))))
      · omega
    · rcases hV b k hk with e | e
      · exact h.lv k (.inr (.inr (.inr (.inr ⟨b, e⟩))))
      · omega
  · refine (((t0.of_no.trans t1 (fun k _ hk => ?_) : Turn (Ab n0) W W1)).then_no t2).trans t3 (fun k _ hk => ?_)
    · rcases hk with rfl | rfl | rfl | ⟨b, hk⟩
      · exact h.lo.2.1
      · exact h.lo.2.2.1
      · exact h.lo.2.2.2.1
      · exact h.lv k (.inr (.inr (.inr (.inr ⟨b, hk⟩))))
    · rcases hk with rfl | hk
      · exact h.lo.2.2.2.2
      · exact h.lv k (.inr (.inr (.inr (.inl hk))))
end
end Go.Proofs.YtgbcdjjnpadddaaGreatDoor


/- enters: the law's world is made. -/
namespace Go.Proofs.YtgbcdjjnpadddaaGreatDoor
open Go.RowKit Go.Maps Go.MuLone
set_option linter.unusedVariables false

/-- A list of addresses, as it is handed in. -/
structure As (w : World) (v : Value) (L : List UInt64) : Prop where
  cells : ∃ a cap, v = .slice a L.length cap ∧ L.length ≤ 9223372036854775807 ∧ ∀ (j : Nat) x, L[j]? = some x → ∃ b off, a = some ⟨b, off, none⟩ ∧ w.cell? ⟨b, off + j, none⟩ = some (.int .u64 x.toNat)
def nlV : Value := .slice none 0 0
/-- What the loop of enters keeps. -/
def EnI (w : World) (g p br bt q : Nat) (k : Nat) (W : World) : Prop := ∃ vm vo ve E S1 S2, Wd w.heap.size W g p br bt q vm vo ve (.slice none 0 0) (fun _ => .slice none 0 0) E [] E E S1 S2 ∧ E.length ≤ k ∧ Turn no w W
def EnRet (w : World) (n : Nat) (e : Ending) (W : World) : Prop := ∃ g p br bt q, e = .returned (.tuple #[.pointer (some ⟨g, 0, none⟩), .bool true]) ∧ EnI w g p br bt q n W
theorem EnRet.of {w : World} {n : Nat} {e : Ending} {W : World} (g p br bt q : Nat) (h1 : e = .returned (.tuple #[.pointer (some ⟨g, 0, none⟩), .bool true])) (h2 : EnI w g p br bt q n W) : EnRet w n e W := ⟨g, p, br, bt, q, h1, h2⟩
theorem ab_no {w W W' : World} (h : Turn no w W) (t : Turn (Ab w.heap.size) W W') : Turn no w W' := h.trans t (fun i hi hk => by
  have e : w.heap.size ≤ i := hk
  omega)
theorem eql57_ne (a : Addr) (w : World) : (binOp .eql 60 (.pointer (some a)) (.pointer none)).run Tryz.prog w = .ok (.bool false) w := by
  have h : ∀ d : Nat, (Op.equalIn (d + 1) 60 (.pointer (some a)) (.pointer none)).run Tryz.prog w = .ok false w := fun d => by
    simp [Op.equalIn, run_underlying Tryz.underlying60]
  simp only [binOp]
  simp [Op.equal, Op.maxDepth, h 9999]
theorem info89 : (Tryz.prog.info? 88).map (fun i => (i.zero, i.size, i.bytes)) = some (some (.pointer none), 1, 8) := by kernel_rfl
theorem info92 : (Tryz.prog.info? 91).map (fun i => (i.zero, i.size, i.bytes)) = some (some (.pointer none), 1, 8) := by kernel_rfl
theorem eql89_ne (a : Addr) (w : World) : (binOp .eql 88 (.pointer (some a)) (.pointer none)).run Tryz.prog w = .ok (.bool false) w := by
  have h : ∀ d : Nat, (Op.equalIn (d + 1) 88 (.pointer (some a)) (.pointer none)).run Tryz.prog w = .ok false w := fun d => by
    simp [Op.equalIn, run_underlying Tryz.underlying88]
  simp only [binOp]
  simp [Op.equal, Op.maxDepth, h 9999]
set_option maxRecDepth 100000 in
set_option maxHeartbeats 8000000 in
theorem enters5 (w : World) (v : Value) (L : List UInt64) (h : As w v L) (hL : L.length ≤ 1048576) : Calls Tryz.prog 6 #[v] w (EnRet w L.length) := by
  obtain ⟨⟨ad, cap, rfl, hle, hcells⟩⟩ := h
  have HC := shut hcells
  have hb := bk_new w
  clear hcells
  obtain ⟨n, hn⟩ : ∃ n, Hid (L.length = n) := ⟨_, rfl⟩
  rw [show L.length = n from hn.out] at hle hL ⊢
  have e1 := eql57_ne
  go_enter Tryz.func6, Tryz.ntmps6
  go_upto_region 2 with (first | (go_at_call 22; refine hb.mono ?_; clear hb; rintro e w1 ⟨p, br, bt, rfl, n1, n2, n3, B1, t1⟩; have hr := rnew19 w1) | (go_at_call 23; refine hr.mono ?_; clear hr; rintro e w2 ⟨rfl, F2, t2⟩))
  have hs1 := t1.size
  have hs2 := t2.size
  have ta : Turn no w2 (w2.alloc (.cells #[.pointer (some ⟨p, 0, none⟩), .pointer (some ⟨w1.heap.size, 0, none⟩), .slice none 0 0, .slice none 0 0] 65)) := (Turn.refl no w2).alloc _
  have T3 : Turn no w (w2.alloc (.cells #[.pointer (some ⟨p, 0, none⟩), .pointer (some ⟨w1.heap.size, 0, none⟩), .slice none 0 0, .slice none 0 0] 65)) := (t1.then_no t2).then_no ta
  have W3 : Wd w.heap.size (w2.alloc (.cells #[.pointer (some ⟨p, 0, none⟩), .pointer (some ⟨w1.heap.size, 0, none⟩), .slice none 0 0, .slice none 0 0] 65)) w2.heap.size p br bt w1.heap.size (.slice none 0 0) (.slice none 0 0) (.slice none 0 0) (.slice none 0 0) (fun _ => .slice none 0 0) [] [] [] [] [] [] :=
    ⟨Row.new w2 _ 65, (B1.turn_no t2).turn_no ta, F2.turn_no ta, Own.nil _ _, Own.nil _ _, rfl, rfl, fun k a s e => by simp at e, fun k a s e => by simp at e, ⟨by omega, by omega, by omega, by omega, by omega⟩, by rintro k (hk | hk | hk | hk | ⟨_, hk⟩) <;> cases hk⟩
  have HI0 : Shut (EnI w w2.heap.size p br bt w1.heap.size 0 (w2.alloc (.cells #[.pointer (some ⟨p, 0, none⟩), .pointer (some ⟨w1.heap.size, 0, none⟩), .slice none 0 0, .slice none 0 0] 65))) := ⟨_, _, _, _, _, _, W3, by simp, T3⟩
  have c0 := W3.row.cell 0 _ rfl
  generalize w2.alloc (.cells #[.pointer (some ⟨p, 0, none⟩), .pointer (some ⟨w1.heap.size, 0, none⟩), .slice none 0 0, .slice none 0 0] 65) = w3 at *
  generalize w2.heap.size = g at *
  generalize w1.heap.size = q at *
  clear W3 T3 ta t1 t2 hs1 hs2 n1 n2 n3 B1 F2
  go_wp2_with fail
  go_loopw [5] (fun c wr => ∃ k : Nat, k ≤ n ∧ c = .int .i64 k ∧ Shut (EnI w g p br bt q k wr)) (fun c _ => n - (intOf c).toNat)
  case atStart => exact ⟨0, by omega, rfl, HI0⟩
  case round =>
    obtain ⟨k, hk, rfl, hI⟩ := hrel
    clear HI0
    by_cases hlt : k < n
    · obtain ⟨a, ha⟩ : ∃ a, L[k]? = some a := ⟨L[k]'(by rw [hn.out]; exact hlt), List.getElem?_eq_getElem _⟩
      obtain ⟨b, off, rfl, c1⟩ := HC.out k a ha
      obtain ⟨vm, vo, ve, E, S1, S2, WD, hEk, T⟩ := hI.out
      have hb0 : b < w.heap.size := World.block_lt_of_cell? w _ c1
      have c1 := T.keep c1 (fun q => q)
      have r0 := WD.row.cell 0 _ rfl
      have r1 := WD.row.cell 1 _ rfl
      have hlt' : (k : Int) < (n : Int) := by omega
      have HW := shut WD
      have HT := shut T
      clear ha WD T hI c0
      by_cases a0 : (a.toNat : Int) = 0
      · have a0' : ((a.toNat : Int) == 0) = true := by simpa using a0
        have HE : Shut (EnI w g p br bt q (k + 1) wr.drew) := ⟨_, _, _, _, _, _, HW.out.turn_no ((Turn.refl no wr).drew), by omega, HT.out.then_no ((Turn.refl no wr).drew)⟩
        clear a0
        go_upto_region 7 with fail
        refine wp_region_held_drew (S := fun W => Turn no wr W) (by kernel_rfl) (Turn.refl _ wr).drew (fun hHeld => ?_)
        refine' wpAnyH_take (i := 0) (v := .slice (some ⟨b, off, none⟩) n cap) rfl (by kernel_rfl) (by kernel_rfl) (by kernel_rfl) (fun _ _ _ h => h) (Or.inl ⟨by kernel_rfl, fun W hW => ?y1⟩) hHeld ?r1
        · skip
          go_simp
        refine' wpAnyH_take (i := 1) (v := .int .i64 k) rfl (by kernel_rfl) (by kernel_rfl) (by kernel_rfl) (fun _ _ _ h => h) (Or.inl ⟨by kernel_rfl, fun W hW => ?y2⟩) hHeld ?r2
        · skip
          go_simp
        refine' wpAnyH_take (i := 2) (v := .pointer (some ⟨b, off + k, none⟩)) rfl (by kernel_rfl) (by kernel_rfl) (by kernel_rfl) (fun _ _ _ h => h) (Or.inl ⟨by kernel_rfl, fun W hW => ?y3⟩) hHeld ?r3
        · skip
          go_simp
        refine' wpAnyH_take (i := 3) (v := .int .u64 a.toNat) rfl (by kernel_rfl) (by kernel_rfl) (by kernel_rfl) (fun _ _ _ h => h) (Or.inl ⟨by kernel_rfl, fun W hW => ?y4⟩) hHeld ?r4
        · have c1 := hW.keep c1 (fun q => q)
          go_simp
        refine' wpAnyH_take (i := 4) (v := .bool true) rfl (by kernel_rfl) (by kernel_rfl) (by kernel_rfl) (fun _ _ _ h => h) (Or.inl ⟨by kernel_rfl, fun W hW => ?y5⟩) hHeld ?r5
        · skip
          go_simp
        refine' wpAnyH_take (i := 5) (v := .bool true) rfl (by kernel_rfl) (by kernel_rfl) (by kernel_rfl) (fun _ _ _ h => h) (Or.inl ⟨by kernel_rfl, fun W hW => ?y6⟩) hHeld ?r6
        · skip
          go_simp
        refine' wpAnyH_take (i := 6) (v := undef) rfl (by kernel_rfl) (by kernel_rfl) (by kernel_rfl) (fun _ _ _ h => h) (Or.inr ⟨by kernel_rfl, rfl⟩) hHeld ?r7
        refine' wpAnyH_take (i := 7) (v := undef) rfl (by kernel_rfl) (by kernel_rfl) (by kernel_rfl) (fun _ _ _ h => h) (Or.inr ⟨by kernel_rfl, rfl⟩) hHeld ?r8
        refine' wpAnyH_take (i := 8) (v := undef) rfl (by kernel_rfl) (by kernel_rfl) (by kernel_rfl) (fun _ _ _ h => h) (Or.inr ⟨by kernel_rfl, rfl⟩) hHeld ?r9
        refine' wpAnyH_take (i := 9) (v := undef) rfl (by kernel_rfl) (by kernel_rfl) (by kernel_rfl) (fun _ _ _ h => h) (Or.inr ⟨by kernel_rfl, rfl⟩) hHeld ?r10
        refine' wpAnyH_take (i := 10) (v := undef) rfl (by kernel_rfl) (by kernel_rfl) (by kernel_rfl) (fun _ _ _ h => h) (Or.inr ⟨by kernel_rfl, rfl⟩) hHeld ?r11
        refine' wpAnyH_take (i := 11) (v := undef) rfl (by kernel_rfl) (by kernel_rfl) (by kernel_rfl) (fun _ _ _ h => h) (Or.inr ⟨by kernel_rfl, rfl⟩) hHeld ?r12
        refine' wpAnyH_take (i := 12) (v := undef) rfl (by kernel_rfl) (by kernel_rfl) (by kernel_rfl) (fun _ _ _ h => h) (Or.inr ⟨by kernel_rfl, rfl⟩) hHeld ?r13
        refine' wpAnyH_take (i := 13) (v := undef) rfl (by kernel_rfl) (by kernel_rfl) (by kernel_rfl) (fun _ _ _ h => h) (Or.inr ⟨by kernel_rfl, rfl⟩) hHeld ?r14
        refine' wpAnyH_take (i := 14) (v := undef) rfl (by kernel_rfl) (by kernel_rfl) (by kernel_rfl) (fun _ _ _ h => h) (Or.inr ⟨by kernel_rfl, rfl⟩) hHeld ?r15
        refine' wpAnyH_take (i := 15) (v := .bool true) rfl (by kernel_rfl) (by kernel_rfl) (by kernel_rfl) (fun _ _ _ h => h) (Or.inl ⟨by kernel_rfl, fun W hW => ?y16⟩) hHeld ?r16
        · skip
          go_simp
        refine wpAnyH_done (by kernel_rfl) ?_ _
        go_simp
        go_wp2_with fail
        refine ⟨⟨k + 1, by omega, by go_num, HE⟩, ?_⟩
        simp [intOf]; omega
      · have a0' : ((a.toNat : Int) == 0) = false := by simpa using a0
        have hk0 := rknown24 (HW.out.rf.turn_no ((Turn.refl no wr).drew)) a
        by_cases hin : a ∈ E
        · rw [show decide (a ∈ E) = true by simpa using hin] at hk0
          have HE : Shut (EnI w g p br bt q (k + 1) wr.drew) := ⟨_, _, _, _, _, _, HW.out.turn_no ((Turn.refl no wr).drew), by omega, HT.out.then_no ((Turn.refl no wr).drew)⟩
          clear a0 hin
          go_upto_region 7 with fail
          refine wp_region_held_drew (S := fun W => Turn no wr W) (by kernel_rfl) (Turn.refl _ wr).drew (fun hHeld => ?_)
          refine' wpAnyH_take (i := 0) (v := .slice (some ⟨b, off, none⟩) n cap) rfl (by kernel_rfl) (by kernel_rfl) (by kernel_rfl) (fun _ _ _ h => h) (Or.inl ⟨by kernel_rfl, fun W hW => ?y17⟩) hHeld ?r17
          · skip
            go_simp
          refine' wpAnyH_take (i := 1) (v := .int .i64 k) rfl (by kernel_rfl) (by kernel_rfl) (by kernel_rfl) (fun _ _ _ h => h) (Or.inl ⟨by kernel_rfl, fun W hW => ?y18⟩) hHeld ?r18
          · skip
            go_simp
          refine' wpAnyH_take (i := 2) (v := .pointer (some ⟨b, off + k, none⟩)) rfl (by kernel_rfl) (by kernel_rfl) (by kernel_rfl) (fun _ _ _ h => h) (Or.inl ⟨by kernel_rfl, fun W hW => ?y19⟩) hHeld ?r19
          · skip
            go_simp
          refine' wpAnyH_take (i := 3) (v := .int .u64 a.toNat) rfl (by kernel_rfl) (by kernel_rfl) (by kernel_rfl) (fun _ _ _ h => h) (Or.inl ⟨by kernel_rfl, fun W hW => ?y20⟩) hHeld ?r20
          · have c1 := hW.keep c1 (fun q => q)
            go_simp
          refine' wpAnyH_take (i := 4) (v := .bool false) rfl (by kernel_rfl) (by kernel_rfl) (by kernel_rfl) (fun _ _ _ h => h) (Or.inl ⟨by kernel_rfl, fun W hW => ?y21⟩) hHeld ?r21
          · skip
            go_simp
          refine' wpAnyH_take (i := 5) (v := .bool false) rfl (by kernel_rfl) (by kernel_rfl) (by kernel_rfl) (fun _ _ _ h => h) (Or.inl ⟨by kernel_rfl, fun W hW => ?y22⟩) hHeld ?r22
          · skip
            go_simp
          refine' wpAnyH_take (i := 6) (v := .pointer (some ⟨g, 0, none⟩)) rfl (by kernel_rfl) (by kernel_rfl) (by kernel_rfl) (fun _ _ _ h => h) (Or.inl ⟨by kernel_rfl, fun W hW => ?y23⟩) hHeld ?r23
          · skip
            go_simp
          refine' wpAnyH_take (i := 7) (v := .pointer (some ⟨g, 0, none⟩)) rfl (by kernel_rfl) (by kernel_rfl) (by kernel_rfl) (fun _ _ _ h => h) (Or.inl ⟨by kernel_rfl, fun W hW => ?y24⟩) hHeld ?r24
          · skip
            go_simp
          refine' wpAnyH_take (i := 8) (v := .pointer (some ⟨g, 1, none⟩)) rfl (by kernel_rfl) (by kernel_rfl) (by kernel_rfl) (fun _ _ _ h => h) (Or.inl ⟨by kernel_rfl, fun W hW => ?y25⟩) hHeld ?r25
          · skip
            go_simp
          refine' wpAnyH_take (i := 9) (v := .pointer (some ⟨q, 0, none⟩)) rfl (by kernel_rfl) (by kernel_rfl) (by kernel_rfl) (fun _ _ _ h => h) (Or.inl ⟨by kernel_rfl, fun W hW => ?y26⟩) hHeld ?r26
          · have r1 := hW.keep r1 (fun q => q)
            go_simp
          refine' wpAnyH_take (i := 10) (v := .slice (some ⟨b, off, none⟩) n cap) rfl (by kernel_rfl) (by kernel_rfl) (by kernel_rfl) (fun _ _ _ h => h) (Or.inl ⟨by kernel_rfl, fun W hW => ?y27⟩) hHeld ?r27
          · skip
            go_simp
          refine' wpAnyH_take (i := 11) (v := .int .i64 k) rfl (by kernel_rfl) (by kernel_rfl) (by kernel_rfl) (fun _ _ _ h => h) (Or.inl ⟨by kernel_rfl, fun W hW => ?y28⟩) hHeld ?r28
          · skip
            go_simp
          refine' wpAnyH_take (i := 12) (v := .pointer (some ⟨b, off + k, none⟩)) rfl (by kernel_rfl) (by kernel_rfl) (by kernel_rfl) (fun _ _ _ h => h) (Or.inl ⟨by kernel_rfl, fun W hW => ?y29⟩) hHeld ?r29
          · skip
            go_simp
          refine' wpAnyH_take (i := 13) (v := .int .u64 a.toNat) rfl (by kernel_rfl) (by kernel_rfl) (by kernel_rfl) (fun _ _ _ h => h) (Or.inl ⟨by kernel_rfl, fun W hW => ?y30⟩) hHeld ?r30
          · have c1 := hW.keep c1 (fun q => q)
            go_simp
          refine wpAnyH_ready (rs := [14]) (by kernel_rfl) (by simp) ?_
          refine AllReadyH.cons rfl (fun K hK => ?_) AllReadyH.nil
          go_simp
          refine hk0.mono ?_
          rintro e w5 ⟨rfl, e5⟩
          have e5 := e5.symm
          subst e5
          go_wp2_with fail
          refine hK.out _ _ (Turn.refl _ wr).drew (fun hHeld => ?_)
          clear hK
          refine' wpAnyH_take (i := 15) (v := .bool true) rfl (by kernel_rfl) (by kernel_rfl) (by kernel_rfl) (fun _ _ _ h => h) (Or.inl ⟨by kernel_rfl, fun W hW => ?y31⟩) hHeld ?r31
          · skip
            go_simp
          refine wpAnyH_done (by kernel_rfl) ?_ _
          go_simp
          go_wp2_with fail
          refine ⟨⟨k + 1, by omega, by go_num, HE⟩, ?_⟩
          simp [intOf]; omega
        · rw [show decide (a ∈ E) = false by simpa using hin] at hk0
          have W4 := HW.out.turn_no ((Turn.refl no wr).drew)
          have W5 := W4.turn_no ((Turn.refl no wr.drew).drew)
          have b1 := W5.bk.enter1 a a0 hin (by simp only [maxLen, List.length_nil]; omega)
          have HIN := shut hin
          have HA0 := shut a0
          have TD := (Turn.refl no wr).drew.then_no (Turn.refl no wr.drew).drew
          have c5 := TD.keep c1 (fun q => q)
          have hlp := W5.lo
          have hsz := TD.size
          have hTs := HT.out.size
          have HF1 : Shut (∀ W, Turn (fun k => k = p ∨ k = bt) wr.drew.drew W → W.cell? ⟨g, 0, none⟩ = some (.pointer (some ⟨p, 0, none⟩)) ∧ W.cell? ⟨b, off + k, none⟩ = some (.int .u64 a.toNat)) := fun W t => by
            have r := W5.row.off t (W5.bk.kd1 (by decide))
            refine ⟨r.cell 0 _ rfl, t.keep c5 (fun e => ?_)⟩
            rcases e with e | e <;> (have e' : b = _ := e; omega)
          have HF2 : Shut (∀ W1 W, Turn (fun k => k = p ∨ k = bt) wr.drew.drew W1 → Turn (fun k => k = q ∨ ve.ownBlock = some k) W1.drew W → W.cell? ⟨g, 1, none⟩ = some (.pointer (some ⟨q, 0, none⟩)) ∧ W.cell? ⟨b, off + k, none⟩ = some (.int .u64 a.toNat)) := fun W1 W t t' => by
            obtain ⟨f1, r1⟩ := W5.rf1 t
            have f1 := f1.turn_no (Turn.refl no W1).drew
            have r1 := Row.turn r1 (Turn.refl no W1).drew (fun q => q)
            have r := Row.off r1 t' (f1.kd1 (by decide) (by decide))
            have d1 : W1.cell? ⟨b, off + k, none⟩ = some (.int .u64 a.toNat) := t.keep c5 (fun e => by rcases e with e | e <;> (have e' : b = _ := e; omega))
            have d2 := (Turn.refl no W1).drew.keep d1 (fun q => q)
            refine ⟨r.cell 1 _ rfl, t'.keep d2 (fun e => ?_)⟩
            rcases e with e | e
            · have e' : b = q := e
              omega
            · have := W5.lv b (.inr (.inr (.inl e)))
              omega
          have HRE : Shut (∀ W1, Turn (fun k => k = p ∨ k = bt) wr.drew.drew W1 → Calls Tryz.prog 26 #[.pointer (some ⟨q, 0, none⟩), .int .u64 a.toNat] W1.drew fun e w' =>
              ∃ s ve', e = .returned (.tuple #[.pointer (some ⟨s, 0, none⟩), .int .i64 0]) ∧ W1.drew.heap.size ≤ s ∧ Rsg w' s q a ∧ Rf w' q ve' (.slice none 0 0) (E ++ [a]) [] ∧ (∀ g, ve'.ownBlock = some g → ve.ownBlock = some g ∨ W1.drew.heap.size ≤ g) ∧ Turn (fun k => k = q ∨ ve.ownBlock = some k) W1.drew w') := fun W1 t =>
            renter_new ((W5.rf1 t).1.turn_no (Turn.refl no W1).drew) a a0 hin (by omega)
          have HBO : Shut (∀ W1 s, Turn (fun k => k = p ∨ k = bt) wr.drew.drew W1 → Bk W1 p br bt (fun _ => .slice none 0 0) (E ++ [a]) [] → Sg W1 s p a → ∀ W2 s' ve', Turn (fun k => k = q ∨ ve.ownBlock = some k) W1.drew W2 → Rf W2 q ve' (.slice none 0 0) (E ++ [a]) [] → Rsg W2 s' q a → (∀ k, ve'.ownBlock = some k → ve.ownBlock = some k ∨ W1.drew.heap.size ≤ k) →
              Wd w.heap.size W2 g p br bt q vm vo ve' (.slice none 0 0) (fun _ => .slice none 0 0) (E ++ [a]) [] E E S1 S2 ∧ Sg W2 s p a ∧ Rsg W2 s' q a ∧ Turn no w W2) := fun W1 s t B G W2 s' ve' t2 F G' hv => by
            have hs1 := t.size
            have tt : Turn (fun k => k = p ∨ k = bt) wr.drew.drew W1.drew := t.then_no (Turn.refl no W1).drew
            obtain ⟨x1, x2, x3, x4⟩ := W5.both (by omega) tt (B.turn_no (Turn.refl no W1).drew) (Row.turn G (Turn.refl no W1).drew (fun q => q)) t2 F G' hv
            exact ⟨x1, x2, x3, ab_no (HT.out.then_no TD) x4⟩
          have l1 : S1.length = E.length := W5.l1
          have l2 : S2.length = E.length := W5.l2
          clear W4 W5 HW a0 hin TD c5 hlp hTs hsz
          go_upto_region 7 with fail
          refine wp_region_held_drew (S := fun W => Turn no wr W) (by kernel_rfl) (Turn.refl _ wr).drew (fun hHeld => ?_)
          refine' wpAnyH_take (i := 0) (v := .slice (some ⟨b, off, none⟩) n cap) rfl (by kernel_rfl) (by kernel_rfl) (by kernel_rfl) (fun _ _ _ h => h) (Or.inl ⟨by kernel_rfl, fun W hW => ?y32⟩) hHeld ?r32
          · skip
            go_simp
          refine' wpAnyH_take (i := 1) (v := .int .i64 k) rfl (by kernel_rfl) (by kernel_rfl) (by kernel_rfl) (fun _ _ _ h => h) (Or.inl ⟨by kernel_rfl, fun W hW => ?y33⟩) hHeld ?r33
          · skip
            go_simp
          refine' wpAnyH_take (i := 2) (v := .pointer (some ⟨b, off + k, none⟩)) rfl (by kernel_rfl) (by kernel_rfl) (by kernel_rfl) (fun _ _ _ h => h) (Or.inl ⟨by kernel_rfl, fun W hW => ?y34⟩) hHeld ?r34
          · skip
            go_simp
          refine' wpAnyH_take (i := 3) (v := .int .u64 a.toNat) rfl (by kernel_rfl) (by kernel_rfl) (by kernel_rfl) (fun _ _ _ h => h) (Or.inl ⟨by kernel_rfl, fun W hW => ?y35⟩) hHeld ?r35
          · have c1 := hW.keep c1 (fun q => q)
            go_simp
          refine' wpAnyH_take (i := 4) (v := .bool false) rfl (by kernel_rfl) (by kernel_rfl) (by kernel_rfl) (fun _ _ _ h => h) (Or.inl ⟨by kernel_rfl, fun W hW => ?y36⟩) hHeld ?r36
          · skip
            go_simp
          refine' wpAnyH_take (i := 5) (v := .bool false) rfl (by kernel_rfl) (by kernel_rfl) (by kernel_rfl) (fun _ _ _ h => h) (Or.inl ⟨by kernel_rfl, fun W hW => ?y37⟩) hHeld ?r37
          · skip
            go_simp
          refine' wpAnyH_take (i := 6) (v := .pointer (some ⟨g, 0, none⟩)) rfl (by kernel_rfl) (by kernel_rfl) (by kernel_rfl) (fun _ _ _ h => h) (Or.inl ⟨by kernel_rfl, fun W hW => ?y38⟩) hHeld ?r38
          · skip
            go_simp
          refine' wpAnyH_take (i := 7) (v := .pointer (some ⟨g, 0, none⟩)) rfl (by kernel_rfl) (by kernel_rfl) (by kernel_rfl) (fun _ _ _ h => h) (Or.inl ⟨by kernel_rfl, fun W hW => ?y39⟩) hHeld ?r39
          · skip
            go_simp
          refine' wpAnyH_take (i := 8) (v := .pointer (some ⟨g, 1, none⟩)) rfl (by kernel_rfl) (by kernel_rfl) (by kernel_rfl) (fun _ _ _ h => h) (Or.inl ⟨by kernel_rfl, fun W hW => ?y40⟩) hHeld ?r40
          · skip
            go_simp
          refine' wpAnyH_take (i := 9) (v := .pointer (some ⟨q, 0, none⟩)) rfl (by kernel_rfl) (by kernel_rfl) (by kernel_rfl) (fun _ _ _ h => h) (Or.inl ⟨by kernel_rfl, fun W hW => ?y41⟩) hHeld ?r41
          · have r1 := hW.keep r1 (fun q => q)
            go_simp
          refine' wpAnyH_take (i := 10) (v := .slice (some ⟨b, off, none⟩) n cap) rfl (by kernel_rfl) (by kernel_rfl) (by kernel_rfl) (fun _ _ _ h => h) (Or.inl ⟨by kernel_rfl, fun W hW => ?y42⟩) hHeld ?r42
          · skip
            go_simp
          refine' wpAnyH_take (i := 11) (v := .int .i64 k) rfl (by kernel_rfl) (by kernel_rfl) (by kernel_rfl) (fun _ _ _ h => h) (Or.inl ⟨by kernel_rfl, fun W hW => ?y43⟩) hHeld ?r43
          · skip
            go_simp
          refine' wpAnyH_take (i := 12) (v := .pointer (some ⟨b, off + k, none⟩)) rfl (by kernel_rfl) (by kernel_rfl) (by kernel_rfl) (fun _ _ _ h => h) (Or.inl ⟨by kernel_rfl, fun W hW => ?y44⟩) hHeld ?r44
          · skip
            go_simp
          refine' wpAnyH_take (i := 13) (v := .int .u64 a.toNat) rfl (by kernel_rfl) (by kernel_rfl) (by kernel_rfl) (fun _ _ _ h => h) (Or.inl ⟨by kernel_rfl, fun W hW => ?y45⟩) hHeld ?r45
          · have c1 := hW.keep c1 (fun q => q)
            go_simp
          refine wpAnyH_ready (rs := [14]) (by kernel_rfl) (by simp) ?_
          refine AllReadyH.cons rfl (fun K hK => ?_) AllReadyH.nil
          go_simp
          refine hk0.mono ?_
          rintro e w5 ⟨rfl, e5⟩
          have e5 := e5.symm
          subst e5
          go_wp2_with fail
          refine hK.out _ _ (Turn.refl _ wr).drew (fun hHeld => ?_)
          clear hK
          refine' wpAnyH_take (i := 15) (v := .bool false) rfl (by kernel_rfl) (by kernel_rfl) (by kernel_rfl) (fun _ _ _ h => h) (Or.inl ⟨by kernel_rfl, fun W hW => ?y46⟩) hHeld ?r46
          · skip
            go_simp
          refine wpAnyH_done (by kernel_rfl) ?_ _
          go_simp
          clear r0 r1 c1 HT
          go_upto_region 8 with fail
          refine wp_region_held_drew (S := fun W => Turn (fun k => k = p ∨ k = bt) wr.drew.drew W) (by kernel_rfl) (Turn.refl _ wr.drew.drew) (fun hHeld => ?_)
          refine' wpAnyH_take (i := 0) (v := .pointer (some ⟨g, 0, none⟩)) rfl (by kernel_rfl) (by kernel_rfl) (by kernel_rfl) (fun _ _ _ h => h) (Or.inl ⟨by kernel_rfl, fun W hW => ?y47⟩) hHeld ?r47
          · skip
            go_simp
          refine' wpAnyH_take (i := 1) (v := .pointer (some ⟨g, 0, none⟩)) rfl (by kernel_rfl) (by kernel_rfl) (by kernel_rfl) (fun _ _ _ h => h) (Or.inl ⟨by kernel_rfl, fun W hW => ?y48⟩) hHeld ?r48
          · skip
            go_simp
          refine' wpAnyH_take (i := 2) (v := .pointer (some ⟨g, 0, none⟩)) rfl (by kernel_rfl) (by kernel_rfl) (by kernel_rfl) (fun _ _ _ h => h) (Or.inl ⟨by kernel_rfl, fun W hW => ?y49⟩) hHeld ?r49
          · skip
            go_simp
          refine' wpAnyH_take (i := 3) (v := .pointer (some ⟨p, 0, none⟩)) rfl (by kernel_rfl) (by kernel_rfl) (by kernel_rfl) (fun _ _ _ h => h) (Or.inl ⟨by kernel_rfl, fun W hW => ?y50⟩) hHeld ?r50
          · obtain ⟨f1, f2⟩ := HF1.out W hW
            go_simp
          refine' wpAnyH_take (i := 4) (v := .slice (some ⟨b, off, none⟩) n cap) rfl (by kernel_rfl) (by kernel_rfl) (by kernel_rfl) (fun _ _ _ h => h) (Or.inl ⟨by kernel_rfl, fun W hW => ?y51⟩) hHeld ?r51
          · skip
            go_simp
          refine' wpAnyH_take (i := 5) (v := .int .i64 k) rfl (by kernel_rfl) (by kernel_rfl) (by kernel_rfl) (fun _ _ _ h => h) (Or.inl ⟨by kernel_rfl, fun W hW => ?y52⟩) hHeld ?r52
          · skip
            go_simp
          refine' wpAnyH_take (i := 6) (v := .pointer (some ⟨b, off + k, none⟩)) rfl (by kernel_rfl) (by kernel_rfl) (by kernel_rfl) (fun _ _ _ h => h) (Or.inl ⟨by kernel_rfl, fun W hW => ?y53⟩) hHeld ?r53
          · skip
            go_simp
          refine' wpAnyH_take (i := 7) (v := .int .u64 a.toNat) rfl (by kernel_rfl) (by kernel_rfl) (by kernel_rfl) (fun _ _ _ h => h) (Or.inl ⟨by kernel_rfl, fun W hW => ?y54⟩) hHeld ?r54
          · obtain ⟨f1, f2⟩ := HF1.out W hW
            go_simp
          refine wpAnyH_ready (rs := [8]) (by kernel_rfl) (by simp) ?_
          refine AllReadyH.cons rfl (fun K hK => ?_) AllReadyH.nil
          go_simp
          refine b1.mono ?_
          rintro e w5 ⟨s, rfl, hsz, G5, B5, T5⟩
          go_wp2_with fail
          refine hK.out _ _ T5 (fun hHeld => ?_)
          clear hK b1
          refine' wpAnyH_take (i := 9) (v := .tuple #[.pointer (some ⟨s, 0, none⟩), .int .i64 0]) rfl (by kernel_rfl) (by kernel_rfl) (by kernel_rfl) (fun _ _ _ h => h) (Or.inl ⟨by kernel_rfl, fun W hW => ?y55⟩) hHeld ?r55
          · skip
            go_simp
          refine' wpAnyH_take (i := 10) (v := .pointer (some ⟨s, 0, none⟩)) rfl (by kernel_rfl) (by kernel_rfl) (by kernel_rfl) (fun _ _ _ h => h) (Or.inl ⟨by kernel_rfl, fun W hW => ?y56⟩) hHeld ?r56
          · skip
            go_simp
          refine' wpAnyH_take (i := 11) (v := .int .i64 0) rfl (by kernel_rfl) (by kernel_rfl) (by kernel_rfl) (fun _ _ _ h => h) (Or.inl ⟨by kernel_rfl, fun W hW => ?y57⟩) hHeld ?r57
          · skip
            go_simp
          refine' wpAnyH_take (i := 12) (v := .pointer (some ⟨s, 0, none⟩)) rfl (by kernel_rfl) (by kernel_rfl) (by kernel_rfl) (fun _ _ _ h => h) (Or.inl ⟨by kernel_rfl, fun W hW => ?y58⟩) hHeld ?r58
          · skip
            go_simp
          refine' wpAnyH_take (i := 13) (v := .int .i64 0) rfl (by kernel_rfl) (by kernel_rfl) (by kernel_rfl) (fun _ _ _ h => h) (Or.inl ⟨by kernel_rfl, fun W hW => ?y59⟩) hHeld ?r59
          · skip
            go_simp
          refine wpAnyH_done (by kernel_rfl) ?_ _
          go_simp
          go_upto_region 9 with fail
          have b2 := HRE.out w5 T5
          have F2 := HF2.out w5
          refine wp_region_held_drew (S := fun W => Turn (fun k => k = q ∨ ve.ownBlock = some k) w5.drew W) (by kernel_rfl) (Turn.refl _ w5.drew) (fun hHeld => ?_)
          refine' wpAnyH_take (i := 0) (v := .pointer (some ⟨g, 0, none⟩)) rfl (by kernel_rfl) (by kernel_rfl) (by kernel_rfl) (fun _ _ _ h => h) (Or.inl ⟨by kernel_rfl, fun W hW => ?y60⟩) hHeld ?r60
          · skip
            go_simp
          refine' wpAnyH_take (i := 1) (v := .pointer (some ⟨g, 0, none⟩)) rfl (by kernel_rfl) (by kernel_rfl) (by kernel_rfl) (fun _ _ _ h => h) (Or.inl ⟨by kernel_rfl, fun W hW => ?y61⟩) hHeld ?r61
          · skip
            go_simp
          refine' wpAnyH_take (i := 2) (v := .pointer (some ⟨g, 1, none⟩)) rfl (by kernel_rfl) (by kernel_rfl) (by kernel_rfl) (fun _ _ _ h => h) (Or.inl ⟨by kernel_rfl, fun W hW => ?y62⟩) hHeld ?r62
          · skip
            go_simp
          refine' wpAnyH_take (i := 3) (v := .pointer (some ⟨q, 0, none⟩)) rfl (by kernel_rfl) (by kernel_rfl) (by kernel_rfl) (fun _ _ _ h => h) (Or.inl ⟨by kernel_rfl, fun W hW => ?y63⟩) hHeld ?r63
          · obtain ⟨f1, f2⟩ := F2 W T5 hW
            go_simp
          refine' wpAnyH_take (i := 4) (v := .slice (some ⟨b, off, none⟩) n cap) rfl (by kernel_rfl) (by kernel_rfl) (by kernel_rfl) (fun _ _ _ h => h) (Or.inl ⟨by kernel_rfl, fun W hW => ?y64⟩) hHeld ?r64
          · skip
            go_simp
          refine' wpAnyH_take (i := 5) (v := .int .i64 k) rfl (by kernel_rfl) (by kernel_rfl) (by kernel_rfl) (fun _ _ _ h => h) (Or.inl ⟨by kernel_rfl, fun W hW => ?y65⟩) hHeld ?r65
          · skip
            go_simp
          refine' wpAnyH_take (i := 6) (v := .pointer (some ⟨b, off + k, none⟩)) rfl (by kernel_rfl) (by kernel_rfl) (by kernel_rfl) (fun _ _ _ h => h) (Or.inl ⟨by kernel_rfl, fun W hW => ?y66⟩) hHeld ?r66
          · skip
            go_simp
          refine' wpAnyH_take (i := 7) (v := .int .u64 a.toNat) rfl (by kernel_rfl) (by kernel_rfl) (by kernel_rfl) (fun _ _ _ h => h) (Or.inl ⟨by kernel_rfl, fun W hW => ?y67⟩) hHeld ?r67
          · obtain ⟨f1, f2⟩ := F2 W T5 hW
            go_simp
          refine wpAnyH_ready (rs := [8]) (by kernel_rfl) (by simp) ?_
          refine AllReadyH.cons rfl (fun K hK => ?_) AllReadyH.nil
          go_simp
          refine b2.mono ?_
          rintro e w6 ⟨s', ve', rfl, hsz', G6, F6, hv6, T6⟩
          go_wp2_with fail
          refine hK.out _ _ T6 (fun hHeld => ?_)
          clear hK b2
          refine' wpAnyH_take (i := 9) (v := .tuple #[.pointer (some ⟨s', 0, none⟩), .int .i64 0]) rfl (by kernel_rfl) (by kernel_rfl) (by kernel_rfl) (fun _ _ _ h => h) (Or.inl ⟨by kernel_rfl, fun W hW => ?y68⟩) hHeld ?r68
          · skip
            go_simp
          refine' wpAnyH_take (i := 10) (v := .pointer (some ⟨s', 0, none⟩)) rfl (by kernel_rfl) (by kernel_rfl) (by kernel_rfl) (fun _ _ _ h => h) (Or.inl ⟨by kernel_rfl, fun W hW => ?y69⟩) hHeld ?r69
          · skip
            go_simp
          refine' wpAnyH_take (i := 11) (v := .int .i64 0) rfl (by kernel_rfl) (by kernel_rfl) (by kernel_rfl) (fun _ _ _ h => h) (Or.inl ⟨by kernel_rfl, fun W hW => ?y70⟩) hHeld ?r70
          · skip
            go_simp
          refine' wpAnyH_take (i := 12) (v := .pointer (some ⟨s', 0, none⟩)) rfl (by kernel_rfl) (by kernel_rfl) (by kernel_rfl) (fun _ _ _ h => h) (Or.inl ⟨by kernel_rfl, fun W hW => ?y71⟩) hHeld ?r71
          · skip
            go_simp
          refine' wpAnyH_take (i := 13) (v := .int .i64 0) rfl (by kernel_rfl) (by kernel_rfl) (by kernel_rfl) (fun _ _ _ h => h) (Or.inl ⟨by kernel_rfl, fun W hW => ?y72⟩) hHeld ?r72
          · skip
            go_simp
          refine wpAnyH_done (by kernel_rfl) ?_ _
          go_simp
          obtain ⟨W6, SG6, RS6, TT6⟩ := HBO.out w5 s T5 B5 G5 w6 s' ve' T6 F6 G6 hv6
          clear HBO HRE HF1 HF2 F2 hsz hsz' hv6 T5 T6 B5 G5 F6 G6
          obtain ⟨ma, mn, mc, evm⟩ := W6.om.shp
          obtain ⟨oa, on, oc, evo⟩ := W6.oo.shp
          subst evm
          subst evo
          have SRC := src_oneT (P := Tryz.prog) (e := 88) Tryz.underlying62 w6 (ptV s) rfl
          have HMI := shut (fun v2 w2 => W6.mine (a := a) (by have := TT6.size; omega) ((Turn.refl no w6).alloc (.cells #[ptV s] 88)) (W2 := w2) (v2 := v2) (s := s))
          have OWN := W6.om.turn_no ((Turn.refl no w6).alloc (.cells #[ptV s] 88))
          have m0 := W6.row.cell 2 _ rfl
          have hS1 : S1.length ≤ 1048576 := by omega
          have e8 := eql89_ne
          have HW6 := shut W6
          clear W6
          go_wp2_with (at_builtin; refine wpList_append_src rfl (.tmp 79) (.tmp 81) rfl Tryz.underlying62 info89 rfl (.slice ma mn mc) (S1.map ptV) rfl OWN (.slice (some ⟨w6.heap.size, 0, none⟩) 1 1) 1 [ptV s] rfl SRC (by rw [List.length_map]; omega) (by rw [List.length_map]; simp only [maxLen]; omega) ?_)
          intro v2 w2 O2 G2 _
          obtain ⟨r2, W7, T7, k7⟩ := HMI.out v2 w2 O2 G2 SG6
          have RS7 := k7 s' a RS6
          have TT7 := ab_no TT6 T7
          have a2 := r2.cell 2 _ rfl
          have z2 := r2.frozen 2
          obtain ⟨xa, xn, xc, ev2⟩ := O2.shp
          subst ev2
          clear OWN SRC HMI O2 G2 SG6 RS6 k7 T7 TT6 HW6 r2 m0
          go_upto_region 13 with fail
          generalize w2.setCell ⟨g, 2, none⟩ (.slice xa xn xc) = w7 at *
          have SRC := src_oneT (P := Tryz.prog) (e := 91) Tryz.underlying63 w7 (ptV s') rfl
          have HOT := shut (fun v2 w2 => W7.other (a := a) (by have := TT7.size; omega) ((Turn.refl no w7).alloc (.cells #[ptV s'] 91)) (W2 := w2) (v2 := v2) (s := s'))
          have OWN := W7.oo.turn_no ((Turn.refl no w7).alloc (.cells #[ptV s'] 91))
          have m0 := W7.row.cell 3 _ rfl
          have hS2 : S2.length ≤ 1048576 := by omega
          clear W7 a2 z2
          go_wp2_with (at_builtin; refine wpList_append_src rfl (.tmp 89) (.tmp 91) rfl Tryz.underlying63 info92 rfl (.slice oa on oc) (S2.map ptV) rfl OWN (.slice (some ⟨w7.heap.size, 0, none⟩) 1 1) 1 [ptV s'] rfl SRC (by rw [List.length_map]; omega) (by rw [List.length_map]; simp only [maxLen]; omega) ?_)
          intro v3 w3' O3 G3 _
          obtain ⟨r3, W8, T8⟩ := HOT.out v3 w3' O3 G3 RS7
          have HE : Shut (EnI w g p br bt q (k + 1) (w3'.setCell ⟨g, 3, none⟩ v3)) := ⟨_, _, _, _, _, _, W8, by rw [List.length_append]; simp; omega, ab_no TT7 T8⟩
          have a3 := r3.cell 3 _ rfl
          have z3 := r3.frozen 3
          obtain ⟨ya, yn, yc, ev3⟩ := O3.shp
          subst ev3
          clear OWN SRC HOT O3 G3 RS7 T8 TT7 r3 m0 W8
          go_wp2_with fail
          refine ⟨⟨k + 1, by omega, by go_num, HE⟩, ?_⟩
          simp [intOf]; omega
    · have hkn : k = n := by omega
      subst hkn
      have hlt' : ¬ (k : Int) < (k : Int) := by omega
      clear hlt
      go_wp2_with fail
      go_ret2
      exact EnRet.of g p br bt q rfl hI.out
end Go.Proofs.YtgbcdjjnpadddaaGreatDoor

