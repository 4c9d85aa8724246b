/- A vote's seal is written over; what stays while both registries sign. -/
import Derived.Test.YtgbcdjjnpadddaaGreatDoorSz
import Derived.Deep.MidRow
namespace Go.Proofs.YtgbcdjjnpadddaaGreatDoor
open Go.RowKit Go.Maps Go.MuLone
set_option linter.unusedVariables false

theorem Row.set1 {w : World} {g : Nat} {cs : Array Value} {e : TypeId} (h : Row w g cs e) (j : Nat) (u : Value) : Row (w.setCell ⟨g, j, none⟩ u) g (cs.setIfInBounds j u) e := heap_setCell_same w g j cs e u h
theorem over_cons (cur : Array Value) (o : Nat) (c : Value) (cs : List Value) (h : o < cur.size) : over cur o (c :: cs) = over (cur.setIfInBounds o c) (o + 1) cs := by
  unfold over
  congr 1
  have e1 : (cur.setIfInBounds o c).toList = cur.toList.set o c := by simp
  rw [e1]
  apply List.ext_getElem?
  intro j
  simp only [List.getElem?_append, List.getElem?_take, List.getElem?_drop, List.length_append, List.length_take, List.length_cons, List.getElem?_set, List.length_set, Array.length_toList]
  rw [Nat.min_eq_left (by omega), Nat.min_eq_left (by omega)]
  by_cases h1 : j < o
  · rw [if_pos (by omega), if_pos h1, if_pos h1, if_pos (by omega), if_pos (by omega), if_pos (by omega), if_neg (by omega)]
  · by_cases h2 : j = o
    · subst h2
      rw [if_pos (by omega), if_neg (by omega), if_pos (by omega), if_pos (by omega), if_pos (by omega), if_pos rfl, if_pos (by omega)]
      simp
    · by_cases h3 : j < o + (cs.length + 1)
      · rw [if_pos h3, if_neg h1, if_pos (by omega), if_neg (by omega)]
        rw [show j - o = (j - (o + 1)) + 1 by omega]
        simp
      · rw [if_neg h3, if_neg (by omega), if_neg (by omega)]
        congr 1
        omega
theorem Row.setCells : ∀ (l : List Value) {w : World} {g o : Nat} {cs : Array Value} {e : TypeId}, Row w g cs e → o + l.length ≤ cs.size → Row (w.setCells g o l) g (over cs o l) e
  | [], w, g, o, cs, e, h, hl => by
    have : over cs o [] = cs := by simp [over]
    rw [this]
    exact h
  | c :: l, w, g, o, cs, e, h, hl => by
    simp only [List.length_cons] at hl
    rw [over_cons cs o c l (by omega)]
    exact Row.setCells l (h.set1 o c) (by simp; omega)
theorem Turn.setCells : ∀ (l : List Value) {S : Nat → Prop} {a w : World} {g o : Nat}, Turn S a w → (g < a.heap.size → S g) → Turn S a (w.setCells g o l)
  | [], _, _, _, _, _, h, _ => h
  | c :: l, S, a, w, g, o, h, hs => Turn.setCells l (h.setCell (p := ⟨g, o, none⟩) hs c) hs
theorem over_app (A B C D : List Value) (o : Nat) (ho : A.length = o) (hl : B.length = D.length) : over (A ++ (B ++ C)).toArray o D = (A ++ (D ++ C)).toArray := by
  unfold over
  congr 1
  simp [← ho, ← hl]
theorem there_of {w : World} {g : Nat} {X : Array Value} {t : TypeId} (h : Row w g X t) (o n : Nat) (hn : o + n ≤ X.size) : w.there g o n := fun j hj => by
  have hc := h.cell (o + j) (X[o + j]'(by omega)) (by simp)
  exact ⟨by rw [hc]; rfl, h.frozen _⟩
theorem seV {x : Vt} (hx : x.ok) (X : List UInt8) (hX : X.length = 16) : over x.cs.toArray 37 (X.map bv) = ({ x with se := X } : Vt).cs.toArray := by
  have h := over_app (.int .i64 x.k :: .int .u64 x.h :: .int .i64 x.r :: (x.id.map bv ++ [.int .u64 x.t, .int .u64 x.f])) (x.se.map bv) [] (X.map bv) 37 (by simp [hx.1]) (by simp [hx.2, hX])
  simpa [Vt.cs] using h
section
variable {n0 : Nat} {W : World} {g p br bt q : Nat} {vm vo ve vr : Value} {V : UInt64 → Value} {E : List UInt64} {R : List Rec} {E1 E2 : List UInt64} {S1 S2 : List Nat}
/-- What stays behind the real registry's signature. -/
theorem Wd.keep1 (h : Wd n0 W g p br bt q vm vo ve vr V E R E1 E2 S1 S2) {W0 W1 W2 : World} (t0 : Turn no W W0) (t1 : Turn (Fp p br bt V) W0 W1) (t2 : Turn no W1 W2) :
    Rf W2 q ve vr E R ∧ (∀ u cs t, Row W u cs t → t ≠ 135 → t ≠ 9 → Row W2 u cs t) ∧ (∀ v xs t, Own W t v xs → t ≠ 135 → t ≠ 9 → Own W2 t v xs) := by
  have h0 := h.turn_no t0
  have K1 : ∀ {e : TypeId}, e ≠ 135 → e ≠ 9 → Kd (Fp p br bt V) W0 e := fun he h9 => h0.bk.kd2 he h9
  exact ⟨(h0.rf.off t1 (K1 (by decide) (by decide)) (K1 (by decide) (by decide)) (K1 (by decide) (by decide))).turn_no t2, fun u cs t r h1 h2 => Row.turn (Row.off (Row.turn r t0 (fun q => q)) t1 (K1 h1 h2)) t2 (fun q => q), fun v xs t r h1 h2 => ((r.turn_no t0).off t1 (K1 h1 h2)).turn_no t2⟩
/-- Maps that are none of the registry's stay behind both. -/
theorem Wd.maps (h : Wd n0 W g p br bt q vm vo ve vr V E R E1 E2 S1 S2) {W0 W1 W2 W3 : World} (t0 : Turn no W W0) (t1 : Turn (Fp p br bt V) W0 W1) (t2 : Turn no W1 W2) (t3 : Turn (fun k => k = q ∨ vr.ownBlock = some k) W2 W3) (k : Nat) (es : Array MapEntry) (c : Nat) (ho : W.heap[k]? = some (.map es c)) (h1 : k ≠ br) (h2 : k ≠ bt) : W3.heap[k]? = some (.map es c) := by
  have o2 := t2.obj (t1.obj (t0.obj ho (fun q => q)) (by
    rintro (rfl | rfl | rfl | ⟨a, ha⟩)
    · obtain ⟨D1, D2, hr, _⟩ := h.bk.reg
      have := hr.row
      rw [ho] at this
      cases this
    · exact h1 rfl
    · exact h2 rfl
    · obtain ⟨c', ho'⟩ := (h.bk.rows a).obj ha
      rw [ho] at ho'
      cases ho')) (fun q => q)
  refine t3.obj o2 ?_
  rintro (rfl | hk)
  · have := h.rf.row
    have this : W.heap[k]? = _ := this
    rw [ho] at this
    cases this
  · obtain ⟨c', ho'⟩ := h.rf.orr.obj hk
    rw [ho] at ho'
    cases ho'
/-- What stays behind both. -/
theorem Wd.keep3 (h : Wd n0 W g p br bt q vm vo ve vr V E R E1 E2 S1 S2) {W0 W1 W2 W3 : World} (t0 : Turn no W W0) (t1 : Turn (Fp p br bt V) W0 W1) (t2 : Turn no W1 W2) (t3 : Turn (fun k => k = q ∨ vr.ownBlock = some k) W2 W3) :
    (∀ u cs t, Row W2 u cs t → t ≠ 138 → t ≠ 186 → Row W3 u cs t) ∧ (∀ u cs t, Row W u cs t → t ≠ 135 → t ≠ 9 → t ≠ 138 → t ≠ 186 → Row W3 u cs t) ∧ (∀ v xs t, Own W t v xs → t ≠ 135 → t ≠ 9 → t ≠ 138 → t ≠ 186 → Own W3 t v xs) := by
  obtain ⟨f, k1, k2⟩ := h.keep1 t0 t1 t2
  exact ⟨fun u cs t r h1 h2 => Row.off r t3 (f.kd2 h1 h2), fun u cs t r h1 h2 h3 h4 => Row.off (k1 u cs t r h1 h2) t3 (f.kd2 h3 h4), fun v xs t r h1 h2 h3 h4 => Own.off (k2 v xs t r h1 h2) t3 (f.kd2 h3 h4)⟩
end
theorem noted_twice (R : List Rec) (a : UInt64) (s : List UInt8) : noted (noted R a s) a s = noted R a s := by
  have h : (a, s) ∈ noted R a s := by
    unfold noted
    split
    · assumption
    · simp
  rw [noted, if_pos h]
end Go.Proofs.YtgbcdjjnpadddaaGreatDoor

