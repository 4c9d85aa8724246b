/- full: a list is turned, and made longer. -/
import Derived.Test.YtpfjllkmaogafaaX1
import Derived.Laws.BitsAllLaws
namespace Go.Proofs.Ytpfjllkmaogafaa
open Go.RowKit
set_option linter.unusedVariables false

theorem Own.setAt {w : World} {e : TypeId} {g n cap : Nat} {xs : List Value} (h : Own w e (.slice (some ⟨g, 0, none⟩) n cap) xs) (k : Nat) (u : Value) : Own (w.setCell ⟨g, k, none⟩ u) e (.slice (some ⟨g, 0, none⟩) n cap) (xs.set k u) := by
  rcases h.shape with ⟨e1, _⟩ | ⟨g', cap', cur, e1, hg, h1, h2, h3, h4⟩
  · cases e1
  · cases e1
    have := Own.of (w := w.setCell ⟨g, k, none⟩ u) (e := e) (xs := xs.set k u) (g := g) (cap := cap) (cur := cur.setIfInBounds k u) (heap_setCell_same w g k cur e u hg) (by simpa using h1) h2 (by simpa using h3) (by
      rw [Array.toList_setIfInBounds, List.length_set, List.take_set, h4])
    simpa using this
theorem Own.obj {w : World} {e : TypeId} {v : Value} {xs : List Value} (h : Own w e v xs) {g : Nat} (hg : v.ownBlock = some g) : ∃ cur, w.heap[g]? = some (.cells cur e (0, 0)) := by
  rcases h.shape with ⟨rfl, _⟩ | ⟨g', cap, cur, rfl, ho, _⟩
  · cases hg
  · simp [Value.ownBlock] at hg
    subst hg
    exact ⟨cur, ho⟩
theorem Own.len {w : World} {e : TypeId} {v : Value} {xs : List Value} (h : Own w e v xs) : ∃ a cap, v = .slice a xs.length cap ∧ (0 < xs.length → ∃ g, a = some ⟨g, 0, none⟩) := by
  rcases h.shape with ⟨rfl, rfl⟩ | ⟨g', cap, cur, rfl, ho, _⟩
  · exact ⟨none, 0, rfl, fun q => by simp at q⟩
  · exact ⟨_, cap, rfl, fun _ => ⟨g', rfl⟩⟩
theorem xor8 (a b : UInt8) : bits .xor .u8 (a.toNat : Int) (b.toNat : Int) = ((a ^^^ b).toNat : Int) := by
  rw [u8_xor_nat _ _ a.toNat_lt b.toNat_lt]
  simp
/-- Turned as far as i; turned and made longer. -/
def xorTo (X : List UInt8) (m : UInt8) (i : Nat) : List UInt8 := (X.take i).map (· ^^^ m) ++ X.drop i
def gro (X : List UInt8) (m : UInt8) : List UInt8 := X.map (· ^^^ m) ++ List.replicate 40 m
theorem gro_len (X : List UInt8) (m : UInt8) : (gro X m).length = X.length + 40 := by simp [gro]
theorem xorTo_len (X : List UInt8) (m : UInt8) (i : Nat) : (xorTo X m i).length = X.length := by simp [xorTo]; omega
theorem xorTo_get (X : List UInt8) (m : UInt8) (i : Nat) (b : UInt8) (hb : X[i]? = some b) : (xorTo X m i)[i]? = some b := by
  have hi : i < X.length := (List.getElem?_eq_some_iff.1 hb).1
  unfold xorTo
  rw [List.getElem?_append_right (by simp; omega)]
  simp only [List.length_map, List.length_take]
  rw [Nat.min_eq_left (by omega), Nat.sub_self, List.getElem?_drop]
  simpa using hb
theorem xorTo_set (X : List UInt8) (m : UInt8) (i : Nat) (b : UInt8) (hb : X[i]? = some b) : (xorTo X m i).set i (b ^^^ m) = xorTo X m (i + 1) := by
  have hi : i < X.length := (List.getElem?_eq_some_iff.1 hb).1
  have hbe : X[i] = b := (List.getElem?_eq_some_iff.1 hb).2
  unfold xorTo
  rw [List.set_append_right _ _ (by simp; omega)]
  simp only [List.length_map, List.length_take]
  rw [Nat.min_eq_left (by omega), Nat.sub_self, List.drop_eq_getElem_cons hi, List.set_cons_zero, List.take_succ_eq_append_getElem hi, List.map_append, hbe]
  simp
theorem replicate_snoc (m : UInt8) (j : Nat) : List.replicate (j + 1) m = List.replicate j m ++ [m] := by
  rw [List.replicate_succ']

end Go.Proofs.Ytpfjllkmaogafaa

