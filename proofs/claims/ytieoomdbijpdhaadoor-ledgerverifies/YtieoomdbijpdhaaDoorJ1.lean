/- What a proof leads to, plain; a list of digests in memory. -/
import Derived.Test.YtieoomdbijpdhaaDoorF10
import Derived.Test.YtieoomdbijpdhaaDoorF6
import Derived.Test.YtieoomdbijpdhaaDoorF5
import Derived.Test.YtieoomdbijpdhaaDoorF4
import Derived.Test.YtieoomdbijpdhaaDoorBaseN
namespace Go.Proofs.YtieoomdbijpdhaaDoor
open Go.RowKit
set_option linter.unusedVariables false

def upF : Nat → Nat → Nat → List (List UInt8) → List UInt8 → List UInt8
  | 0, _, _, _, x => x
  | f + 1, n, a, A, x => if n ≤ 1 then x else if a < splitN n then hashOf (1 :: (upF f (splitN n) a A.dropLast x ++ A.getLastD [])) else hashOf (1 :: (A.getLastD [] ++ upF f (n - splitN n) (a - splitN n) A.dropLast x))
theorem upF_more : ∀ (f n a : Nat) (A : List (List UInt8)) (x : List UInt8), n ≤ f → upF (f + 1) n a A x = upF f n a A x
  | 0, n, a, A, x, h => by
    show (if n ≤ 1 then x else _) = x
    rw [if_pos (by omega)]
  | f + 1, n, a, A, x, h => by
    show (if n ≤ 1 then x else if a < splitN n then hashOf (1 :: (upF (f + 1) (splitN n) a A.dropLast x ++ A.getLastD [])) else hashOf (1 :: (A.getLastD [] ++ upF (f + 1) (n - splitN n) (a - splitN n) A.dropLast x))) = (if n ≤ 1 then x else if a < splitN n then hashOf (1 :: (upF f (splitN n) a A.dropLast x ++ A.getLastD [])) else hashOf (1 :: (A.getLastD [] ++ upF f (n - splitN n) (a - splitN n) A.dropLast x)))
    by_cases h1 : n ≤ 1
    · rw [if_pos h1, if_pos h1]
    · have h2 := splitN_lt n (by omega)
      have h3 := splitN_pos n
      rw [if_neg h1, if_neg h1, upF_more f (splitN n) a _ x (by omega), upF_more f (n - splitN n) (a - splitN n) _ x (by omega)]
/-- The top that a leaf and the digests beside its way lead to. -/
def upH (n a : Nat) (A : List (List UInt8)) (x : List UInt8) : List UInt8 := upF n n a A x
theorem upF_eq (f n a : Nat) (A : List (List UInt8)) (x : List UInt8) (h : n ≤ f) : upF f n a A x = upH n a A x := by
  obtain ⟨d, rfl⟩ : ∃ d, f = n + d := ⟨f - n, by omega⟩
  induction d with
  | zero => rfl
  | succ d ih => rw [← Nat.add_assoc, upF_more _ n a A x (by omega)]; exact ih (by omega)
theorem upH_one (a : Nat) (A : List (List UInt8)) (x : List UInt8) : upH 1 a A x = x := rfl
theorem upH_left (n a : Nat) (A : List (List UInt8)) (x : List UInt8) (h : 2 ≤ n) (ha : a < splitN n) : upH n a A x = hashOf (1 :: (upH (splitN n) a A.dropLast x ++ A.getLastD [])) := by
  obtain ⟨m, rfl⟩ : ∃ m, n = m + 1 := ⟨n - 1, by omega⟩
  have h2 := splitN_lt (m + 1) (by omega)
  show (if m + 1 ≤ 1 then x else if a < splitN (m + 1) then hashOf (1 :: (upF m (splitN (m + 1)) a A.dropLast x ++ A.getLastD [])) else _) = _
  rw [if_neg (by omega), if_pos ha, upF_eq _ _ _ _ _ (by omega)]
theorem upH_right (n a : Nat) (A : List (List UInt8)) (x : List UInt8) (h : 2 ≤ n) (ha : ¬ a < splitN n) : upH n a A x = hashOf (1 :: (A.getLastD [] ++ upH (n - splitN n) (a - splitN n) A.dropLast x)) := by
  obtain ⟨m, rfl⟩ : ∃ m, n = m + 1 := ⟨n - 1, by omega⟩
  have h2 := splitN_pos (m + 1)
  show (if m + 1 ≤ 1 then x else if a < splitN (m + 1) then _ else hashOf (1 :: (A.getLastD [] ++ upF m (m + 1 - splitN (m + 1)) (a - splitN (m + 1)) A.dropLast x))) = _
  rw [if_neg (by omega), if_neg ha, upF_eq _ _ _ _ _ (by omega)]
theorem upH_len (n a : Nat) (A : List (List UInt8)) (x : List UInt8) (hx : x.length = 32) : (upH n a A x).length = 32 := by
  by_cases h : n ≤ 1
  · match n, h with
    | 0, _ => exact hx
    | 1, _ => exact hx
  · by_cases ha : a < splitN n
    · rw [upH_left n a A x (by omega) ha]; exact hashOf_len _
    · rw [upH_right n a A x (by omega) ha]; exact hashOf_len _
/-- A list of digests, wherever it lies. -/
structure HsAt (w : World) (a : Option Addr) (cap : Nat) (l : List (List UInt8)) : Prop where
  le : l.length ≤ cap
  cap : cap ≤ maxLen
  ok : ∀ m ∈ l, m.length = 32
  cells : ∀ (j : Nat) m, l[j]? = some m → ∃ b off, a = some ⟨b, off, none⟩ ∧ w.rangeAt b (off + j * 32) (m.map bv)
theorem HsAt.turn {S : Nat → Prop} {w w' : World} {a : Option Addr} {cap : Nat} {l : List (List UInt8)} (h : HsAt w a cap l) (t : Turn S w w') (hn : ∀ x, a = some x → ¬ S x.block) : HsAt w' a cap l :=
  ⟨h.le, h.cap, h.ok, fun j m hj => by
    obtain ⟨b, off, e, c⟩ := h.cells j m hj
    exact ⟨b, off, e, fun i v hi => t.keep (c i v hi) (by have := hn _ e; exact this)⟩⟩
theorem HsAt.turn_no {w w' : World} {a : Option Addr} {cap : Nat} {l : List (List UInt8)} (h : HsAt w a cap l) (t : Turn no w w') : HsAt w' a cap l := h.turn t (fun _ _ q => q)
theorem HsAt.front {w : World} {a : Option Addr} {cap : Nat} {l r : List (List UInt8)} (h : HsAt w a cap (l ++ r)) : HsAt w a cap l :=
  ⟨by have := h.le; simp at this; omega, h.cap, fun m hm => h.ok m (by simp [hm]), fun j m hj => h.cells j m (by rw [List.getElem?_append_left (List.getElem?_eq_some_iff.1 hj).1]; exact hj)⟩
theorem HsAt.init {w : World} {a : Option Addr} {cap : Nat} {l : List (List UInt8)} (h : HsAt w a cap l) : HsAt w a cap l.dropLast := by
  cases hl : l with
  | nil => rw [hl] at h; exact h
  | cons x r =>
    have e : l = l.dropLast ++ [l.getLast (by rw [hl]; simp)] := (List.dropLast_concat_getLast _).symm
    rw [e] at h
    have := h.front
    rw [← hl]
    exact this
/-- The last one. -/
theorem HsAt.last {w : World} {a : Option Addr} {cap : Nat} {l : List (List UInt8)} (h : HsAt w a cap l) (h0 : 0 < l.length) : ∃ b off, a = some ⟨b, off, none⟩ ∧ w.rangeAt b (off + (l.length - 1) * 32) ((l.getLastD []).map bv) ∧ (l.getLastD []).length = 32 := by
  have hm : l[l.length - 1]? = some (l.getLastD []) := by
    rw [List.getLastD_eq_getLast?, List.getLast?_eq_getElem?]
    have : l.length - 1 < l.length := by omega
    rw [List.getElem?_eq_getElem this]
    rfl
  obtain ⟨b, off, e, c⟩ := h.cells _ _ hm
  exact ⟨b, off, e, c, h.ok _ (List.mem_of_getElem? hm)⟩
end Go.Proofs.YtieoomdbijpdhaaDoor

