/- Walks: a Reader, its Var. -/
import Derived.Test.YtgimecdmleofeaaDoorW2
namespace Go.Proofs.YtgimecdmleofeaaDoor
open Go.RowKit

section
variable {w : World} {p : Nat} {v : Value} {bs : List UInt8} {i : Nat} {e : Int}
end

/-- How many bytes a Var has, from number k on; and the error. -/
def vsize : Nat → List UInt8 → Nat × Int
  | _, [] => (0, 10)
  | k, c :: r => if k = 9 ∧ 1 < c.toNat then (0, 11) else if 0 < k ∧ c.toNat = 0 then (0, 11) else if c.toNat < 128 then (k + 1, 0) else vsize (k + 1) r

theorem vsize_at {bs : List UInt8} {k : Nat} (hk : k < bs.length) {r : Nat × Int} (h : vsize k (bs.drop k) = r) :
    r = if k = 9 ∧ 1 < bs[k].toNat then (0, 11) else if 0 < k ∧ bs[k].toNat = 0 then (0, 11) else if bs[k].toNat < 128 then (k + 1, 0) else vsize (k + 1) (bs.drop (k + 1)) := by
  rw [← h, List.drop_eq_getElem_cons hk]
  rfl

theorem vsize_end {bs : List UInt8} {k : Nat} (hk : ¬ k < bs.length) {r : Nat × Int} (h : vsize k (bs.drop k) = r) : r = (0, 10) := by
  rw [← h, List.drop_eq_nil_of_le (by omega)]
  rfl

theorem nz_of {c : Nat} (h : ((c : Int) == 0) = false) : c ≠ 0 := by intro q; subst q; simp at h
theorem z_of {c : Nat} (h : ((c : Int) == 0) = true) : c = 0 := by simpa using h

theorem add_add (a : Addr) (l j : Nat) (h : 0 < l ∨ a.spot = none) : (a.add l).add j = a.add (l + j) := by
  obtain ⟨b, o, s⟩ := a
  unfold Addr.add
  by_cases hl : l = 0
  · subst hl; simp
  · by_cases hj : j = 0
    · subst hj; simp [hl]
    · simp [hl, hj, Nat.add_assoc]

theorem add_block (a : Addr) (l : Nat) : (a.add l).block = a.block := by unfold Addr.add; split <;> rfl

/-- A piece of a slice of bytes: the value, and what it holds. -/
theorem piece {w : World} {a : Addr} {c : Nat} {bs : List UInt8} (h1 : bs.length ≤ c) (h2 : c ≤ maxLen) (h3 : ∀ j u, bs[j]? = some u → w.cell? (a.add j) = some (bv u)) (l h : Nat) (hl : l ≤ h) (hh : h ≤ bs.length) :
    Bs w (.slice (if c = l then some a else some (a.add l)) (h - l) (c - l)) ((bs.take h).drop l) := by
  have hlen : ((bs.take h).drop l).length = h - l := by simp; omega
  by_cases hc : c = l
  · rw [if_pos hc]
    refine Or.inr ⟨a, c - l, by rw [hlen], by omega, by omega, fun j u hu => ?_⟩
    have : j < ((bs.take h).drop l).length := (List.getElem?_eq_some_iff.1 hu).1
    omega
  · rw [if_neg hc]
    refine Or.inr ⟨a.add l, c - l, by rw [hlen], by omega, by omega, fun j u hu => ?_⟩
    have hj : j < ((bs.take h).drop l).length := (List.getElem?_eq_some_iff.1 hu).1
    rw [List.getElem?_drop, List.getElem?_take, if_pos (by omega)] at hu
    have := h3 (l + j) u hu
    by_cases hl0 : l = 0
    · subst hl0
      simpa [Addr.add] using this
    · rw [add_add a l j (Or.inl (by omega))]
      exact this

theorem slice_from {w : World} {v : Value} {bs : List UInt8} (hb : Bs w v bs) (l : Nat) (hl : l ≤ bs.length) :
    ∃ v2, (∀ w', (Instr.slice 70 v (some (.int .i64 l)) none none).run Tryd.prog w' = .ok v2 w') ∧ Bs w v2 (bs.drop l) ∧ (∀ g, v2.ownBlock = some g → v.ownBlock = some g) := by
  rcases hb with ⟨rfl, rfl⟩ | ⟨a, c, rfl, h1, h2, h3⟩
  · simp at hl
    subst hl
    refine ⟨.slice none 0 0, fun w' => ?_, Or.inl ⟨rfl, rfl⟩, fun g q => q⟩
    simp [go_sem, Tryd.underlying70]
  · refine ⟨.slice (if c = l then some a else some (a.add l)) (bs.length - l) (c - l), fun w' => ?_, ?_, fun g q => ?_⟩
    · simp [go_sem, Tryd.underlying70, hl]
    · have := piece h1 h2 h3 l bs.length hl (Nat.le_refl _)
      rwa [List.take_length] at this
    · split at q
      · exact q
      · simp only [Value.ownBlock, add_block] at q
        exact q

theorem slice_between {w : World} {v : Value} {bs : List UInt8} (hb : Bs w v bs) (l h : Nat) (hl : l ≤ h) (hh : h ≤ bs.length) :
    ∃ v2, (∀ w', (Instr.slice 70 v (some (.int .i64 l)) (some (.int .i64 h)) none).run Tryd.prog w' = .ok v2 w') ∧ Bs w v2 ((bs.take h).drop l) ∧ (∀ g, v2.ownBlock = some g → v.ownBlock = some g) := by
  rcases hb with ⟨rfl, rfl⟩ | ⟨a, c, rfl, h1, h2, h3⟩
  · simp at hh
    subst hh
    simp at hl
    subst hl
    refine ⟨.slice none 0 0, fun w' => ?_, Or.inl ⟨rfl, rfl⟩, fun g q => q⟩
    simp [go_sem, Tryd.underlying70]
  · refine ⟨.slice (if c = l then some a else some (a.add l)) (h - l) (c - l), fun w' => ?_, piece h1 h2 h3 l h hl hh, fun g q => ?_⟩
    · have : (h : Int) ≤ (c : Int) := by omega
      simp [go_sem, Tryd.underlying70, hl, this]
    · split at q
      · exact q
      · simp only [Value.ownBlock, add_block] at q
        exact q

/-- The number in the first k bytes of a Var. -/
def vsum (l : List UInt8) : Nat → Nat
  | 0 => 0
  | k + 1 => vsum l k + (l.getD k 0).toNat % 128 * 128 ^ k

theorem Turn.set1 (w : World) (p j : Nat) (u : Value) : Turn (fun k => k = p) w (w.setCell ⟨p, j, none⟩ u) := (Turn.refl (fun k => k = p) w).setCell (p := ⟨p, j, none⟩) (fun _ => rfl) u

theorem or_step (V c k : Nat) (hV : V < 128 ^ k) (hVb : V < 18446744073709551616) (hc : c < 256) (hfit : V + c % 128 * 128 ^ k < 18446744073709551616) :
    bits .or .u64 (V : Int) (IntKind.u64.wrap (IntKind.u64.wrap (bits .and .u8 (c : Int) 127) * 2 ^ (7 * k))) = ((V + c % 128 * 128 ^ k : Nat) : Int) := by
  have h1 : bits .and .u8 (c : Int) 127 = (c : Int) % 128 := bits_mask .u8 8 (by decide) wraps_u8 7 (by decide) c (by omega) (by omega)
  have e2 : (2 : Int) ^ (7 * k) = ((128 ^ k : Nat) : Int) := by
    rw [Int.pow_mul]
    simp
  have e3 : (c : Int) % 128 = ((c % 128 : Nat) : Int) := by simp
  rw [h1, e3, IntKind.wrap_u64, IntKind.wrap_u64, e2]
  have e4 : ((c % 128 : Nat) : Int) % 18446744073709551616 = ((c % 128 : Nat) : Int) := by omega
  rw [e4, ← Int.natCast_mul]
  have e5 : ((c % 128 * 128 ^ k : Nat) : Int) % 18446744073709551616 = ((c % 128 * 128 ^ k : Nat) : Int) := by omega
  rw [e5, bits_or_u64_nat _ _ hVb (by omega)]
  have e6 : V ||| c % 128 * 128 ^ k = V + c % 128 * 128 ^ k := by
    have e7 : (128 : Nat) ^ k = 2 ^ (7 * k) := by rw [Nat.pow_mul]
    rw [e7] at hV ⊢
    rw [Nat.or_comm, Nat.mul_comm, ← Nat.two_pow_add_eq_or_of_lt hV, Nat.add_comm]
  rw [e6]

theorem getD_drop (bs : List UInt8) (i k : Nat) : (bs.drop i).getD k 0 = bs[i + k]?.getD 0 := by
  simp [List.getD_eq_getElem?_getD, List.getElem?_drop]

theorem vsum_succ (bs : List UInt8) (i k : Nat) : vsum (bs.drop i) (k + 1) = vsum (bs.drop i) k + (bs[i + k]?.getD 0).toNat % 128 * 128 ^ k := by
  rw [vsum, getD_drop]

end Go.Proofs.YtgimecdmleofeaaDoor


