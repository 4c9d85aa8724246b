/- Texts in one. -/
import Derived.Test.YtgbcdjjnpadddaaGreatDoorBaseN
import Derived.Test.YtgbcdjjnpadddaaGreatDoorRows
import Derived.Deep.RegionHeld3
import Derived.Test.YtgbcdjjnpadddaaGreatDoorUa
/- Around. -/
namespace Go.Proofs.YtgbcdjjnpadddaaGreatDoor
open Go.RowKit
set_option linter.unusedVariables false

def around (x : Int) (n : Nat) : Nat := (x % (n : Int)).toNat
theorem around_lt (x : Int) (n : Nat) (h : 1 ≤ n) : around x n < n := by
  have h1 := Int.emod_lt_of_pos x (show (0 : Int) < n by omega)
  have h2 := Int.emod_nonneg x (show (n : Int) ≠ 0 by omega)
  unfold around
  omega
theorem around_pos (x : Int) (n : Nat) (h : 1 ≤ n) (hx : ¬ x.tmod n < 0) : x.tmod n = (around x n : Int) := by
  have h2 := Int.emod_nonneg x (show (n : Int) ≠ 0 by omega)
  have h3 := Int.emod_lt_of_pos x (show (0 : Int) < n by omega)
  have h4 := Int.tmod_lt_of_pos x (show (0 : Int) < n by omega)
  unfold around
  rw [Int.toNat_of_nonneg h2]
  have h5 := Int.tmod_add_mul_tdiv x n
  rw [← Int.emod_eq_of_lt (Int.not_lt.1 hx) h4]
  rw [← Int.add_mul_emod_self_left (x.tmod n) n (x.tdiv n), h5]
theorem around_neg (x : Int) (n : Nat) (h : 1 ≤ n) (hx : x.tmod n < 0) : x.tmod n + n = (around x n : Int) := by
  have h2 := Int.emod_nonneg x (show (n : Int) ≠ 0 by omega)
  have h3 := Int.emod_lt_of_pos x (show (0 : Int) < n by omega)
  have h4 := Int.lt_tmod_of_pos x (show (0 : Int) < n by omega)
  unfold around
  rw [Int.toNat_of_nonneg h2]
  have h5 := Int.tmod_add_mul_tdiv x n
  rw [← Int.emod_eq_of_lt (show 0 ≤ x.tmod n + n by omega) (show x.tmod n + n < n by omega)]
  have h6 := Int.add_mul_emod_self_left (x.tmod n) n 1
  rw [Int.mul_one] at h6
  rw [h6, ← Int.add_mul_emod_self_left (x.tmod n) n (x.tdiv n), h5]

def u64V (a : UInt64) : Value := .int .u64 a.toNat
end Go.Proofs.YtgbcdjjnpadddaaGreatDoor



/- The document's registry: its cells, what only reads it. -/
namespace Go.Proofs.YtgbcdjjnpadddaaGreatDoor
open Go.RowKit Go.Maps Go.MuLone
set_option linter.unusedVariables false

def recC (r : Rec) : List Value := [.int .u64 r.1.toNat, .string ⟨r.2.toArray⟩]
theorem flat_get {α β : Type} (f : α → List β) (m : Nat) (hm : ∀ x, (f x).length = m) : ∀ (l : List α) (i j : Nat) (x : α), l[i]? = some x → j < m → (l.flatMap f)[i * m + j]? = (f x)[j]?
  | [], i, j, x, h, _ => by simp at h
  | y :: l, 0, j, x, h, hj => by
    simp at h
    subst h
    rw [List.flatMap_cons, List.getElem?_append_left (by rw [hm]; omega)]
    simp
  | y :: l, i + 1, j, x, h, hj => by
    simp at h
    have e : (i + 1) * m + j = (i * m + j) + m := by rw [Nat.add_mul]; omega
    rw [List.flatMap_cons, e, List.getElem?_append_right (by rw [hm]; omega), hm, Nat.add_sub_cancel]
    exact flat_get f m hm l i j x h hj
/-- The document's registry: the addresses E, the records R. -/
structure Rf (w : World) (q : Nat) (ve vr : Value) (E : List UInt64) (R : List Rec) : Prop where
  row : Row w q #[.bool true, ve, vr] 138
  oe : Own w 46 ve (E.map u64V)
  orr : OwnN w 186 2 vr R.length (R.flatMap recC)
def RFp (q : Nat) (ve vr : Value) (k : Nat) : Prop := k = q ∨ ve.ownBlock = some k ∨ vr.ownBlock = some k
section
variable {w w' : World} {q : Nat} {ve vr : Value} {E : List UInt64} {R : List Rec}
theorem Rf.turn {S : Nat → Prop} (h : Rf w q ve vr E R) (t : Turn S w w') (hS : ∀ k, RFp q ve vr k → ¬ S k) : Rf w' q ve vr E R :=
  ⟨h.row.turn t (hS q (.inl rfl)), h.oe.turn t (fun g hg => hS g (.inr (.inl hg))), h.orr.turn t (fun g hg => hS g (.inr (.inr hg)))⟩
theorem Rf.turn_no (h : Rf w q ve vr E R) (t : Turn no w w') : Rf w' q ve vr E R := h.turn t (fun _ _ q => q)
theorem Rf.recs_at (h : Rf w q ve vr E R) : ∃ a cap, vr = .slice a R.length cap ∧ R.length ≤ 9223372036854775807 ∧ ∀ j x, R[j]? = some x → ∃ g, a = some ⟨g, 0, none⟩ ∧ w.cell? ⟨g, j * 2, none⟩ = some (.int .u64 x.1.toNat) ∧ w.cell? ⟨g, j * 2 + 1, none⟩ = some (.string ⟨x.2.toArray⟩) := by
  obtain ⟨a, cap, e, hn, h1, h2, h3⟩ := h.orr.form
  refine ⟨a, cap, e, by simpa [maxLen] using h1, fun j x hx => ?_⟩
  rcases h.orr.2 with ⟨e', q⟩ | ⟨g, cap', cur, e', _⟩
  · have := (List.getElem?_eq_some_iff.1 hx).1
    omega
  · have hc : ∀ i u, (R.flatMap recC)[i]? = some u → w.cell? ⟨g, i, none⟩ = some u := fun i u hu => by
      have := World.ownsRow.cells h.orr (g := g) (by rw [e']; rfl) i u hu
      simpa [Addr.add_lit] using this
    have c0 := hc (j * 2 + 0) _ ((flat_get recC 2 (fun _ => rfl) R j 0 x hx (by omega)).trans rfl)
    have c1 := hc (j * 2 + 1) _ ((flat_get recC 2 (fun _ => rfl) R j 1 x hx (by omega)).trans rfl)
    rw [e] at e'
    cases e'
    exact ⟨g, rfl, by simpa using c0, c1⟩
theorem Rf.ents_at (h : Rf w q ve vr E R) : ∃ aa cp, ve = .slice aa E.length cp ∧ E.length ≤ 9223372036854775807 ∧ ∀ j u, E[j]? = some u → ∃ g, aa = some ⟨g, 0, none⟩ ∧ w.cell? ⟨g, j, none⟩ = some (u64V u) := by
  rcases h.oe.shape with ⟨e, q⟩ | ⟨g, cap, cur, e, _, h1, h2, _⟩
  · have : E = [] := List.map_eq_nil_iff.1 q
    subst this
    exact ⟨none, 0, e, by simp, fun j u hu => by simp at hu⟩
  · have h := h.oe
    rw [e] at h
    rw [List.length_map] at e h1
    refine ⟨some ⟨g, 0, none⟩, cap, e, by simp only [maxLen] at h2; omega, fun j u hu => ⟨g, rfl, h.cell j (u64V u) (by simp [hu])⟩⟩

theorem rnew19 (w : World) : Calls Tryz.prog 23 #[] w fun e w' => e = .returned (.pointer (some ⟨w.heap.size, 0, none⟩)) ∧ Rf w' w.heap.size (.slice none 0 0) (.slice none 0 0) [] [] ∧ Turn no w w' := by
  go_enter Tryz.func23, Tryz.ntmps23
  go_wp2_with fail
  go_ret
  exact ⟨rfl, ⟨Row.new w _ 138, Own.nil _ _, OwnN.nil _ _ _⟩, (Turn.refl no w).alloc _⟩
theorem good34 (h : Rf w q ve vr E R) : Calls Tryz.prog 47 #[.pointer (some ⟨q, 0, none⟩)] w fun e w' => e = .returned (.bool true) ∧ w' = w := by
  have c0 : w.cell? ⟨q, 0, none⟩ = some (.bool true) := h.row.cell 0 _ rfl
  go_enter Tryz.func47, Tryz.ntmps47
  go_wp2_with fail
  go_ret
  exact ⟨rfl, rfl⟩
set_option maxRecDepth 100000 in
set_option maxHeartbeats 2000000 in
theorem rknown24 (h : Rf w q ve vr E R) (a : UInt64) : Calls Tryz.prog 24 #[.pointer (some ⟨q, 0, none⟩), .int .u64 a.toNat] w fun e w' => e = .returned (.bool (decide (a ∈ E))) ∧ w' = w := by
  have hgd := good34 h
  obtain ⟨aa, cp, e0, hle, hcell⟩ := h.ents_at
  obtain ⟨n, hn⟩ : ∃ n, Shut (E.length = n) := ⟨_, rfl⟩
  rw [show E.length = n from hn.out] at e0 hle
  have c1 : w.cell? ⟨q, 1, none⟩ = some (.slice aa n cp) := by rw [← e0]; exact h.row.cell 1 _ rfl
  clear h e0
  go_enter Tryz.func24, Tryz.ntmps24
  go_wp2_with fail
  refine hgd.mono ?_
  rintro e w' ⟨rfl, e1⟩
  have e1 := e1.symm
  subst e1
  go_wp2_with fail
  go_loopw [5] (fun v wr => ∃ (i : Nat), i ≤ n ∧ v = .int .i64 i ∧ wr = w ∧ ∀ j, j < i → E[j]? ≠ some a) (fun v _ => n - (intOf v).toNat)
  case atStart => exact ⟨0, Nat.zero_le _, rfl, rfl, fun j hj => by omega⟩
  case round =>
    obtain ⟨i, hi, rfl, rfl, hno⟩ := hrel
    by_cases hlt : i < n
    · have hlt' : (i : Int) < (n : Int) := by omega
      obtain ⟨b, hb⟩ : ∃ b, E[i]? = some b := ⟨E[i]'(by rw [hn.out]; exact hlt), List.getElem?_eq_getElem _⟩
      obtain ⟨g, rfl, cb⟩ := hcell i b hb
      unfold u64V at cb
      by_cases hab : b = a
      · subst hab
        go_wp2_with fail
        go_ret
        have : b ∈ E := List.mem_of_getElem? hb
        exact ⟨by simp [this], rfl⟩
      · have hab' : ((b.toNat : Int) == (a.toNat : Int)) = false := by
          simp
          exact fun e => hab (UInt64.toNat_inj.1 (by omega))
        have hab2 : ¬ (b.toNat : Int) = (a.toNat : Int) := by simpa using hab'
        have hab3 : ¬ b.toNat = a.toNat := by omega
        go_wp2_with fail
        go_roundw
        case rel =>
          refine ⟨i + 1, by omega, by go_num, trivial, fun j hj e => ?_⟩
          by_cases hji : j = i
          · subst hji
            rw [hb] at e
            exact hab (Option.some.inj e)
          · exact hno j (by omega) e
        case measure => simp [intOf]; omega
    · have hin : i = n := by omega
      subst hin
      have hlt' : ¬ (i : Int) < (i : Int) := by omega
      go_wp2_with fail
      go_ret
      have : a ∉ E := fun hm => by
        obtain ⟨j, hj⟩ := List.getElem?_of_mem hm
        exact hno j (by have := (List.getElem?_eq_some_iff.1 hj).1; rw [hn.out] at this; exact this) hj
      exact ⟨by simp [this], rfl⟩
/-- A signer of the document's. -/
def Rsg (w : World) (s q : Nat) (a : UInt64) : Prop := Row w s #[.pointer (some ⟨q, 0, none⟩), .int .u64 a.toNat] 144
theorem raddr30 (w : World) (s q : Nat) (a : UInt64) (h : Rsg w s q a) : Calls Tryz.prog 53 #[.pointer (some ⟨s, 0, none⟩)] w fun e w' => e = .returned (.int .u64 a.toNat) ∧ w' = w := by
  have c1 : w.cell? ⟨s, 1, none⟩ = some (.int .u64 a.toNat) := Row.cell h 1 _ rfl
  go_enter Tryz.func53, Tryz.ntmps53
  go_wp2_with fail
  go_ret
  exact ⟨rfl, rfl⟩
end
end Go.Proofs.YtgbcdjjnpadddaaGreatDoor


