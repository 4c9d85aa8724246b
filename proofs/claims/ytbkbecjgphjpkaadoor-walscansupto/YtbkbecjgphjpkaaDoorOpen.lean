/- What the rows' arguments and the listed variable give the walks. -/
import Derived.Test.YtbkbecjgphjpkaaDoorTornW
import Derived.Test.YtbkbecjgphjpkaaDoorCards
import Derived.Test.YtbkbecjgphjpkaaDoorTie
import Derived.ProofKit
import Derived.LaidMore
import Derived.OpenShut
import Derived.Stop.Joined
import Derived.ChangeOld
import Derived.SizedLaws
import Derived.Lib.SmallJoins
import Derived.Deep.Slices
import Derived.Deep.Strs
import Derived.Deep.DeepHandedRow
import Derived.JoinedCond
namespace Go.Proofs.YtbkbecjgphjpkaaDoor
open Go.ChangeShapes Go.WideShapes Go.ChangeAt Go.RowKit Go.Joins Go.Deep
set_option linter.unusedVariables false

theorem own : ownKnob Tryd.prog.godebug = none := by kernel_rfl
theorem g0 : Tryd.prog.globalNamed "assent/wal.fourBits" = some 0 := by kernel_rfl
theorem tg0 : (Tryd.prog.globals[0]?).map (·.type) = some 83 := by kernel_rfl
theorem c66 : Tryd.prog.cellsOf 66 = 1 := by kernel_rfl
theorem laidOut : laidOutB Tryd.prog = true := by kernel_rfl
theorem cells5' : Tryd.prog.cellsOf 5 = 1 := by kernel_rfl
theorem cells22' : Tryd.prog.cellsOf 22 = 1 := by kernel_rfl

def laidA : List (String × DataW Unit) := [("assent/wal.fourBits", Rows.laid_assent_wal_fourBits)]
theorem fourBits_tab : (Rows.laid_assent_wal_fourBits : DataW Unit) = .agg (tab.map fun k => .lit (.int .u32 (k : Nat))) := by kernel_rfl
theorem doorA (os : Os) (args : Array Value) : laidMetH Tryd.prog laidA ((World.doorLaid Tryd.prog 4000 os).forCall (fun _ _ => 0) ⟨#[], args, []⟩).memory :=
  laidMetH_of_parts3 (fuel := 8) (laidMet_of_run' 8 (by kernel_rfl) (by kernel_rfl)) (by kernel_rfl) (by kernel_rfl)
theorem table {W : World} {fuel : Nat} {cs : Array Value} {p : List MemPlace} (hd : DataW.trod (fun _ => ()) Tryd.prog W 0 (fun _ => true) false fuel 83 cs.toList = some ((.agg (tab.map fun k => .lit (.int .u32 (k : Nat))) : DataW Unit), p)) (j : Nat) (hj : j < 16) : cs[j]? = some (.int .u32 ((tabN j : Nat) : Int)) := by
  obtain ⟨xs, m1, h1, hx1, hlen, hn, hel⟩ := DataW.trod_array Tryd.underlying83 hd
  have h0 := hel j hj
  simp only [Prod.mk.injEq, DataW.agg.injEq] at hx1
  obtain ⟨x, hxj⟩ : ∃ x, xs[j]? = some x := ⟨xs[j]'(by omega), List.getElem?_eq_getElem (by omega)⟩
  rw [hxj, c66, Nat.mul_one] at h0
  obtain ⟨k, e1, e2, _⟩ := DataW.trod_int Tryd.underlying66 h0
  have h3 : (xs.map (·.1))[j]? = some x.1 := by simp [hxj]
  rw [← hx1.1, List.getElem?_map, e2] at h3
  have hk : ((tabN j : Nat) : Int) = k := by
    unfold tabN
    rw [List.getD_eq_getElem?_getD]
    cases hq : tab[j]? with
    | none => rw [hq] at h3; cases h3
    | some y => rw [hq] at h3; simp at h3; simpa using h3
  rw [hk]
  have := congrArg (·[0]?) e1
  simpa [List.getElem?_take, List.getElem?_drop] using this
theorem of_laidA {W : World} (h : laidMetH Tryd.prog laidA W) : LaidT W := by
  rw [MakeChecks.laidMetH_plain _ _ _ (by kernel_rfl)] at h
  obtain ⟨ps, ⟨g, t, cs, f, p, q, hg, ht, hv, hd, _⟩, _⟩ := h
  obtain rfl := Option.some.inj (g0.symm.trans hg)
  obtain rfl := Option.some.inj (tg0.symm.trans ht)
  rw [fourBits_tab] at hd
  intro j hj
  rw [World.var?_cell hg hv j]
  exact table hd j hj

theorem bulk_one {H : Type} (d : DataW H) : 1 ≤ Rows.uptoBulk d := by
  cases d with
  | lit l => cases l <;> simp [Rows.uptoBulk]
  | nil => simp [Rows.uptoBulk]
  | ptr d => simp [Rows.uptoBulk]
  | slice elems spare => simp [Rows.uptoBulk]
  | agg parts => simp [Rows.uptoBulk]
  | iface t d => simp [Rows.uptoBulk]
  | map entries => simp [Rows.uptoBulk]
  | held h => simp [Rows.uptoBulk]
theorem bulk_length {H : Type} (l : List (DataW H)) : l.length ≤ Rows.uptoBulkAll l := by
  induction l with
  | nil => simp [Rows.uptoBulkAll]
  | cons x r ih => have := bulk_one x; simp only [Rows.uptoBulkAll, List.length_cons]; omega

section
variable {H : Type} {enc : TypeId × Value → H} {w : World} {base : Nat} {spare : Nat → Bool} {held : Bool}
theorem add3 (a : Addr) (l j : Nat) : (a.add l).add j = a.add (l + j) := by
  obtain ⟨b, o, s⟩ := a
  unfold Addr.add
  by_cases hl : l = 0
  · subst hl; simp
  · by_cases hj : j = 0
    · subst hj; simp [hl]
    · simp [hl, hj, Nat.add_assoc]

theorem u8_wf {n : Int} (h : (Lit.int .u8 n).wf = true) : 0 ≤ n ∧ n < 256 := by
  have := bounds_u8 h
  omega
theorem open_bytes {n : Nat} {v : Value} {y : DataW H × List MemPlace} (h : DataW.trod enc Tryd.prog w base spare held n 22 [v] = some y) :
    ∃ bs, Bs w v bs ∧ ((y.1 = .nil ∧ bs = []) ∨ ∃ es sp, y.1 = .slice es sp ∧ es.length = bs.length) := by
  rcases open_ints Tryd.underlying22 Tryd.underlying5 cells5' h with ⟨hcs, hx⟩ | ⟨a, len, cap, zs, hcs, _, hl, hm, hz, hx, hcell, hwz⟩
  · simp at hcs
    exact ⟨[], Or.inl ⟨hcs, rfl⟩, Or.inl ⟨by rw [hx], rfl⟩⟩
  · simp at hcs
    have hlen : len ≤ zs.length := by rw [hz]; split <;> omega
    have hbl : ((zs.take len).map fun z => UInt8.ofNat z.toNat).length = len := by simp; omega
    refine ⟨(zs.take len).map fun z => UInt8.ofNat z.toNat, Or.inr ⟨a, cap, by rw [hcs, hbl], by rw [hbl]; exact hl, hm, fun j u hu => ?_⟩, Or.inr ⟨_, _, by rw [hx], by rw [hbl]; simp [lits]; omega⟩⟩
    have hj : j < len := by
      have := (List.getElem?_eq_some_iff.1 hu).1
      omega
    rw [hcell j (by omega)]
    rw [List.getElem?_map, List.getElem?_take, if_pos hj, List.getElem?_eq_getElem (by omega)] at hu
    simp only [Option.map_some, Option.some.injEq] at hu
    rw [← hu]
    have hw := u8_wf (hwz zs[j] (List.getElem_mem _))
    have e1 : zs.getD j 0 = zs[j] := by simp [show j < zs.length by omega]
    rw [e1]
    unfold bv
    congr 2
    simp
    omega

theorem bytes_bulk {y : DataW H × List MemPlace} {bs : List UInt8} (hw : (y.1 = .nil ∧ bs = []) ∨ ∃ es sp, y.1 = .slice es sp ∧ es.length = bs.length) : bs.length ≤ Rows.uptoBulk y.1 := by
  rcases hw with ⟨e, rfl⟩ | ⟨es, sp, e, hl⟩
  · simp
  · rw [e]
    have := bulk_length es
    simp only [Rows.uptoBulk]
    omega
theorem one_cell {a : Addr} {cs : List Value} (h : w.cells? base a 1 = some cs) : ∃ x, cs = [x] ∧ w.cell? (a.add 0) = some x := by
  obtain ⟨_, hl, hc⟩ := World.cells?_some h
  match cs, hl with
  | [x], _ => exact ⟨x, rfl, hc 0 (by omega)⟩
theorem choose_lt' {α : Type} [Inhabited α] {n : Nat} {p : Nat → α → Prop} (h : ∀ i, i < n → ∃ x, p i x) : ∃ f : Nat → α, ∀ i, i < n → p i (f i) :=
  ⟨fun i => if hi : i < n then Classical.choose (h i hi) else default, fun i hi => by
    simp only [hi, dif_pos]
    exact Classical.choose_spec (h i hi)⟩
theorem cat_bulk (f : Nat → It) (D : Nat → DataW H) : ∀ l : List Nat, (∀ i ∈ l, (f i).2.length ≤ Rows.uptoBulk (D i)) → (cat ((l.map f).map (·.2))).length ≤ 14 * Rows.uptoBulkAll (l.map D)
  | [], _ => by simp [cat]
  | i :: l, h => by
    have h1 := h i (by simp)
    have h2 := cat_bulk f D l (fun j hj => h j (by simp [hj]))
    have h3 := bulk_one (D i)
    simp only [List.map_cons, Rows.uptoBulkAll, cat, List.flatMap_cons, List.length_append, frameB_len] at h2 ⊢
    omega
theorem open_bl {n : Nat} {v : Value} {y : DataW H × List MemPlace} (h : DataW.trod enc Tryd.prog w base spare held n 32 [v] = some y) : ∃ ts, Bl w v ts ∧ (cat (ts.map (·.2))).length ≤ 14 * Rows.uptoBulk y.1 := by
  rcases open_slice Tryd.underlying32 h with ⟨hcs, _⟩ | ⟨a, len, cap, m, n', D, Pl, hcs, _, hl, hm, hmm, hx, hel⟩
  · simp at hcs
    exact ⟨[], ⟨none, 0, by rw [hcs]; rfl, by simp, by simp, fun j t ht => by simp at ht⟩, by simp [cat]⟩
  · simp at hcs
    have hlm : len ≤ m := by rw [hmm]; split <;> omega
    have hex : ∀ i, i < len → ∃ x : It, (w.cell? (a.add i) = some x.1 ∧ Bs w x.1 x.2) ∧ x.2.length ≤ Rows.uptoBulk (D i) := by
      intro i hi
      obtain ⟨cs', h1, h2⟩ := hel i (by omega)
      rw [cells22'] at h1
      obtain ⟨x, rfl, c0⟩ := one_cell h1
      obtain ⟨bs, hb, hw⟩ := open_bytes h2
      rw [add3, Nat.mul_one, Nat.add_zero] at c0
      exact ⟨(x, bs), ⟨c0, hb⟩, bytes_bulk hw⟩
    have inst : Inhabited It := ⟨(.slice none 0 0, [])⟩
    obtain ⟨f, hf⟩ := choose_lt' hex
    have h1 := cat_bulk f D (List.range len) (fun i hi => (hf i (by simpa using hi)).2)
    refine ⟨(List.range len).map f, ⟨some a, cap, by rw [hcs]; simp, by simpa using hl, by simp only [maxLen] at hm; omega, fun j t ht => ?_⟩, ?_⟩
    · rw [List.getElem?_map] at ht
      by_cases hj : j < len
      · rw [List.getElem?_range hj] at ht
        simp at ht
        rw [← ht]
        obtain ⟨⟨q1, q2⟩, _⟩ := hf j hj
        obtain ⟨b, o, sp⟩ := a
        have hs : sp = none := by
          have := World.cell?_spot (hf 0 (by omega)).1.1
          simpa [Addr.add] using this
        subst hs
        rw [Addr.add_lit] at q1
        exact ⟨b, o, rfl, q1, q2⟩
      · rw [List.getElem?_eq_none (by simpa using hj)] at ht
        cases ht
    · rw [hx]
      simp only [Rows.uptoBulk]
      exact Nat.le_trans h1 (by omega)
end
end Go.Proofs.YtbkbecjgphjpkaaDoor
