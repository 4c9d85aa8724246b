/- A sort of accounts by byBond, of whatever length. -/
import Derived.Test.YtbhimedajfkioaaSh
import Derived.Test.YtbhimedajfkioaaLD1
import Derived.Shelf.SlSortCmp.WholeK
import Derived.Ground.SlsfProg
namespace Go.Proofs.Ytbhimedajfkioaa
open Go.RowKit Go.Shelf Go.Lib Go.Sort
set_option linter.unusedVariables false

set_option maxRecDepth 100000 in
theorem len51_0 (w : World) : Calls Try.prog 85 #[.int .u64 0] w fun e w' => e = .returned (.int .i64 0) ∧ w' = w := by
  go_enter Try.func85, Try.ntmps85
  go_wp2_with fail
  go_ret
  exact ⟨by kernel_rfl, rfl⟩
set_option maxRecDepth 100000 in
theorem len35_0 (w : World) : Calls Try.prog 48 #[.int .u64 0] w fun e w' => e = .returned (.int .i64 0) ∧ w' = w := by
  go_enter Try.func48, Try.ntmps48
  go_wp2_with fail
  refine (len51_0 w).mono ?_
  rintro e w' ⟨rfl, rfl⟩
  go_wp2_with fail
  go_ret
  exact ⟨rfl, rfl⟩
set_option maxRecDepth 100000 in
theorem ins42_0 (w : World) (v f : Value) : Calls Try.prog 104 #[v, .int .i64 0, .int .i64 0, f] w fun e w' => e = .returned (.tuple #[]) ∧ w' = w := by
  go_enter Try.func104, Try.ntmps104
  go_wp2_with fail
  go_loopw [8] (fun x wr => x = .int .i64 1 ∧ wr = w) (fun _ _ => 0)
  case atStart => exact ⟨rfl, rfl⟩
  case round =>
    obtain ⟨rfl, rfl⟩ := hrel
    go_wp2_with fail
    exact ⟨rfl, _, results_none rfl _ _ _, rfl, rfl⟩
set_option maxRecDepth 100000 in
theorem pdq34_0 (w : World) (v f : Value) : Calls Try.prog 88 #[v, .int .i64 0, .int .i64 0, .int .i64 0, f] w fun e w' => e = .returned (.tuple #[]) ∧ w' = w := by
  go_enter Try.func88, Try.ntmps88
  go_wp2_with fail
  go_loopw [1, 2, 3, 10, 11] (fun a b l x y wr => a = .int .i64 0 ∧ b = .int .i64 0 ∧ l = .int .i64 0 ∧ x = .bool true ∧ y = .bool true ∧ wr = w) (fun _ _ _ _ _ _ => 0)
  case atStart => exact ⟨rfl, rfl, rfl, rfl, rfl, rfl⟩
  case round =>
    obtain ⟨rfl, rfl, rfl, rfl, rfl, rfl⟩ := hrel
    go_wp2_with fail
    refine (ins42_0 _ _ _).mono ?_
    rintro e w' ⟨rfl, rfl⟩
    go_wp2_with fail
    exact ⟨rfl, _, results_none rfl _ _ _, rfl, rfl⟩
set_option maxRecDepth 100000 in
theorem sort25_0 (w : World) (a : Option Addr) (cap : Nat) (f : Value) : Calls Try.prog 61 #[.slice a 0 cap, f] w fun e w' => e = .returned (.tuple #[]) ∧ w' = w := by
  go_enter Try.func61, Try.ntmps61
  go_wp2_with fail
  refine (len35_0 w).mono ?_
  rintro e w' ⟨rfl, rfl⟩
  go_wp2_with fail
  refine (pdq34_0 _ _ _).mono ?_
  rintro e w' ⟨rfl, rfl⟩
  go_wp2_with fail
  exact ⟨rfl, _, results_none rfl _ _ _, rfl, rfl⟩


def acZ : Ac := ⟨0, 0, 0, 0, false⟩
def bondL (x y : Ac) : Bool := decide (y.bond < x.bond ∨ (x.bond = y.bond ∧ x.ad < y.ad))
theorem ltBond (x y : Ac) : ltOf bondC x y = bondL x y := by
  unfold ltOf bondL bondC orN cN
  rcases Nat.lt_trichotomy y.bond x.bond with h | h | h
  · have : ¬ x.bond < y.bond := by omega
    simp [h]
  · have h1 : ¬ y.bond < x.bond := by omega
    have h2 : ¬ x.bond < y.bond := by omega
    rw [if_neg h1, if_neg h2]
    rcases Nat.lt_trichotomy x.ad y.ad with k | k | k
    · simp [k, h]
    · have k1 : ¬ x.ad < y.ad := by omega
      have k2 : ¬ y.ad < x.ad := by omega
      simp [k1, k2, h1]
    · have k1 : ¬ x.ad < y.ad := by omega
      simp [k, k1, h1]
  · have h1 : ¬ y.bond < x.bond := by omega
    have h2 : ¬ x.bond = y.bond := by omega
    simp [h, h1, h2]
theorem swoBond : SWO (ltOf bondC) where
  irrefl x := by rw [ltBond]; simp [bondL]
  trans x y z h1 h2 := by rw [ltBond] at *; simp only [bondL, decide_eq_true_eq] at *; omega
  ntrans x y z h1 h2 := by rw [ltBond] at *; simp only [bondL, decide_eq_false_iff_not] at *; omega

section
variable [Inhabited Ac]
theorem cmpLays26 (blk off size : Nat) (w : World) : CmpLays Try.prog 62 #[] ac5 5 bondC blk off size w :=
  fun _ _ _ _ x y => bond26 _ x y
theorem lgetD_toArray (l : List Ac) (i : Nat) (m : Ac) (h : l[i]? = some m) : l.toArray[i]! = m := by
  simp [getElem!_def, h]
theorem holdsAc {w : World} {g cap : Nat} {cur : Array Value} {l : List Ac} (hl : (acC l).length = l.length * 5) (hg : w.heap[g]? = some (.cells cur 58 (0, 0))) (ht : cur.toList.take (l.length * 5) = acC l) : HoldsK ac5 5 w g 0 l.toArray := by
  intro j hj
  rw [size_flatK] at hj
  have hj' : j < l.length * 5 := by simpa using hj
  rw [get_flatK _ _ _ _ hj]
  have hm : l[j / 5]? = some (l[j / 5]'(by omega)) := List.getElem?_eq_getElem (by omega)
  rw [lgetD_toArray l _ _ hm]
  have hx := acC_at l (j / 5) _ hm (j % 5) (by omega)
  rw [show j / 5 * 5 + j % 5 = j by omega, ← ht, List.getElem?_take_of_lt hj'] at hx
  have h5 : j % 5 < 5 := by omega
  have hv : cur[j]? = some ((ac5 (l[j / 5]'(by omega)))[j % 5]!) := by
    rw [← Array.getElem?_toList, hx]
    have : j % 5 < (ac5 (l[j / 5]'(by omega))).length := by simpa [ac5] using h5
    have e : ∀ (q : List Value) (i : Nat), i < q.length → q[i]? = some (q[i]!) := fun q i h => by rw [List.getElem?_eq_getElem h]; simp [h]
    exact e _ _ this
  rw [Nat.zero_add]
  exact ⟨(cell_of_row _ _ j _ 58 (0, 0) hg).trans hv, frozen_of_row _ _ j _ 58 hg⟩
theorem lturn_sort {w : World} {g n : Nat} {d : Array Ac} {os : Array Obj} : Turn (fun k => k = g) w (sortWorldK ac5 5 w g 0 n d os) := by
  refine ⟨rfl, rfl, rfl, ?_, fun k hk hs => ?_⟩
  · simp [sortWorldK, grow, putRowK, putRow, mapBlock]
  · have hk' : ¬ g = k := fun e => hs e.symm
    show (w.heap.modify g (onCells (putCells id 0 (flatK ac5 5 d))) ++ os)[k]? = w.heap[k]?
    rw [Array.getElem?_append_left (by simpa using hk), Array.getElem?_modify, if_neg hk']
/-- Accounts sorted by byBond. -/
def BySort (l : List Ac) : Prop := ∀ (i j : Nat) (x y : Ac), i < j → l[i]? = some x → l[j]? = some y → bondL y x = false
set_option maxRecDepth 100000 in
theorem sort25I (w : World) (v : Value) (l : List Ac) (O : OwnN w 58 5 v l.length (acC l)) (hok : ∀ m ∈ l, m.ok) (hbig : l.length ≤ 140737488355328) : Calls Try.prog 61 #[v, .func (.func 62) #[] #[]] w fun e w' =>
    e = .returned (.tuple #[]) ∧ ∃ l', l'.Perm l ∧ BySort l' ∧ As w' v l' ∧ Turn (fun k => v.ownBlock = some k) w w' := by
  rcases O.2 with ⟨rfl, h0⟩ | ⟨g, cap, cur, rfl, _, hg, h1, h2, h3, h4⟩
  · refine (sort25_0 w none 0 _).mono ?_
    rintro e w' ⟨rfl, rfl⟩
    have : l = [] := List.length_eq_zero_iff.1 h0
    subst this
    exact ⟨rfl, [], List.Perm.refl _, (fun i j x y _ hx _ => by simp at hx), O.as hok, Turn.refl _ _⟩
  · have hH : HoldsK ac5 5 w g 0 l.toArray := holdsAc (cap := cap) O.1 hg h4
    have hblk : g < w.heap.size := (Array.getElem?_eq_some_iff.1 hg).1
    have eg : ∀ args w, (callFunc 62 args).run Try.prog w = .ok (.enter 62 args) w := enters_of Try.func62 (by kernel_rfl) rfl
    have hcon := AnyQ.slices_SortFunc sortAc 5 Try.isAgg58 Try.sizeOf58 ac5 (fun _ => rfl) (fun x v hv => by simp [ac5] at hv; rcases hv with rfl | rfl | rfl | rfl | rfl <;> rfl) bondC swoBond 62 #[] g 0 cap l.toArray w eg (cmpLays26 g 0 _ w) hH hblk (by simp; omega)
    have hcon : Calls Try.prog 61 #[.slice (some ⟨g, 0, none⟩) l.length cap, .func (.func 62) #[] #[]] w _ := hcon
    refine hcon.mono ?_
    rintro e w' ⟨rfl, d', n, os, hp, hs, rfl⟩
    have hsz : d'.size = l.length := by have := hp.1; simpa using this
    have hperm : d'.toList.Perm l := by
      have := hp.2.2
      simp only [List.size_toArray] at this
      rw [Array.extract_eq_self_of_le (by omega), Array.extract_eq_self_of_le (by simp)] at this
      exact this
    refine ⟨rfl, d'.toList, hperm, ?_, ⟨some ⟨g, 0, none⟩, cap, by simp [hsz], ?_, h2, fun m hm => hok m (hperm.mem_iff.1 hm), fun j m hj => ?_⟩, lturn_sort.mono (fun k _ e => by rw [e]; rfl)⟩
    · intro i j x y hij hx hy
      have hj : j < d'.size := by have := (List.getElem?_eq_some_iff.1 hy).1; simpa using this
      have := hs i j (Nat.zero_le _) hij (by simpa [hsz] using hj)
      rw [ltBond] at this
      have ex : d'[i]! = x := by simp at hx; simp [getElem!_def, hx]
      have ey : d'[j]! = y := by simp at hy; simp [getElem!_def, hy]
      rwa [ex, ey] at this
    · simp [hsz]; omega
    · have hjd : j < d'.size := by have := (List.getElem?_eq_some_iff.1 hj).1; simpa using this
      have em : d'[j]! = m := by simp at hj; simp [getElem!_def, hj]
      have hh := holdsK_sortWorldK_c ac5 5 w g 0 l.toArray d' n os hH hblk (by simp [hsz])
      have c := fun (c : Nat) (hc : c < 5) => (hh.cell hjd hc).1
      rw [em] at c
      exact ⟨g, 0, rfl, c 0 (by omega), c 1 (by omega), c 2 (by omega), c 3 (by omega), c 4 (by omega)⟩
end
theorem sort25 (w : World) (v : Value) (l : List Ac) (O : OwnN w 58 5 v l.length (acC l)) (hok : ∀ m ∈ l, m.ok) (hbig : l.length ≤ 140737488355328) : Calls Try.prog 61 #[v, .func (.func 62) #[] #[]] w fun e w' =>
    e = .returned (.tuple #[]) ∧ ∃ l', l'.Perm l ∧ BySort l' ∧ As w' v l' ∧ Turn (fun k => v.ownBlock = some k) w w' :=
  @sort25I ⟨acZ⟩ w v l O hok hbig
end Go.Proofs.Ytbhimedajfkioaa
