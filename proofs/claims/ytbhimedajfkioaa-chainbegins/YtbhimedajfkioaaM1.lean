/- The order of marks by their time, and a sort by it. -/
import Derived.Test.YtbhimedajfkioaaSh
import Derived.Test.YtbhimedajfkioaaM0
import Derived.Shelf.SlSortCmp.WholeK
import Derived.Ground.SlsfProg
namespace Go.Proofs.Ytbhimedajfkioaa
open Go.RowKit Go.Shelf Go.Lib Go.Sort
set_option linter.unusedVariables false

/-- Draws on, blocks behind, nothing else. -/
def Gw (w W : World) : Prop := ∃ (q : Nat) (os : Array Obj), W = Go.Sort.grow (w.drewN q) os
theorem Gw.refl (w : World) : Gw w w := ⟨0, #[], by simp [Go.Sort.grow, World.drewN]⟩
theorem Gw.alloc {w W : World} (h : Gw w W) (o : Obj) : Gw w (W.alloc o) := by
  obtain ⟨q, os, rfl⟩ := h
  exact ⟨q, os.push o, by simp [Go.Sort.grow, World.drewN, World.alloc]⟩
theorem Gw.drew {w W : World} (h : Gw w W) : Gw w W.drew := by
  obtain ⟨q, os, rfl⟩ := h
  exact ⟨q + 1, os, by simp [Go.Sort.grow, World.drewN, World.drew, Nat.add_assoc]⟩
theorem Gw.turn {w W : World} (h : Gw w W) : Turn no w W := by
  obtain ⟨q, os, rfl⟩ := h
  exact ⟨rfl, rfl, rfl, by simp [Go.Sort.grow, World.drewN], fun k hk _ => by simp [Go.Sort.grow, World.drewN, Array.getElem?_append, hk]⟩
def cN (a b : Nat) : Int := if a < b then -1 else if b < a then 1 else 0
set_option maxRecDepth 100000 in
theorem nan49 (w : World) (a : Nat) : Calls Try.prog 49 #[.int .u64 a] w fun e w' => e = .returned (.bool false) ∧ w' = w := by
  have h : ((a : Int) != (a : Int)) = false := by simp
  go_enter Try.func49, Try.ntmps49
  go_wp2_with fail
  go_ret
  exact ⟨rfl, rfl⟩
set_option maxRecDepth 100000 in
theorem cmp22 (w : World) (a b : Nat) : Calls Try.prog 22 #[.int .u64 a, .int .u64 b] w fun e w' => e = .returned (.int .i64 (cN a b)) ∧ w' = w := by
  rcases Nat.lt_trichotomy a b with h | h | h
  · have e : cN a b = -1 := if_pos h
    have HE := shut e
    have h1 : (a : Int) < (b : Int) := by omega
    clear e h
    go_enter Try.func22, Try.ntmps22
    go_wp2_with (go_at_call 49; refine (nan49 _ _).mono ?_; rintro e w' ⟨rfl, rfl⟩)
    go_ret
    exact ⟨by rw [HE.out]; rfl, rfl⟩
  · subst h
    have e : cN a a = 0 := by simp [cN]
    have HE := shut e
    have h1 : ¬ (a : Int) < (a : Int) := by omega
    clear e
    go_enter Try.func22, Try.ntmps22
    go_wp2_with (go_at_call 49; refine (nan49 _ _).mono ?_; rintro e w' ⟨rfl, rfl⟩)
    go_ret
    exact ⟨by rw [HE.out]; rfl, rfl⟩
  · have e : cN a b = 1 := by unfold cN; rw [if_neg (by omega), if_pos h]
    have HE := shut e
    have h1 : ¬ (a : Int) < (b : Int) := by omega
    have h2 : (b : Int) < (a : Int) := by omega
    clear e h
    go_enter Try.func22, Try.ntmps22
    go_wp2_with (go_at_call 49; refine (nan49 _ _).mono ?_; rintro e w' ⟨rfl, rfl⟩)
    go_ret
    exact ⟨by rw [HE.out]; rfl, rfl⟩

def tmC (x y : Mk) : Int := cN x.tm y.tm
set_option maxRecDepth 100000 in
set_option maxHeartbeats 2000000 in
theorem med21 (w : World) (x y : Mk) : Calls Try.prog 21 #[.agg (mkA x), .agg (mkA y)] w fun e w' => e = .returned (.int .i64 (tmC x y)) ∧ Gw w w' := by
  obtain ⟨w1, hw1⟩ : ∃ w1, w.alloc (.cells (mkA x) 50) = w1 := ⟨_, rfl⟩
  have s1 : w1.heap.size = w.heap.size + 1 := by rw [← hw1]; simp
  obtain ⟨w2, hw2⟩ : ∃ w2, w1.alloc (.cells (mkA y) 50) = w2 := ⟨_, rfl⟩
  have G2 : Gw w w2 := by rw [← hw2, ← hw1]; exact ((Gw.refl w).alloc _).alloc _
  have R1 : w2.heap[w.heap.size]? = some (.cells (mkA x) 50 (0, 0)) := by
    have t : Turn no w1 w2 := by rw [← hw2]; exact (Turn.refl no w1).alloc _
    exact t.obj (by rw [← hw1]; exact heap_alloc_new w _) (fun q => q)
  have R2 : w2.heap[w.heap.size + 1]? = some (.cells (mkA y) 50 (0, 0)) := by
    rw [← s1, ← hw2]
    exact heap_alloc_new w1 _
  have c1 : w2.cell? ⟨w.heap.size, 1, none⟩ = some (.int .u64 x.tm) := cell_of_row _ _ 1 _ 50 (0, 0) R1
  have c2 : w2.cell? ⟨w.heap.size + 1, 1, none⟩ = some (.int .u64 y.tm) := cell_of_row _ _ 1 _ 50 (0, 0) R2
  have hc := cmp22 w2 x.tm y.tm
  have HG := shut G2
  have HB : Shut (tmC x y = cN x.tm y.tm) := rfl
  generalize cN x.tm y.tm = A at *
  have i50 : (Try.prog.info? 50).map (·.size) = some (mkA x).size := by kernel_rfl
  have i51 : (Try.prog.info? 50).map (·.size) = some (mkA y).size := by kernel_rfl
  clear R1 R2 G2
  generalize mkA x = X at *
  generalize mkA y = Y at *
  go_enter Try.func21, Try.ntmps21
  go_wp2_with fail
  try rw [s1]
  refine hc.mono ?_
  rintro e w' ⟨rfl, rfl⟩
  go_wp2_with fail
  go_ret
  exact ⟨by rw [HB.out]; rfl, HG.out⟩
def tmL (x y : Mk) : Bool := decide (x.tm < y.tm)
theorem ltTm (x y : Mk) : ltOf tmC x y = tmL x y := by
  unfold ltOf tmL tmC cN
  rcases Nat.lt_trichotomy x.tm y.tm with h | h | h
  · simp [h]
  · have h1 : ¬ x.tm < y.tm := by omega
    have h2 : ¬ y.tm < x.tm := by omega
    simp [h1, h2]
  · have h1 : ¬ x.tm < y.tm := by omega
    simp [h, h1]
theorem swoTm : SWO (ltOf tmC) where
  irrefl x := by rw [ltTm]; simp [tmL]
  trans x y z h1 h2 := by rw [ltTm] at *; simp only [tmL, decide_eq_true_eq] at *; omega
  ntrans x y z h1 h2 := by rw [ltTm] at *; simp only [tmL, decide_eq_false_iff_not] at *; omega
section
variable [Inhabited Mk]
theorem cmpLays21 (blk off size : Nat) (w : World) : CmpLays Try.prog 21 #[] mkL 18 tmC blk off size w :=
  fun _ _ _ _ x y => med21 _ x y
theorem getD_toArray (l : List Mk) (i : Nat) (m : Mk) (h : l[i]? = some m) : l.toArray[i]! = m := by
  simp [getElem!_def, h]
theorem holdsMk {w : World} {g : Nat} {cur : Array Value} {l : List Mk} (hg : w.heap[g]? = some (.cells cur 50 (0, 0))) (ht : cur.toList.take (l.length * 18) = mkF l) : HoldsK mkL 18 w g 0 l.toArray := by
  intro j hj
  rw [size_flatK] at hj
  have hj' : j < l.length * 18 := by simpa using hj
  rw [get_flatK _ _ _ _ hj]
  have hm : l[j / 18]? = some (l[j / 18]'(by omega)) := List.getElem?_eq_getElem (by omega)
  rw [getD_toArray l _ _ hm]
  have hx := mkF_at l (j / 18) _ hm (j % 18) (by omega)
  rw [show j / 18 * 18 + j % 18 = j by omega, ← ht, List.getElem?_take_of_lt hj'] at hx
  have h5 : j % 18 < 18 := by omega
  have hv : cur[j]? = some ((mkL (l[j / 18]'(by omega)))[j % 18]!) := by
    rw [← Array.getElem?_toList, hx]
    have : j % 18 < (mkL (l[j / 18]'(by omega))).length := by rw [mkL_len]; exact h5
    have e : ∀ (q : List Value) (i : Nat), i < q.length → q[i]? = some (q[i]!) := fun q i h => by rw [List.getElem?_eq_getElem h]; simp [h]
    exact e _ _ this
  rw [Nat.zero_add]
  exact ⟨(cell_of_row _ _ j _ 50 (0, 0) hg).trans hv, frozen_of_row _ _ j _ 50 hg⟩
theorem turn_sort {w : World} {g n : Nat} {d : Array Mk} {os : Array Obj} : Turn (fun k => k = g) w (sortWorldK mkL 18 w g 0 n d os) := by
  refine ⟨rfl, rfl, rfl, ?_, fun k hk hs => ?_⟩
  · simp [sortWorldK, grow, putRowK, putRow, mapBlock]
  · have hk' : ¬ g = k := fun e => hs e.symm
    show (w.heap.modify g (onCells (putCells id 0 (flatK mkL 18 d))) ++ os)[k]? = w.heap[k]?
    rw [Array.getElem?_append_left (by simpa using hk), Array.getElem?_modify, if_neg hk']
/-- Marks sorted by their time. -/
def ByTm (l : List Mk) : Prop := ∀ (i j : Nat) (x y : Mk), i < j → l[i]? = some x → l[j]? = some y → x.tm ≤ y.tm
set_option maxRecDepth 100000 in
theorem sort20I (w : World) (v : Value) (l : List Mk) (h0 : l ≠ []) (O : OwnN w 50 18 v l.length (mkF l)) (hok : ∀ m ∈ l, m.ok) (hbig : l.length ≤ 140737488355328) : Calls Try.prog 20 #[v, .func (.func 21) #[] #[]] w fun e w' =>
    e = .returned (.tuple #[]) ∧ ∃ l', l'.Perm l ∧ ByTm l' ∧ Ks w' v l' ∧ Turn (fun k => v.ownBlock = some k) w w' := by
  rcases O.2 with ⟨rfl, q0⟩ | ⟨g, cap, cur, rfl, _, hg, h1, h2, h3, h4⟩
  · exact absurd (List.length_eq_zero_iff.1 q0) h0
  · have hH : HoldsK mkL 18 w g 0 l.toArray := holdsMk hg h4
    have hblk : g < w.heap.size := (Array.getElem?_eq_some_iff.1 hg).1
    have eg : ∀ args w, (callFunc 21 args).run Try.prog w = .ok (.enter 21 args) w := enters_of Try.func21 (by kernel_rfl) rfl
    have hcon := AnyQ.slices_SortFunc sortMk 18 Try.isAgg50 Try.sizeOf50 mkL (fun _ => rfl) mkL_one tmC swoTm 21 #[] g 0 cap l.toArray w eg (cmpLays21 g 0 _ w) hH hblk (by simp; omega)
    have hcon : Calls Try.prog 20 #[.slice (some ⟨g, 0, none⟩) l.length cap, .func (.func 21) #[] #[]] w _ := hcon
    refine hcon.mono ?_
    rintro e w' ⟨rfl, d', n, os, hp, hs, rfl⟩
    have hsz : d'.size = l.length := by have := hp.1; simpa using this
    have hperm : d'.toList.Perm l := by
      have := hp.2.2
      simp only [List.size_toArray] at this
      rw [Array.extract_eq_self_of_le (by omega), Array.extract_eq_self_of_le (by simp)] at this
      exact this
    refine ⟨rfl, d'.toList, hperm, ?_, ⟨some ⟨g, 0, none⟩, cap, by simp [hsz], ?_, h2, fun m hm => hok m (hperm.mem_iff.1 hm), fun j m hj => ?_⟩, turn_sort.mono (fun k _ e => by rw [e]; rfl)⟩
    · intro i j x y hij hx hy
      have hj : j < d'.size := by have := (List.getElem?_eq_some_iff.1 hy).1; simpa using this
      have := hs i j (Nat.zero_le _) hij (by simpa [hsz] using hj)
      rw [ltTm] at this
      have ex : d'[i]! = x := by simp at hx; simp [getElem!_def, hx]
      have ey : d'[j]! = y := by simp at hy; simp [getElem!_def, hy]
      rw [ex, ey] at this
      simpa [tmL] using this
    · simp [hsz]; omega
    · have hjd : j < d'.size := by have := (List.getElem?_eq_some_iff.1 hj).1; simpa using this
      have em : d'[j]! = m := by simp at hj; simp [getElem!_def, hj]
      have hh := holdsK_sortWorldK_c mkL 18 w g 0 l.toArray d' n os hH hblk (by simp [hsz])
      have c := fun (c : Nat) (hc : c < 18) => (hh.cell hjd hc).1
      rw [em] at c
      refine ⟨g, 0, rfl, fun i v hi => ?_⟩
      have hi18 : i < 18 := by have := (List.getElem?_eq_some_iff.1 hi).1; rwa [mkL_len] at this
      have := c i hi18
      rw [this]
      rw [List.getElem?_eq_getElem (by rw [mkL_len]; exact hi18)] at hi
      have hi' := Option.some.inj hi
      rw [← hi']
      simp [getElem!_def, List.getElem?_eq_getElem (show i < (mkL m).length by rw [mkL_len]; exact hi18)]
end
theorem sort20 (w : World) (v : Value) (l : List Mk) (h0 : l ≠ []) (O : OwnN w 50 18 v l.length (mkF l)) (hok : ∀ m ∈ l, m.ok) (hbig : l.length ≤ 140737488355328) : Calls Try.prog 20 #[v, .func (.func 21) #[] #[]] w fun e w' =>
    e = .returned (.tuple #[]) ∧ ∃ l', l'.Perm l ∧ ByTm l' ∧ Ks w' v l' ∧ Turn (fun k => v.ownBlock = some k) w w' :=
  @sort20I ⟨mk0⟩ w v l h0 O hok hbig
end Go.Proofs.Ytbhimedajfkioaa
