/- DiskBack, plain: what a crash leaves is mounted, and is left again. -/
import Derived.Test.YtcdogciacchigabS2
import Derived.Test.YtcdogciacchigabI1
namespace Go.Proofs.Ytcdogciacchigab
open Go.RowKit Go.Maps
set_option linter.unusedVariables false

theorem left_short (bs : List UInt8) (sy : Nat) (k : Int) (junk : UInt8) : (leftB bs sy k junk).length ≤ bs.length := by
  unfold leftB
  split
  · rw [List.length_take]; omega
  · rw [List.length_set, List.length_take]; omega
theorem left_all (bs : List UInt8) (k : Int) (junk : UInt8) : leftB bs bs.length k junk = bs := by
  have h : keepN bs.length bs.length k = 0 := by
    unfold keepN
    first | omega | (split <;> omega) | simp
  unfold leftB
  rw [if_pos h, List.take_length]
theorem putF_last : ∀ (l : List Pf) (f : Pf), (∀ g ∈ l, g.nm < f.nm) → putF f l = l ++ [f]
  | [], f, _ => rfl
  | g :: r, f, h => by
    have h1 := h g (List.mem_cons_self ..)
    unfold putF
    rw [if_pos h1, putF_last r f (fun x hx => h x (List.mem_cons_of_mem _ hx)), List.cons_append]
/-- The files of an image, as a disk holds them. -/
def fxP (f : Fx) : Pf := ⟨f.nm, f.bs, f.bs.length⟩
theorem mF_sorted (l : List Fx) (h : (l.map Fx.nm).Pairwise (· < ·)) : ∀ n, mF (l.take n) = (l.take n).map fxP
  | 0 => rfl
  | n + 1 => by
    cases hf : l[n]? with
    | none => rw [List.take_add_one, hf, Option.toList_none, List.append_nil]; exact mF_sorted l h n
    | some f =>
      rw [List.take_add_one, hf, Option.toList_some, mF_snoc, mF_sorted l h n, List.map_append, List.map_cons, List.map_nil]
      refine putF_last _ _ (fun g hg => ?_)
      obtain ⟨x, hx, rfl⟩ := List.mem_map.1 hg
      obtain ⟨j, hj⟩ := List.getElem?_of_mem hx
      have hjn : j < n := by
        have := (List.getElem?_eq_some_iff.1 hj).1
        rw [List.length_take] at this
        omega
      rw [List.getElem?_take, if_pos hjn] at hj
      obtain ⟨b1, e1⟩ := List.getElem?_eq_some_iff.1 hj
      obtain ⟨b2, e2⟩ := List.getElem?_eq_some_iff.1 hf
      have := List.pairwise_iff_getElem.1 h j n (by simpa using b1) (by simpa using b2) hjn
      rw [List.getElem_map, List.getElem_map, e1, e2] at this
      exact this
theorem sum_le : ∀ (a b : List Nat), a.length = b.length → (∀ (i : Nat) (x y : Nat), a[i]? = some x → b[i]? = some y → x ≤ y) → a.sum ≤ b.sum
  | [], [], _, _ => Nat.le_refl _
  | x :: a, y :: b, hl, h => by
    have h1 := h 0 x y rfl rfl
    have h2 := sum_le a b (by simpa using hl) (fun i u v hu hv => h (i + 1) u v (by simpa using hu) (by simpa using hv))
    simp only [List.sum_cons]
    omega
theorem sum_take (a : List Nat) (n : Nat) : (a.take n).sum ≤ a.sum := by
  conv => rhs; rw [← List.take_append_drop n a, List.sum_append]
  omega
section
variable {s : St} {keep : List Int} {junk : UInt8} {l : List Fx}
theorem crash_names (hl : l.map (fun f => (f.nm, f.bs)) = crashL s.fs keep junk) : l.map Fx.nm = s.fs.map Pf.nm := by
  have e : l.map Fx.nm = (l.map (fun f => (f.nm, f.bs))).map Prod.fst := by rw [List.map_map]; rfl
  rw [e, hl]
  unfold crashL
  apply List.ext_getElem?
  intro j
  rw [List.getElem?_map, List.getElem?_mapIdx, List.getElem?_map, Option.map_map]
  rfl
theorem crash_used (hl : l.map (fun f => (f.nm, f.bs)) = crashL s.fs keep junk) : (l.map (fun f => f.bs.length)).sum ≤ usedF s.fs := by
  have e : l.map (fun f => f.bs.length) = (crashL s.fs keep junk).map (fun x => x.2.length) := by rw [← hl, List.map_map]; rfl
  rw [e]
  unfold usedF
  refine sum_le _ _ (by rw [List.length_map, crashL_len, List.length_map]) (fun i x y hx hy => ?_)
  rw [List.getElem?_map, Option.map_eq_some_iff] at hx hy
  obtain ⟨u, hu, rfl⟩ := hx
  obtain ⟨f, hf, rfl⟩ := hy
  rw [crashL_at _ _ _ i f hf] at hu
  cases hu
  exact left_short ..
theorem crash_back (hI : Inv s) (hl : l.map (fun f => (f.nm, f.bs)) = crashL s.fs keep junk) :
    mOk 1073741824 l = true ∧ (mSt 1073741824 l).fs = (crashL s.fs keep junk).map (fun x => ⟨x.1, x.2, x.2.length⟩) := by
  have hn := crash_names hl
  have hs : (l.map Fx.nm).Pairwise (· < ·) := by rw [hn, List.pairwise_map]; exact hI.sorted
  have hlen : l.length = s.fs.length := by simpa using congrArg List.length hn
  have hu := crash_used hl
  have hused := hI.used
  have hlim := hI.lim
  have hcnt := hI.count
  constructor
  · unfold mOk
    rw [Bool.and_eq_true, Bool.and_eq_true]
    refine ⟨⟨?_, by decide⟩, ?_⟩
    · unfold ordB
      rw [List.all_eq_true]
      intro k hk
      have hk' : k < (l.map Fx.nm).length := by simpa using hk
      unfold okAt
      rw [Bool.and_eq_true]
      constructor
      · rw [List.getD_eq_getElem?_getD, List.getElem?_eq_getElem hk', Option.getD_some]
        have hm : (l.map Fx.nm)[k] ∈ s.fs.map Pf.nm := by rw [← hn]; exact List.getElem_mem _
        obtain ⟨f, hf, e⟩ := List.mem_map.1 hm
        rw [← e]
        exact hI.names f hf
      · by_cases h0 : k = 0
        · simp [h0]
        · have := List.pairwise_iff_getElem.1 hs (k - 1) k (by omega) hk' (by omega)
          rw [List.getD_eq_getElem?_getD, List.getElem?_eq_getElem hk', Option.getD_some, List.getD_eq_getElem?_getD, List.getElem?_eq_getElem (show k - 1 < (l.map Fx.nm).length by omega), Option.getD_some]
          have h9 : ¬ (l.map Fx.nm)[k] ≤ (l.map Fx.nm)[k - 1] := fun z => z this
          rw [decide_eq_false h9]
          simp
    · rw [List.all_eq_true]
      intro j hj
      have hj' : j < l.length := by simpa using hj
      have hf : l[j]? = some l[j] := List.getElem?_eq_getElem hj'
      unfold fitAt
      rw [hf]
      simp only
      have e : (mSt (1073741824 : Int).toNat (l.take j)).fs = (l.take j).map fxP := mF_sorted l hs j
      unfold fitsB
      rw [e]
      have hsum : usedF ((l.take j).map fxP) + l[j].bs.length ≤ 1073741824 := by
        have h1 : usedF ((l.take j).map fxP) + l[j].bs.length = ((l.map (fun f => f.bs.length)).take (j + 1)).sum := by
          rw [← List.map_take, List.take_add_one, hf, Option.toList_some, List.map_append, List.sum_append]
          unfold usedF
          rw [List.map_map]
          simp [fxP, Function.comp_def]
        have h2 := sum_take (l.map (fun f => f.bs.length)) (j + 1)
        omega
      have hl2 : ((l.take j).map fxP).length < 65536 := by
        rw [List.length_map, List.length_take]
        omega
      rw [Bool.and_eq_true, Bool.or_eq_true]
      refine ⟨decide_eq_true ?_, Or.inr (decide_eq_true hl2)⟩
      show (l[j].bs.length : Int) ≤ ((1073741824 : Nat) : Int) - _
      omega
  · have e := mF_sorted l hs l.length
    rw [List.take_length] at e
    show mF l = _
    rw [e, ← hl, List.map_map]
    rfl
theorem crash_again (fl : List Fi) (o : List Int) (j : UInt8) : crashL (fl.map (fun x => ⟨x.1, x.2, x.2.length⟩)) o j = fl := by
  unfold crashL
  apply List.ext_getElem?
  intro i
  rw [List.getElem?_mapIdx, List.getElem?_map]
  cases fl[i]? with
  | none => rfl
  | some x => simp [left_all]
end
end Go.Proofs.Ytcdogciacchigab
