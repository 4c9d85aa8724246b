/- B0, B1 in one. -/
import Derived.Test.YtcdogciacchigabS2
import Derived.Test.YtcdogciacchigabI1
import Derived.Test.YtcdogciacchigabL1
-- DiskBack, plain: what a crash leaves is mounted, and is left again.
namespace Go.Proofs.Ytcdogciacchigab
open Go.RowKit Go.Maps
set_option linter.unusedVariables false

theorem left_short (bs : List UInt8) (sy : Nat) (k : Int) (junk : UInt8) : (leftB bs sy k junk).length ≤ bs.length := by
  unfold leftB
  split
  · rw [List.length_take]; omega
  · rw [List.length_set, List.length_take]; omega
theorem left_all (bs : List UInt8) (k : Int) (junk : UInt8) : leftB bs bs.length k junk = bs := by
  have h : keepN bs.length bs.length k = 0 := by
    unfold keepN
    first | omega | (split <;> omega) | simp
  unfold leftB
  rw [if_pos h, List.take_length]
theorem putF_last : ∀ (l : List Pf) (f : Pf), (∀ g ∈ l, g.nm < f.nm) → putF f l = l ++ [f]
  | [], f, _ => rfl
  | g :: r, f, h => by
    have h1 := h g (List.mem_cons_self ..)
    unfold putF
    rw [if_pos h1, putF_last r f (fun x hx => h x (List.mem_cons_of_mem _ hx)), List.cons_append]
/-- The files of an image, as a disk holds them. -/
def fxP (f : Fx) : Pf := ⟨f.nm, f.bs, f.bs.length⟩
theorem mF_sorted (l : List Fx) (h : (l.map Fx.nm).Pairwise (· < ·)) : ∀ n, mF (l.take n) = (l.take n).map fxP
  | 0 => rfl
  | n + 1 => by
    cases hf : l[n]? with
    | none => rw [List.take_add_one, hf, Option.toList_none, List.append_nil]; exact mF_sorted l h n
    | some f =>
      rw [List.take_add_one, hf, Option.toList_some, mF_snoc, mF_sorted l h n, List.map_append, List.map_cons, List.map_nil]
      refine putF_last _ _ (fun g hg => ?_)
      obtain ⟨x, hx, rfl⟩ := List.mem_map.1 hg
      obtain ⟨j, hj⟩ := List.getElem?_of_mem hx
      have hjn : j < n := by
        have := (List.getElem?_eq_some_iff.1 hj).1
        rw [List.length_take] at this
        omega
      rw [List.getElem?_take, if_pos hjn] at hj
      obtain ⟨b1, e1⟩ := List.getElem?_eq_some_iff.1 hj
      obtain ⟨b2, e2⟩ := List.getElem?_eq_some_iff.1 hf
      have := List.pairwise_iff_getElem.1 h j n (by simpa using b1) (by simpa using b2) hjn
      rw [List.getElem_map, List.getElem_map, e1, e2] at this
      exact this
theorem sum_le : ∀ (a b : List Nat), a.length = b.length → (∀ (i : Nat) (x y : Nat), a[i]? = some x → b[i]? = some y → x ≤ y) → a.sum ≤ b.sum
  | [], [], _, _ => Nat.le_refl _
  | x :: a, y :: b, hl, h => by
    have h1 := h 0 x y rfl rfl
    have h2 := sum_le a b (by simpa using hl) (fun i u v hu hv => h (i + 1) u v (by simpa using hu) (by simpa using hv))
    simp only [List.sum_cons]
    omega
theorem sum_take (a : List Nat) (n : Nat) : (a.take n).sum ≤ a.sum := by
  conv => rhs; rw [← List.take_append_drop n a, List.sum_append]
  omega
section
variable {s : St} {keep : List Int} {junk : UInt8} {l : List Fx}
theorem crash_names (hl : l.map (fun f => (f.nm, f.bs)) = crashL s.fs keep junk) : l.map Fx.nm = s.fs.map Pf.nm := by
  have e : l.map Fx.nm = (l.map (fun f => (f.nm, f.bs))).map Prod.fst := by rw [List.map_map]; rfl
  rw [e, hl]
  unfold crashL
  apply List.ext_getElem?
  intro j
  rw [List.getElem?_map, List.getElem?_mapIdx, List.getElem?_map, Option.map_map]
  rfl
theorem crash_used (hl : l.map (fun f => (f.nm, f.bs)) = crashL s.fs keep junk) : (l.map (fun f => f.bs.length)).sum ≤ usedF s.fs := by
  have e : l.map (fun f => f.bs.length) = (crashL s.fs keep junk).map (fun x => x.2.length) := by rw [← hl, List.map_map]; rfl
  rw [e]
  unfold usedF
  refine sum_le _ _ (by rw [List.length_map, crashL_len, List.length_map]) (fun i x y hx hy => ?_)
  rw [List.getElem?_map, Option.map_eq_some_iff] at hx hy
  obtain ⟨u, hu, rfl⟩ := hx
  obtain ⟨f, hf, rfl⟩ := hy
  rw [crashL_at _ _ _ i f hf] at hu
  cases hu
  exact left_short ..
theorem crash_back (hI : Inv s) (hl : l.map (fun f => (f.nm, f.bs)) = crashL s.fs keep junk) :
    mOk 1073741824 l = true ∧ (mSt 1073741824 l).fs = (crashL s.fs keep junk).map (fun x => ⟨x.1, x.2, x.2.length⟩) := by
  have hn := crash_names hl
  have hs : (l.map Fx.nm).Pairwise (· < ·) := by rw [hn, List.pairwise_map]; exact hI.sorted
  have hlen : l.length = s.fs.length := by simpa using congrArg List.length hn
  have hu := crash_used hl
  have hused := hI.used
  have hlim := hI.lim
  have hcnt := hI.count
  constructor
  · unfold mOk
    rw [Bool.and_eq_true, Bool.and_eq_true]
    refine ⟨⟨?_, by decide⟩, ?_⟩
    · unfold ordB
      rw [List.all_eq_true]
      intro k hk
      have hk' : k < (l.map Fx.nm).length := by simpa using hk
      unfold okAt
      rw [Bool.and_eq_true]
      constructor
      · rw [List.getD_eq_getElem?_getD, List.getElem?_eq_getElem hk', Option.getD_some]
        have hm : (l.map Fx.nm)[k] ∈ s.fs.map Pf.nm := by rw [← hn]; exact List.getElem_mem _
        obtain ⟨f, hf, e⟩ := List.mem_map.1 hm
        rw [← e]
        exact hI.names f hf
      · by_cases h0 : k = 0
        · simp [h0]
        · have := List.pairwise_iff_getElem.1 hs (k - 1) k (by omega) hk' (by omega)
          rw [List.getD_eq_getElem?_getD, List.getElem?_eq_getElem hk', Option.getD_some, List.getD_eq_getElem?_getD, List.getElem?_eq_getElem (show k - 1 < (l.map Fx.nm).length by omega), Option.getD_some]
          have h9 : ¬ (l.map Fx.nm)[k] ≤ (l.map Fx.nm)[k - 1] := fun z => z this
          rw [decide_eq_false h9]
          simp
    · rw [List.all_eq_true]
      intro j hj
      have hj' : j < l.length := by simpa using hj
      have hf : l[j]? = some l[j] := List.getElem?_eq_getElem hj'
      unfold fitAt
      rw [hf]
      simp only
      have e : (mSt (1073741824 : Int).toNat (l.take j)).fs = (l.take j).map fxP := mF_sorted l hs j
      unfold fitsB
      rw [e]
      have hsum : usedF ((l.take j).map fxP) + l[j].bs.length ≤ 1073741824 := by
        have h1 : usedF ((l.take j).map fxP) + l[j].bs.length = ((l.map (fun f => f.bs.length)).take (j + 1)).sum := by
          rw [← List.map_take, List.take_add_one, hf, Option.toList_some, List.map_append, List.sum_append]
          unfold usedF
          rw [List.map_map]
          simp [fxP, Function.comp_def]
        have h2 := sum_take (l.map (fun f => f.bs.length)) (j + 1)
        omega
      have hl2 : ((l.take j).map fxP).length < 65536 := by
        rw [List.length_map, List.length_take]
        omega
      rw [Bool.and_eq_true, Bool.or_eq_true]
      refine ⟨decide_eq_true ?_, Or.inr (decide_eq_true hl2)⟩
      show (l[j].bs.length : Int) ≤ ((1073741824 : Nat) : Int) - _
      omega
  · have e := mF_sorted l hs l.length
    rw [List.take_length] at e
    show mF l = _
    rw [e, ← hl, List.map_map]
    rfl
theorem crash_again (fl : List Fi) (o : List Int) (j : UInt8) : crashL (fl.map (fun x => ⟨x.1, x.2, x.2.length⟩)) o j = fl := by
  unfold crashL
  apply List.ext_getElem?
  intro i
  rw [List.getElem?_mapIdx, List.getElem?_map]
  cases fl[i]? with
  | none => rfl
  | some x => simp [left_all]
end
end Go.Proofs.Ytcdogciacchigab

-- Images: sameImage.
namespace Go.Proofs.Ytcdogciacchigab
open Go.RowKit Go.Maps
set_option linter.unusedVariables false

theorem Im.form {B : Nat} {w : World} {v : Value} {fl : List Fi} (h : Im B w v fl) : ∃ a c, v = .slice a fl.length c ∧ fl.length ≤ c ∧ c ≤ maxLen := by
  obtain ⟨vs, h1, h2, h3, h4⟩ := h
  obtain ⟨a, cap, e, _, q1, q2, q3⟩ := h2.form
  exact ⟨a, cap, e, by omega, q3⟩
theorem Im.at27 {B : Nat} {w : World} {v : Value} {l : List Fi} (h : Im B w v l) (i : Nat) (f : Fi) (hf : l[i]? = some f) : ∃ g c a n c', v = .slice (some ⟨g, 0, none⟩) l.length c ∧ w.cell? ⟨g, i * 2, none⟩ = some (strV f.1) ∧ w.cell? ⟨g, i * 2 + 1, none⟩ = some (.slice a n c') ∧ Own w 5 (.slice a n c') (f.2.map bv) := by
  obtain ⟨vs, h1, h2, h3, h4⟩ := h
  have hil := (List.getElem?_eq_some_iff.1 hf).1
  obtain ⟨u, hu⟩ : ∃ u, vs[i]? = some u := ⟨vs[i]'(by omega), List.getElem?_eq_getElem _⟩
  obtain ⟨hO, _⟩ := h4 i f u hf hu
  obtain ⟨a, n, c', rfl⟩ := hO.slice
  obtain ⟨e0, e1⟩ := imC_at l vs h1 i f _ hf hu
  rcases h2.2 with ⟨_, q⟩ | ⟨g, cap, cur, rfl, _⟩
  · omega
  · have hc : ∀ j x, (imC l vs)[j]? = some x → w.cell? ⟨g, j, none⟩ = some x := fun j x hx => by
      have := World.ownsRow.cells h2 (g := g) rfl j x hx
      simpa [Addr.add_lit] using this
    exact ⟨g, cap, a, n, c', rfl, hc _ _ e0, hc _ _ e1, hO⟩
theorem Im.late {B : Nat} {S : Nat → Prop} {w w' : World} {v : Value} {l : List Fi} (h : Im B w v l) (t : Turn S w w') (hS : ∀ k, S k → w.heap.size ≤ k) : Im B w' v l :=
  h.turn_no (t.mono (fun i hi z => by have := hS i z; omega))
/-- As Mount takes it. -/
def fxs (fl : List Fi) (vs : List Value) : List Fx := (fl.zip vs).map (fun x => ⟨x.1.1, x.2, x.1.2⟩)
theorem fxs_at {fl : List Fi} {vs : List Value} {j : Nat} {f : Fx} (h : (fxs fl vs)[j]? = some f) : fl[j]? = some (f.nm, f.bs) ∧ vs[j]? = some f.vb := by
  unfold fxs at h
  rw [List.getElem?_map, Option.map_eq_some_iff] at h
  obtain ⟨⟨⟨a, b⟩, u⟩, h1, rfl⟩ := h
  rw [List.getElem?_zip_eq_some] at h1
  exact h1
theorem Im.fs {B : Nat} {w : World} {v : Value} {fl : List Fi} (h : Im B w v fl) (hn : ∀ f ∈ fl, f.1.length ≤ maxLen) :
    ∃ a cap l, v = .slice a l.length cap ∧ l.map (fun f => (f.nm, f.bs)) = fl ∧ Fs w.heap.size w a cap l := by
  obtain ⟨vs, h1, h2, h3, h4⟩ := h
  obtain ⟨a, cap, rfl, _, q1, q2, q3⟩ := h2.form
  have hl : (fxs fl vs).length = fl.length := by simp [fxs, h1]
  refine ⟨a, cap, fxs fl vs, by rw [hl], ?_, ⟨by omega, q3, fun f hf => ?_, fun j f hj => ?_⟩⟩
  · unfold fxs
    rw [List.map_map]
    have : ((fun f : Fx => (f.nm, f.bs)) ∘ fun x : Fi × Value => (⟨x.1.1, x.2, x.1.2⟩ : Fx)) = Prod.fst := by funext x; rfl
    rw [this, List.map_fst_zip (by omega)]
  · obtain ⟨j, hj⟩ := List.getElem?_of_mem hf
    obtain ⟨e1, e2⟩ := fxs_at hj
    have o := (h4 j _ _ e1 e2).1
    exact ⟨hn _ (List.mem_of_getElem? e1), o.bs, fun _ g hg => o.lt hg⟩
  · obtain ⟨e1, e2⟩ := fxs_at hj
    obtain ⟨i1, i2⟩ := imC_at fl vs h1 j _ _ e1 e2
    have hjl : j < fl.length := by
      rw [List.getElem?_eq_some_iff] at e1
      exact e1.1
    rcases h2.2 with ⟨e, z⟩ | ⟨g, cap', cur, e, _⟩
    · omega
    · cases e
      have hc : ∀ j x, (imC fl vs)[j]? = some x → w.cell? ⟨g, j, none⟩ = some x := fun j x hx => by
        have := World.ownsRow.cells h2 (g := g) rfl j x hx
        simpa [Addr.add_lit] using this
      refine ⟨g, 0, rfl, h2.lt rfl, ?_, ?_⟩
      · rw [Nat.zero_add]; exact hc _ _ i1
      · rw [Nat.zero_add]; exact hc _ _ i2
set_option maxRecDepth 100000 in
set_option maxHeartbeats 8000000 in
theorem sameImage27 {B B' : Nat} {w : World} {v v' : Value} {l : List Fi} (h1 : Im B w v l) (h2 : Im B' w v' l) : Calls Try.prog 17 #[.agg #[v], .agg #[v']] w fun e w' => e = .returned (.bool true) ∧ Turn no w w' := by
  obtain ⟨a1, c1, rfl, k1, m1⟩ := h1.form
  obtain ⟨a2, c2, rfl, k2, m2⟩ := h2.form
  have hcount : l.length ≤ 9223372036854775807 := by simp only [maxLen] at m1; omega
  obtain ⟨w2, hw2⟩ : ∃ w2, w2 = (w.alloc (.cells #[.slice a1 l.length c1] 24)).alloc (.cells #[.slice a2 l.length c2] 24) := ⟨_, rfl⟩
  have t12 : Turn no w w2 := by rw [hw2]; exact ((Turn.refl no w).alloc _).alloc _
  have R1 : Row w2 w.heap.size #[.slice a1 l.length c1] 24 := by rw [hw2]; exact (Row.new w _ 24).alloc _
  have R2 : Row w2 (w.heap.size + 1) #[.slice a2 l.length c2] 24 := by rw [hw2]; exact Row.newAt _ _ _ _ (by simp)
  have d1 : ∀ W, Turn no w2 W → W.cell? ⟨w.heap.size, 0, none⟩ = some (.slice a1 l.length c1) ∧ W.cell? ⟨w.heap.size + 1, 0, none⟩ = some (.slice a2 l.length c2) := fun W t => ⟨(R1.turn t (fun q => q)).cell 0 _ rfl, (R2.turn t (fun q => q)).cell 0 _ rfl⟩
  have D1 := shut d1
  have HT1 := shut (h1.turn_no t12)
  have HT2 := shut (h2.turn_no t12)
  obtain ⟨z1, z2⟩ := d1 w2 (Turn.refl no w2)
  clear d1 R1 R2 h1 h2
  go_enter Try.func17, Try.ntmps17
  go_wp2_with fail
  try rw [← hw2]
  go_loopw [5] (fun x wr => ∃ i : Nat, i ≤ l.length ∧ x = .int .i64 i ∧ Turn no w2 wr) (fun x _ => l.length - (intOf x).toNat)
  case atStart => exact ⟨0, Nat.zero_le _, rfl, Turn.refl _ _⟩
  case round =>
    obtain ⟨i, hi, rfl, T⟩ := hrel
    have y1 := (D1.out wr T).1
    by_cases hlt : i < l.length
    · have hlt' : (i : Int) < (l.length : Int) := by omega
      obtain ⟨f, hf⟩ : ∃ f, l[i]? = some f := ⟨l[i], List.getElem?_eq_getElem hlt⟩
      obtain ⟨g1, d1, b1, n1, x1, e1, p1, p2, p4⟩ := (HT1.out.turn_no T).at27 i f hf
      obtain ⟨g2, d2, b2, n2, x2, e2, q1, q2, q4⟩ := (HT2.out.turn_no T).at27 i f hf
      have e1' : a1 = some ⟨g1, 0, none⟩ := by simp at e1; exact e1.1
      have e2' : a2 = some ⟨g2, 0, none⟩ := by simp at e2; exact e2.1
      subst e1' e2'
      have y2 := (D1.out wr T).2
      have cv1 := fun n => bytes_text (p4.turn_no ((Turn.refl no wr).drewN n)).bs
      have cv2 := fun n => bytes_text (q4.turn_no ((Turn.refl no wr).drewN n)).bs
      clear p4 q4 e1 e2
      unfold strV at *
      go_wp2_with fail
      go_quiet (fail)
      go_wp2_with fail
      go_roundw
      case rel => exact ⟨i + 1, by omega, by go_num, T.drewN _⟩
      case measure => simp [intOf]; omega
    · have hlt' : ¬ (i : Int) < (l.length : Int) := by omega
      go_wp2_with fail
      go_ret
      exact ⟨rfl, t12.then_no T⟩
end Go.Proofs.Ytcdogciacchigab
