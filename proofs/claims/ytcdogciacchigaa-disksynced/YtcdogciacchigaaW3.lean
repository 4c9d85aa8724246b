/- DiskSynced: the book keeps true. -/
import Derived.Test.YtcdogciacchigaaW2
namespace Go.Proofs.Ytcdogciacchigaa
open Go.RowKit Go.Maps
set_option linter.unusedVariables false

def bookOk (fs : List Pf) (l : List Sf) : Prop := ∀ x ∈ l, x.op = false → ∃ f, getF x.nm fs = some f ∧ x.bs <+: f.bs.take f.sy
theorem plan_kp (s : St) (o : Opx) (l : List Pf) (h : (planS s o).1 = some l) : ∀ k, k ≠ o.nm → getF k l = getF k s.fs := by
  intro k hk
  unfold planS appL at h
  repeat' split at h
  all_goals first | cases h | skip
  all_goals first | exact getF_put_other hk | exact getF_drop_other hk
theorem plan_up (s : St) (o : Opx) (hi : Inv s) (hk : o.kind = 1 ∨ o.kind = 2) (l : List Pf) (h : (planS s o).1 = some l) (f : Pf) (hf : getF o.nm s.fs = some f) : ∃ f', getF o.nm l = some f' ∧ f.bs.take f.sy <+: f'.bs.take f'.sy := by
  have hsy := hi.sy f (getF_mem hf).1
  have hfo : fileOf s.fs o.nm = f := by simp [fileOf, hf]
  rcases hk with k | k
  · simp only [planS, k, if_true] at h
    split at h
    · cases h
    · split at h
      · cases h
      · cases h
        refine ⟨_, getF_put_same ⟨o.nm, _, _⟩ s.fs hi.sorted, ?_⟩
        rw [hfo]
        simp only
        rw [List.take_append_of_le_length hsy]
        exact List.prefix_refl _
  · simp only [planS, k] at h
    rw [if_neg (by decide), if_pos trivial] at h
    split at h
    · cases h
    · cases h
      refine ⟨_, getF_put_same ⟨o.nm, _, _⟩ s.fs hi.sorted, ?_⟩
      rw [hfo]
      simp only
      rw [List.take_length]
      exact List.take_prefix _ _
theorem plan_whole (s : St) (o : Opx) (hi : Inv s) (hk : o.kind = 2 ∨ o.kind = 3 ∨ o.kind = 4) (l : List Pf) (h : (planS s o).1 = some l) : ∃ f', getF o.nm l = some f' ∧ f'.bs.take f'.sy = f'.bs ∧ isNm o.nm = true := by
  have hfa : foundE s o.nm = 0 → isNm o.nm = true := fun h => (foundE_ok h).2.1
  rcases hk with k | k | k
  · simp only [planS, k] at h
    rw [if_neg (by decide), if_pos trivial] at h
    split at h
    · cases h
    · rename_i hz
      cases h
      exact ⟨_, getF_put_same ⟨o.nm, _, _⟩ s.fs hi.sorted, List.take_length, hfa (by simpa using hz)⟩
  · simp only [planS, k] at h
    rw [if_neg (by decide), if_neg (by decide), if_pos trivial] at h
    split at h
    · cases h
    · rename_i hz
      split at h
      · cases h
      · cases h
        exact ⟨_, getF_put_same ⟨o.nm, _, _⟩ s.fs hi.sorted, List.take_length, (asked_off (by simpa using hz)).2⟩
  · simp only [planS, k] at h
    rw [if_neg (by decide), if_neg (by decide), if_neg (by decide), if_pos trivial] at h
    split at h
    · cases h
    · rename_i hz
      split at h
      · cases h
      · cases h
        refine ⟨_, getF_put_same ⟨o.nm, _, _⟩ s.fs hi.sorted, ?_, hfa (by simpa using hz)⟩
        simp only
        rw [List.take_take, Nat.min_self]
theorem numb_eff (s : St) (l : List Pf) (hoff : s.off = false) : ((numb s l).1.fs = s.fs ∨ (numb s l).1.fs = l) ∧ ((numb s l).2 ≠ 0 → (numb s l).2 ≠ 63 → (numb s l).1.fs = s.fs) ∧ ((numb s l).2 = 0 → (numb s l).1.fs = l ∧ (numb s l).1.off = false) := by
  unfold numb
  dsimp only
  split
  · exact ⟨Or.inr rfl, fun h => (h rfl).elim, fun _ => ⟨rfl, hoff⟩⟩
  · split
    · exact ⟨Or.inl rfl, fun _ _ => rfl, fun h => by cases h⟩
    · refine ⟨?_, fun _ h => (h rfl).elim, fun h => by cases h⟩
      simp only
      split
      · exact Or.inr rfl
      · exact Or.inl rfl
theorem do_eff (s : St) (o : Opx) (hoff : s.off = false) : ((doS s o).1.fs = s.fs ∨ (planS s o).1 = some (doS s o).1.fs) ∧ ((doS s o).2 ≠ 0 → (doS s o).2 ≠ 63 → (doS s o).1.fs = s.fs) ∧ ((doS s o).2 = 0 → 1 ≤ o.kind ∧ o.kind ≤ 5 → (planS s o).1 = some (doS s o).1.fs ∧ (doS s o).1.off = false) := by
  by_cases h : o.kind = 11
  · have e : doS s o = armS s o.t := by simp [doS, h]
    have hf : (armS s o.t).1.fs = s.fs := by
      unfold armS
      split
      · rfl
      · split <;> rfl
    rw [e, hf]
    exact ⟨Or.inl rfl, fun _ _ => rfl, fun _ q => by omega⟩
  · rw [do_plan s o h]
    cases hp : (planS s o).1 with
    | none =>
      refine ⟨Or.inl rfl, fun _ _ => rfl, fun h0 hk => ?_⟩
      exact ((plan_refused s o hk hp).1 h0).elim
    | some l =>
      obtain ⟨a, b, c⟩ := numb_eff s l hoff
      refine ⟨a.imp id (fun e => by show some l = some _; rw [e]), b, fun h0 _ => ?_⟩
      obtain ⟨c1, c2⟩ := c h0
      exact ⟨by show some l = some _; rw [c1], c2⟩
theorem loosen_mem {l : List Sf} {nm : Nm} {gone : Bool} {x : Sf} (h : x ∈ loosenL l nm gone) (ho : x.op = false) : x ∈ l ∧ x.nm ≠ nm := by
  unfold loosenL at h
  obtain ⟨y, hy, hx⟩ := List.mem_flatMap.1 h
  unfold loosen1 at hx
  split at hx
  · split at hx
    · cases hx
    · simp at hx
      subst hx
      cases ho
  · simp at hx
    subst hx
    rename_i hn
    exact ⟨hy, hn⟩
theorem book_step (s : St) (o : Opx) (hi : Inv s) (hoff : s.off = false) (l : List Sf) (hb : bookOk s.fs l) :
    ((doS s o).2 ≠ 0 → (doS s o).2 ≠ 63 → bookOk (doS s o).1.fs l) ∧ (∀ gone, bookOk (doS s o).1.fs (loosenL l o.nm gone)) ∧ (o.kind ≠ 3 → o.kind ≠ 4 → o.kind ≠ 5 → bookOk (doS s o).1.fs l) ∧
    ((doS s o).2 = 0 → (o.kind = 2 ∨ o.kind = 3 ∨ o.kind = 4) → foundE (doS s o).1 o.nm = 0 ∧ bookOk (doS s o).1.fs (noteL l o.nm (readS (doS s o).1 o.nm))) := by
  obtain ⟨e1, e2, e3⟩ := do_eff s o hoff
  have hoth : ∀ k, k ≠ o.nm → getF k (doS s o).1.fs = getF k s.fs := fun k hk => by
    rcases e1 with e | e
    · rw [e]
    · exact plan_kp s o _ e k hk
  refine ⟨fun h0 h1 => by rw [e2 h0 h1]; exact hb, fun gone x hx ho => ?_, fun h3 h4 h5 x hx ho => ?_, fun h0 hk => ?_⟩
  · obtain ⟨hm, hn⟩ := loosen_mem hx ho
    rw [hoth _ hn]
    exact hb x hm ho
  · obtain ⟨f, hf, hp⟩ := hb x hx ho
    by_cases hn : x.nm = o.nm
    · rcases e1 with e | e
      · rw [e]; exact ⟨f, hf, hp⟩
      · by_cases k : o.kind = 1 ∨ o.kind = 2
        · rw [hn] at hf ⊢
          obtain ⟨f', hf', hp'⟩ := plan_up s o hi k _ e f hf
          exact ⟨f', hf', hp.trans hp'⟩
        · have : (planS s o).1 = none := by
            unfold planS
            rw [if_neg (by omega), if_neg (by omega), if_neg (by omega), if_neg (by omega), if_neg (by omega)]
          rw [this] at e
          cases e
    · rw [hoth _ hn]
      exact ⟨f, hf, hp⟩
  · obtain ⟨e, ho⟩ := e3 h0 (by omega)
    obtain ⟨f', hf', hw, hnm⟩ := plan_whole s o hi hk _ e
    have hfE : foundE (doS s o).1 o.nm = 0 := by simp [foundE, asked, ho, hnm, hf']
    refine ⟨hfE, fun x hx hxo => ?_⟩
    unfold noteL at hx
    rcases List.mem_append.1 hx with q | q
    · obtain ⟨q1, q2⟩ := List.mem_filter.1 q
      rw [hoth x.nm (by simpa using q2)]
      exact hb x q1 hxo
    · simp at q
      subst q
      refine ⟨f', hf', ?_⟩
      simp only [readS, hfE, if_true, fileOf, hf', Option.getD_some, hw]
      exact List.prefix_refl _
theorem beg_pre {a b c : List UInt8} (h : a <+: b) (hb : begB b c = true) : begB a c = true := by
  unfold begB at *
  simp only [Bool.and_eq_true, decide_eq_true_eq] at *
  obtain ⟨t, rfl⟩ := h
  obtain ⟨h1, h2⟩ := hb
  refine ⟨by simp at h1; omega, ?_⟩
  have := congrArg (List.take a.length) h2
  rw [List.take_take, List.take_left] at this
  simpa using this
/-- What is safe stands in the image. -/
theorem book_end {fs : List Pf} (hi : ∀ f ∈ fs, f.sy ≤ f.bs.length) {l : List Sf} (hb : bookOk fs l) (keep : List Int) (junk : UInt8) (x : Sf) (hx : x ∈ l) (ho : x.op = false) : ∃ (j : Nat) (fi : Fi), (crashL fs keep junk)[j]? = some fi ∧ fi.1 = x.nm ∧ begB x.bs fi.2 = true := by
  obtain ⟨f, hf, hp⟩ := hb x hx ho
  obtain ⟨hm, hn⟩ := getF_mem hf
  obtain ⟨j, hj⟩ := List.getElem?_of_mem hm
  exact ⟨j, _, crashL_at fs keep junk j f hj, hn, beg_pre hp (left_pre f.bs f.sy _ junk (hi f hm))⟩
end Go.Proofs.Ytcdogciacchigaa
