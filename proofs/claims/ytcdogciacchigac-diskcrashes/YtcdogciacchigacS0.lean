/- sortedNames, Names. -/
import Derived.Test.YtcdogciacchigacSh
import Derived.Test.YtcdogciacchigacM1
import Derived.Shelf.SlIter.Nil
import Derived.Shelf.SortM.Plain
import Derived.Shelf.SortM.SortNone
import Derived.Ground.GgzProg
import Derived.Ground.SlgmProg
namespace Go.Proofs.Ytcdogciacchigac
open Go.RowKit Go.Maps Go.Sort Go.Shelf
set_option linter.unusedVariables false


theorem sorts51 (m : Nat) : AnyZ.SortsIn Try.prog Try.sorted51_ren Fence.wide m :=
  ⟨fun blk off cap ss W hH hblk hsz => callsIn_wide.2 (AnyM.slices_Sort_string Try.sort60 blk off cap ss W hH hblk hsz),
   fun p cap W => callsIn_wide.2 (AnyM.slices_Sort_string_none Try.sort60 p cap W)⟩
theorem keys52 (mb : Option Nat) (W : World) : CallsIn Fence.wide 5 Try.prog 70 #[.map mb] W fun e w' => e = .returned (.func (.func 84) #[] #[.pointer (some ⟨W.heap.size, 0, none⟩)]) ∧ w' = W.alloc (.cells #[.map mb] 78) :=
  AnyZ.keys_in Try.keys52 Fence.wide 5 trivial rfl mb W

section
variable {w : World} {p : Nat} {K : Nat → Prop} {bf bt : Option Nat} {V : Nm → Value} {s : St}
theorem names_sorted {D : DataW Value} {l : List Pf} (hs : Sorted l) (fm : Fm D V l) {ss : List Nm} (hp : ss.Perm (strKeys D)) : ss.mergeSort (fun x y => decide (x ≤ y)) = l.map Pf.nm := by
  obtain ⟨es, he, hk⟩ := fm.keys
  have hpw : es.Pairwise (fun p q => p.1 ≠ q.1) := by
    obtain ⟨es', e', h'⟩ := fm.tidy
    rw [he] at e'
    cases e'
    exact h'
  have h1 : (l.map Pf.nm).Perm (strKeys D) := by
    rw [he]
    refine perm_strKeys hpw hk (sorted_nodup hs) (fun x => ?_)
    have := fm.has x
    rw [he, getF_some] at this
    show _ ↔ Maps.has (.map es) (sKey x) = true
    rw [this]
    simp
  have h2 : ss.Perm (l.map Pf.nm) := hp.trans h1.symm
  have tr : ∀ a b c : Nm, decide (a ≤ b) = true → decide (b ≤ c) = true → decide (a ≤ c) = true := fun a b c h1 h2 => by simp only [decide_eq_true_eq] at *; exact List.le_trans h1 h2
  have to : ∀ a b : Nm, (decide (a ≤ b) || decide (b ≤ a)) = true := fun a b => by simp only [Bool.or_eq_true, decide_eq_true_eq]; exact List.le_total a b
  refine List.Perm.eq_of_pairwise (le := fun a b => decide (a ≤ b) = true) (fun a b _ _ h1 h2 => ?_) (List.pairwise_mergeSort tr to ss) ?_ ((List.mergeSort_perm ss _).trans h2)
  · simp only [decide_eq_true_eq] at h1 h2
    exact List.le_antisymm h1 h2
  · refine List.pairwise_map.2 (hs.imp (fun {a b} q => ?_))
    simp only [decide_eq_true_eq]
    exact List.le_of_lt q

set_option maxRecDepth 100000 in
set_option maxHeartbeats 2000000 in
theorem sorted37 (h : Dp w p K bf bt V s) (ho : s.out = false) : Calls Try.prog 40 #[ptr p] w fun e w' => ∃ v, e = .returned v ∧ Own w' 9 v ((s.fs.map Pf.nm).map strV) ∧ (∀ g, v.ownBlock = some g → w.heap.size ≤ g) ∧ Turn no w w' := by
  obtain ⟨b, D, rfl, kb, o, fm⟩ := h.on_files ho
  have hsz := fm.size
  have hcount := h.inv.count
  have hso := h.inv.sorted
  have c2 := h.c2
  have hbl := o.lt
  have hfin : ∀ (v : Value) (ss : List Nm) w', ss.Perm (strKeys D) → w'.ownsRow (w.alloc (.cells #[.map (some b)] 78)).heap.size 9 1 v ss.length ((ss.mergeSort (fun x y => decide (x ≤ y))).map encStr) → Below (w.alloc (.cells #[.map (some b)] 78)).heap.size (w.alloc (.cells #[.map (some b)] 78)) w' →
      Own w' 9 v ((s.fs.map Pf.nm).map strV) ∧ (∀ g, v.ownBlock = some g → w.heap.size ≤ g) ∧ Turn no w w' := fun v ss w' hp hrow hb => by
    rw [names_sorted hso fm hp] at hrow
    have hl : ss.length = ((s.fs.map Pf.nm).map strV).length := by
      have := hp.length_eq
      have h3 : (ss.mergeSort (fun x y => decide (x ≤ y))).length = ss.length := List.length_mergeSort ss
      rw [names_sorted hso fm hp] at h3
      simp at h3 ⊢
      exact h3.symm
    refine ⟨?_, fun g hg => ?_, ((Turn.refl no w).alloc _).then_no (Turn.of_below hb)⟩
    · refine ⟨by simp, ?_⟩
      rcases hrow.2 with ⟨q1, q2⟩ | ⟨g, cap, cur, hv, hb', hg, r⟩
      · exact Or.inl ⟨q1, by rw [← hl]; exact q2⟩
      · rw [hl] at hv r
        exact Or.inr ⟨g, cap, cur, hv, Nat.zero_le _, hg, r⟩
    · rcases hrow.2 with ⟨q1, q2⟩ | ⟨g', cap, cur, hv, hb', hg', r⟩
      · rw [q1] at hg; cases hg
      · rw [hv] at hg
        have hb2 : w.heap.size + 1 ≤ g' := by simpa using hb'
        have : g' = g := by simpa [Value.ownBlock] using hg
        omega
  refine (callsIn_wide (n := 6)).1 ?_
  have hseq : SeqGives Fence.wide 2 Try.prog 84 #[.pointer (some ⟨w.heap.size, 0, none⟩)] encStr (fun ss => ss.Perm (strKeys D)) (Maps.size D) (w.alloc (.cells #[.map (some b)] 78)) :=
    AnyZ.keys_gives (ρ := Try.keys52_ren) { Try.keys52 with } Fence.wide _ trivial rfl (by omega) w.heap.size b _ D _ (by simp) (by simp) (by
      obtain ⟨es, clock, hb, Ft, hs, hD⟩ := o
      exact ⟨es, clock, (Below.heap_alloc _ _ b hbl).trans hb, Ft, hs, hD⟩)
  have cK := fun mb W => keys52 mb W
  have cS := AnyZ.sorted_in Try.sorted51 Fence.wide 5 trivial trivial trivial trivial rfl (by omega) (sorts51 _) (enters_of Try.func83 (by kernel_rfl) rfl) 84 #[.pointer (some ⟨w.heap.size, 0, none⟩)] trivial (enters_of Try.func84 (by kernel_rfl) rfl) _ _ (by rw [hsz]; simp only [maxLen]; omega) (by rw [hsz]; omega) _ hseq
  change CallsIn _ _ Try.prog 69 _ _ _ at cS
  have hfK : Fence.wide.fn 70 := trivial
  have hfS : Fence.wide.fn 69 := trivial
  clear h fm o hseq
  unfold ptr at *
  refine callsIn_of_wp Try.func40 rfl trivial ?_ rfl
  simp only [Try.ntmps40, List.size_toArray, List.length_cons, List.length_nil, Nat.reduceAdd, Nat.reduceSub, Array.replicate_succ, Array.replicate_zero, List.push_toArray, List.append_toArray, List.nil_append, List.cons_append]
  gi_wp2_with (first
    | (gi_at_call 70; refine (cK _ _).mono ?_; rintro e w' ⟨rfl, rfl⟩)
    | (gi_at_call 69; refine cS.mono ?_; rintro e w' ⟨v, ss, rfl, hS, hrow, hnil, hb⟩))
  go_ret
  exact ⟨v, rfl, hfin v ss _ hS hrow hb⟩

set_option maxRecDepth 100000 in
set_option maxHeartbeats 2000000 in
theorem names29 (hk : Dk w p K s) : Calls Try.prog 30 #[ptr p] w fun e w' => ∃ v, e = .returned v ∧ Own w' 9 v ((if s.off then [] else s.fs.map Pf.nm).map strV) ∧ (∀ g, v.ownBlock = some g → w.heap.size ≤ g) ∧ Turn no w w' := by
  have hon := on13 hk
  obtain ⟨bf, bt, V, h⟩ := hk
  cases hoff : s.off with
  | true =>
    rw [hoff] at hon
    clear h
    unfold ptr at *
    go_enter Try.func30, Try.ntmps30
    go_wp2_with fail
    refine hon.mono ?_
    rintro e w' ⟨rfl, rfl⟩
    go_wp2_with fail
    go_ret
    exact ⟨.slice none 0 0, rfl, Own.nil _ 9, (fun g hg => by cases hg), Turn.refl _ _⟩
  | false =>
    rw [hoff] at hon
    have hs := sorted37 h (h.inv.out hoff)
    clear h
    unfold ptr at *
    go_enter Try.func30, Try.ntmps30
    go_wp2_with fail
    refine hon.mono ?_
    rintro e w' ⟨rfl, rfl⟩
    go_wp2_with fail
    refine hs.mono ?_
    rintro e w2 ⟨v, rfl, h1, h2, h3⟩
    go_wp2_with fail
    go_ret
    exact ⟨v, rfl, by simpa using h1, h2, h3⟩
end
end Go.Proofs.Ytcdogciacchigac
