/- CodecBack, the row up to the bound. -/
import Derived.Test.YtfjdojodbhmmaabBackW
import Derived.Test.YtfjdojodbhmmaabOpen
import Derived.Deep.Slices
import Derived.Deep.Strs
import Derived.JoinedCond
namespace Go.Proofs.Ytfjdojodbhmmaab
open Go.ChangeShapes Go.WideShapes Go.ChangeAt Go.RowKit Go.Joins Go.Deep
set_option linter.unusedVariables false

theorem cells3 : Try.prog.cellsOf 3 = 1 := by kernel_rfl
theorem cells29 : Try.prog.cellsOf 29 = 1 := by kernel_rfl
theorem cells23 : Try.prog.cellsOf 23 = 1 := by kernel_rfl

theorem add3 (a : Addr) (l j : Nat) : (a.add l).add j = a.add (l + j) := by
  obtain ⟨b, o, s⟩ := a
  unfold Addr.add
  by_cases hl : l = 0
  · subst hl; simp
  · by_cases hj : j = 0
    · subst hj; simp [hl]
    · simp [hl, hj, Nat.add_assoc]

theorem bulk_one {H : Type} (d : DataW H) : 1 ≤ Rows.uptoBulk d := by
  cases d with
  | lit l => cases l <;> simp [Rows.uptoBulk]
  | nil => simp [Rows.uptoBulk]
  | ptr d => simp [Rows.uptoBulk]
  | slice elems spare => simp [Rows.uptoBulk]
  | agg parts => simp [Rows.uptoBulk]
  | iface t d => simp [Rows.uptoBulk]
  | map entries => simp [Rows.uptoBulk]
  | held h => simp [Rows.uptoBulk]

theorem bulk_length {H : Type} (l : List (DataW H)) : l.length ≤ Rows.uptoBulkAll l := by
  induction l with
  | nil => simp [Rows.uptoBulkAll]
  | cons x r ih => have := bulk_one x; simp only [Rows.uptoBulkAll, List.length_cons]; omega

theorem room_bulk {H : Type} (f : Nat → Pt) (D : Nat → DataW H) : ∀ l : List Nat, (∀ i ∈ l, (f i).B.length + 10 ≤ 10 * Rows.uptoBulk (D i)) → roomAll (l.map f) ≤ 10 * Rows.uptoBulkAll (l.map D)
  | [], _ => by simp [roomAll]
  | i :: l, h => by
    have h1 := h i (by simp)
    have h2 := room_bulk f D l (fun j hj => h j (by simp [hj]))
    simp only [List.map_cons, roomAll, Rows.uptoBulkAll]
    omega

section
variable {H : Type} {enc : TypeId × Value → H} {w : World} {base : Nat} {spare : Nat → Bool} {held : Bool}

theorem three {a : Addr} {cs : List Value} (h : w.cells? base a 3 = some cs) : ∃ x y z, cs = [x, y, z] ∧ w.cell? (a.add 0) = some x ∧ w.cell? (a.add 1) = some y ∧ w.cell? (a.add 2) = some z := by
  obtain ⟨_, hl, hc⟩ := World.cells?_some h
  match cs, hl with
  | [x, y, z], _ => exact ⟨x, y, z, rfl, hc 0 (by omega), hc 1 (by omega), hc 2 (by omega)⟩

theorem open_puts {n : Nat} {v : Value} {y : DataW H × List MemPlace} (h : DataW.trod enc Try.prog w base spare held n 22 [v] = some y) : ∃ ps, Ps w v ps ∧ roomAll ps ≤ 10 * Rows.uptoBulk y.1 := by
  rcases open_slice Try.underlying22 h with ⟨hcs, _⟩ | ⟨a, len, cap, m, n', D, Pl, hcs, _, hl, hm, hmm, hx, hel⟩
  · simp at hcs
    exact ⟨[], Or.inl ⟨hcs, rfl⟩, by simp [roomAll]⟩
  · simp at hcs
    have hlm : len ≤ m := by rw [hmm]; split <;> omega
    have hex : ∀ i, i < len → ∃ x : Pt, PtAt w (a.add (i * 3)) x ∧ x.B.length + 10 ≤ 10 * Rows.uptoBulk (D i) := by
      intro i hi
      obtain ⟨cs', h1, h2⟩ := hel i (by omega)
      rw [Try.cells31] at h1
      obtain ⟨x, y, z, rfl, c0, c1, c2⟩ := three h1
      obtain ⟨y0, y1, y2, k, hD, _, t0, t1, t2⟩ := trod_struct3 Try.underlying31 h2
      simp [cells3, cells29, cells23] at t0 t1 t2
      obtain ⟨k0, e0, _, w0⟩ := DataW.trod_int Try.underlying3 t0
      obtain ⟨k1, e1, _, w1⟩ := DataW.trod_int Try.underlying29 t1
      obtain ⟨bs, hb, hw⟩ := open_bytes t2
      simp at e0 e1
      subst e0 e1
      have b1 := bounds_u64 w1
      obtain ⟨nn, rfl⟩ := Int.eq_ofNat_of_zero_le b1.1
      simp only [Prod.mk.injEq] at hD
      refine ⟨⟨k0, nn, z, bs⟩, ⟨by simpa [Addr.add] using c0, c1, c2, by show nn < _; omega, hb⟩, ?_⟩
      rw [hD.1]
      simp only [Rows.uptoBulk, Rows.uptoBulkAll]
      have hy : bs.length + 1 ≤ Rows.uptoBulk y2.1 := by
        rcases hw with ⟨e, rfl⟩ | ⟨es, sp, e, hl⟩
        · rw [e]; simp [Rows.uptoBulk]
        · rw [e]
          have := bulk_length es
          simp only [Rows.uptoBulk]
          omega
      omega
    have inst : Inhabited Pt := ⟨⟨0, 0, .slice none 0 0, []⟩⟩
    obtain ⟨f, hf⟩ := choose_lt hex
    refine ⟨(List.range len).map f, Or.inr ⟨a, cap, by rw [hcs]; simp, by simpa using hl, hm, fun j g hg => ?_⟩, ?_⟩
    · rw [List.getElem?_map] at hg
      by_cases hj : j < len
      · rw [List.getElem?_range hj] at hg
        simp at hg
        rw [← hg]
        exact (hf j hj).1
      · rw [List.getElem?_eq_none (by simpa using hj)] at hg
        cases hg
    · have h1 := room_bulk f D (List.range len) (fun i hi => (hf i (by simpa using hi)).2)
      rw [hx]
      simp only [Rows.uptoBulk]
      omega
end

set_option maxRecDepth 100000 in
theorem back_lifted (os : Os) (started : os.Started) (H : Type) (enc : TypeId × Value → H) (F : Stop.Interp) :
    ReturnsInHanded {} Try.checked os 3 .any ((Rows.OpenSpec.upto Rows.codecBackSpec).pre6 enc Try.prog Try.f3 Rows.codecBackUptoRow.domain false) (((Rows.OpenSpec.upto Rows.codecBackSpec).at F).post enc Try.prog Try.f3 false true false false) := by
  refine returnsInHanded_of_cond (C := Try.checked) (s := Rows.OpenSpec.upto Rows.codecBackSpec) (k := Rows.uptoSmall) rfl own started (by kernel_rfl) Try.func3
    (OpenSpec.witness (enc := enc) (C := Try.checked) (s := Rows.OpenSpec.upto Rows.codecBackSpec) (k := Rows.uptoSmall) rfl false ⟨#[], #[.slice none 0 0], []⟩ 8 (by kernel_rfl) (by kernel_rfl) (by kernel_rfl)
      (x := ([.nil], [], [])) (by kernel_rfl) rfl (by kernel_rfl)) ?_
  intro W base args ds gs before hval0 hW _ hk _
  have hval : ∀ (j : Nat) t v, Try.f3.params[j]? = some t → args[j]? = some v → Value.okWide Try.prog W .any base t v := hval0
  have hW' := hW
  obtain ⟨p, q, hA0, hV, rfl, hfz, hnd⟩ := hW
  have hA : DataW.TrodAll enc Try.prog W 0 (fun _ => true) true Try.f3.params.toList args.toList ds p := hA0
  rw [Try.params3] at hA hval
  obtain ⟨v0, d0, rfl, rfl, h0⟩ := trodAll_one hA
  obtain ⟨rfl, rfl⟩ := trodVars_none hV
  have k0 := h0
  have lt0 : ∀ x ∈ p, x.block < W.heap.size := by obtain ⟨m, hm⟩ := k0; exact DataW.trod_lt m _ _ _ hm
  obtain ⟨a0, l0, c0, hv0⟩ := okWide_slice Try.underlying22 (hval 0 22 v0 rfl rfl)
  obtain ⟨m0, t0⟩ := h0
  rw [hv0] at t0
  obtain ⟨ps, hps, hroom⟩ := open_puts (v := .slice a0 l0 c0) t0
  have hk' : Rows.uptoBulkAll [d0] ≤ 1048576 := of_decide_eq_true hk
  simp only [Rows.uptoBulkAll] at hk'
  simp only at hroom
  clear hA0 hval0
  rw [← hv0] at hps
  refine (back_walk W _ ps hps (by omega)).mono fun e W' ⟨he, tt⟩ => ?_
  subst he
  have bel := tt.below
  exact ⟨_, rfl, _, _, _, [], _, [], hW', trodAll_mk1 (shut_bool Try.underlying4 _), (trodAll_mk1 (Below.trod laidOut (by kernel_rfl) (of_decide_eq_true (by kernel_rfl)) k0 bel lt0)), rfl, bel.frame _, fun h => by cases h⟩

theorem back_holds : Rows.CodecBackUptoSaid :=
  OpenClaim.holds_of_cond 3 Try.f3 rfl rfl rfl rfl rfl rfl rfl ⟨rfl, rfl, rfl, rfl, rfl⟩ rfl rfl rfl rfl rfl (by kernel_rfl) Try.func3 (by kernel_rfl)
    (of_decide_eq_true (by kernel_rfl)) (by unfold Func.isWrapper; first | (rw [if_pos (by decide +kernel)]; kernel_rfl) | (rw [if_neg (by decide +kernel)]; exact ⟨rfl, rfl⟩))
    (fun os started H enc _ F => back_lifted os started H enc F)
#print axioms back_holds
end Go.Proofs.Ytfjdojodbhmmaab
