/- CodecWrites, the row up to the bound. -/
import Derived.Test.YtfjdojodbhmmaaaWritesW
import Derived.Test.YtfjdojodbhmmaaaX6
import Derived.Test.YtfjdojodbhmmaaaOpenG
import Derived.Deep.Slices
import Derived.Deep.Strs
import Derived.JoinedCond
namespace Go.Proofs.Ytfjdojodbhmmaaa
open Go.ChangeShapes Go.WideShapes Go.ChangeAt Go.RowKit Go.Joins Go.Deep
set_option linter.unusedVariables false

theorem cells24 : Try.prog.cellsOf 24 = 1 := by kernel_rfl
theorem cells25 : Try.prog.cellsOf 25 = 1 := by kernel_rfl

theorem bulk_one {H : Type} (d : DataW H) : 1 ≤ Rows.uptoBulk d := by
  cases d with
  | lit l => cases l <;> simp [Rows.uptoBulk]
  | nil => simp [Rows.uptoBulk]
  | ptr d => simp [Rows.uptoBulk]
  | slice elems spare => simp [Rows.uptoBulk]
  | agg parts => simp [Rows.uptoBulk]
  | iface t d => simp [Rows.uptoBulk]
  | map entries => simp [Rows.uptoBulk]
  | held h => simp [Rows.uptoBulk]

theorem bulk_length {H : Type} (l : List (DataW H)) : l.length ≤ Rows.uptoBulkAll l := by
  induction l with
  | nil => simp [Rows.uptoBulkAll]
  | cons x r ih => have := bulk_one x; simp only [Rows.uptoBulkAll, List.length_cons]; omega

theorem bulk_mem {H : Type} (l : List (DataW H)) (d : DataW H) (h : d ∈ l) : Rows.uptoBulk d ≤ Rows.uptoBulkAll l := by
  induction l with
  | nil => simp at h
  | cons x r ih =>
    simp only [Rows.uptoBulkAll]
    rcases List.mem_cons.1 h with rfl | h
    · omega
    · have := ih h; omega

section
variable {H : Type} {enc : TypeId × Value → H} {w : World} {base : Nat} {spare : Nat → Bool} {held : Bool}
theorem open_put {n : Nat} {x y z : Value} {d : DataW H × List MemPlace} (h : DataW.trod enc Try.prog w base spare held n 27 [x, y, z] = some d) :
    ∃ p : Pt, x = .int .i64 p.k ∧ y = .int .u64 p.n ∧ z = p.vb ∧ p.n < 18446744073709551616 ∧ Bs w p.vb p.B ∧ p.B.length ≤ Rows.uptoBulk d.1 := by
  obtain ⟨y0, y1, y2, k, hD, _, t0, t1, t2⟩ := trod_struct3 Try.underlying27 h
  simp [Try.cells3, cells24, cells25] at t0 t1 t2
  obtain ⟨k0, e0, _, w0⟩ := DataW.trod_int Try.underlying3 t0
  obtain ⟨k1, e1, _, w1⟩ := DataW.trod_int Try.underlying24 t1
  obtain ⟨bs, hb, hw⟩ := open_bytes t2
  simp at e0 e1
  subst e0 e1
  have b1 := bounds_u64 w1
  obtain ⟨nn, rfl⟩ := Int.eq_ofNat_of_zero_le b1.1
  refine ⟨⟨k0, nn, z, bs⟩, rfl, rfl, rfl, by show nn < _; omega, hb, ?_⟩
  rw [hD]
  simp only [Rows.uptoBulk, Rows.uptoBulkAll]
  rcases hw with ⟨e, rfl⟩ | ⟨es, sp, e, hl⟩
  · simp
  · rw [e]
    have := bulk_length es
    simp only [Rows.uptoBulk]
    omega

theorem open_putsU {n : Nat} {v : Value} {y : DataW H × List MemPlace} (h : DataW.trod enc Try.prog w base spare held n 23 [v] = some y) :
    ∃ ps : List Pt, Ps w v ps ∧ ps.length ≤ Rows.uptoBulk y.1 ∧ ∀ (j : Nat) (t : Pt), ps[j]? = some t → t.B.length ≤ Rows.uptoBulk y.1 := by
  rcases open_slice Try.underlying23 h with ⟨hcs, _⟩ | ⟨a, len, cap, m, n', D, Pl, hcs, _, hl, hm, hmm, hx, hel⟩
  · simp at hcs
    exact ⟨[], Or.inl ⟨hcs, rfl⟩, Nat.zero_le _, fun j t q => by simp at q⟩
  · simp at hcs
    have hlm : len ≤ m := by rw [hmm]; split <;> omega
    have hex : ∀ i, i < len → ∃ t : Pt, PtAt w (a.add (i * 3)) t ∧ t.B.length ≤ Rows.uptoBulk (D i) := by
      intro i hi
      obtain ⟨cs', h1, h2⟩ := hel i (by omega)
      rw [Try.cells27] at h1
      obtain ⟨x0, x1, x2, rfl, c0, c1, c2⟩ := three h1
      obtain ⟨P, rfl, rfl, rfl, p1, p2, p3⟩ := open_put h2
      rw [add3] at c0
      exact ⟨P, ⟨by simpa using c0, c1, c2, p1, p2⟩, p3⟩
    have inst : Inhabited Pt := ⟨⟨0, 0, .slice none 0 0, []⟩⟩
    obtain ⟨f, hf⟩ := choose_lt hex
    have hbulk : ∀ i, i < len → Rows.uptoBulk (D i) ≤ Rows.uptoBulk y.1 := by
      intro i hi
      rw [hx]
      simp only [Rows.uptoBulk]
      have := bulk_mem ((List.range len).map D) (D i) (List.mem_map.2 ⟨i, by simpa using hi, rfl⟩)
      omega
    have hget : ∀ j t, ((List.range len).map f)[j]? = some t → j < len ∧ f j = t := by
      intro j t hg
      rw [List.getElem?_map] at hg
      by_cases hj : j < len
      · rw [List.getElem?_range hj] at hg
        simp at hg
        exact ⟨hj, hg⟩
      · rw [List.getElem?_eq_none (by simpa using hj)] at hg
        cases hg
    refine ⟨(List.range len).map f, Or.inr ⟨a, cap, by rw [hcs]; simp, by simpa using hl, hm, fun j g hg => ?_⟩, ?_, fun j g hg => ?_⟩
    · obtain ⟨hj, rfl⟩ := hget j g hg
      exact (hf j hj).1
    · rw [hx]
      simp only [Rows.uptoBulk]
      have := bulk_length ((List.range len).map D)
      simp at this ⊢
      omega
    · obtain ⟨hj, rfl⟩ := hget j g hg
      have h1 := (hf j hj).2
      have h2 := hbulk j hj
      omega
end
theorem hold : Holds := fun w p k Es h hE hW => by
  obtain ⟨vg, vw, vn, vm⟩ := k
  exact holds25 w p vg vw vn vm Es h hE hW

set_option maxRecDepth 100000 in
theorem writes_lifted (os : Os) (started : os.Started) (H : Type) (enc : TypeId × Value → H) (F : Stop.Interp) :
    ReturnsInHanded {} Try.checked os 5 .any ((Rows.OpenSpec.upto Rows.codecWritesSpec).pre6 enc Try.prog Try.f5 Rows.codecWritesUptoRow.domain false) (((Rows.OpenSpec.upto Rows.codecWritesSpec).at F).post enc Try.prog Try.f5 false true false false) := by
  refine returnsInHanded_of_cond (C := Try.checked) (s := Rows.OpenSpec.upto Rows.codecWritesSpec) (k := Rows.uptoSmall) rfl own started (by kernel_rfl) Try.func5
    (OpenSpec.witness (enc := enc) (C := Try.checked) (s := Rows.OpenSpec.upto Rows.codecWritesSpec) (k := Rows.uptoSmall) rfl false ⟨#[], #[.slice none 0 0], []⟩ 8 (by kernel_rfl) (by kernel_rfl) (by kernel_rfl)
      (x := ([.nil], [], [])) (by kernel_rfl) rfl (by kernel_rfl)) ?_
  intro W base args ds gs before hval0 hW _ hk _
  have hval : ∀ (j : Nat) t v, Try.f5.params[j]? = some t → args[j]? = some v → Value.okWide Try.prog W .any base t v := hval0
  have hW' := hW
  obtain ⟨p, q, hA0, hV, rfl, hfz, hnd⟩ := hW
  have hA : DataW.TrodAll enc Try.prog W 0 (fun _ => true) true Try.f5.params.toList args.toList ds p := hA0
  rw [Try.params5] at hA hval
  obtain ⟨v0, d0, rfl, rfl, h0⟩ := trodAll_one hA
  obtain ⟨rfl, rfl⟩ := trodVars_none hV
  have k0 := h0
  have lt0 : ∀ x ∈ p, x.block < W.heap.size := by obtain ⟨m, hm⟩ := k0; exact DataW.trod_lt m _ _ _ hm
  obtain ⟨a0, l0, c0, hv0⟩ := okWide_slice Try.underlying23 (hval 0 23 v0 rfl rfl)
  obtain ⟨m0, t0⟩ := h0
  rw [hv0] at t0
  obtain ⟨ts, hts, hlen, hsz⟩ := open_putsU (v := .slice a0 l0 c0) t0
  have hk' : Rows.uptoBulkAll [d0] ≤ 1048576 := of_decide_eq_true hk
  simp only [Rows.uptoBulkAll] at hk'
  simp only at hlen hsz
  clear hA0 hval0
  rw [← hv0] at hts
  have hwalk : Calls Try.prog 5 #[v0] W fun e w' => e = .returned (.bool true) ∧ Turn no W w' := by
    have htl : ts.length ≤ 1048576 := by omega
    have hN1 : ts.length * 1048586 + 1048586 + 200 ≤ 140737488355328 := by omega
    have hN2 : ts.length ≤ 9000000 := by omega
    have hBB : ∀ x ∈ ts, x.B.length + 10 ≤ 1048586 := fun x hx => by
      obtain ⟨j, hj, rfl⟩ := List.mem_iff_getElem.1 hx
      have := hsz j _ (List.getElem?_eq_getElem hj)
      omega
    by_cases hz : ts.length = 0
    · have e0 : ts = [] := List.eq_nil_of_length_eq_zero hz
      subst e0
      obtain ⟨a, c, rfl⟩ := hts.slice
      exact writes5 hold W a c [] (fun j x hx => by simp at hx) (by simp) 1048586 (fun x hx => by simp at hx) (by rw [List.length_nil]; omega) (by rw [List.length_nil]; omega)
    · obtain ⟨b, o, cap, rfl, hlc, hat⟩ := hts.at (by omega)
      exact writes5 hold W _ cap ts (fun j x hx => ⟨b, o, rfl, hat j x hx⟩) hlc 1048586 hBB hN1 hN2
  refine hwalk.mono fun e W' ⟨he, tt⟩ => ?_
  subst he
  have bel := tt.below
  exact ⟨_, rfl, _, _, _, [], _, [], hW', trodAll_mk1 (shut_bool Try.underlying4 _), (trodAll_mk1 (Below.trod laidOut (by kernel_rfl) (of_decide_eq_true (by kernel_rfl)) k0 bel lt0)), rfl, bel.frame _, fun h => by cases h⟩

theorem writes_holds : Rows.CodecWritesUptoSaid :=
  OpenClaim.holds_of_cond 5 Try.f5 rfl rfl rfl rfl rfl rfl rfl ⟨rfl, rfl, rfl, rfl, rfl⟩ rfl rfl rfl rfl rfl (by kernel_rfl) Try.func5 (by kernel_rfl)
    (of_decide_eq_true (by kernel_rfl)) (by unfold Func.isWrapper; first | (rw [if_pos (by decide +kernel)]; kernel_rfl) | (rw [if_neg (by decide +kernel)]; exact ⟨rfl, rfl⟩))
    (fun os started H enc _ F => writes_lifted os started H enc F)
#print axioms writes_holds
end Go.Proofs.Ytfjdojodbhmmaaa
