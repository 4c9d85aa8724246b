/- CodecApart, the row up to the bound. -/
import Derived.Test.YtfjdojodbhmmaaaApartW
import Derived.Test.YtfjdojodbhmmaaaOpenG
import Derived.Deep.Slices
import Derived.Deep.Strs
import Derived.JoinedCond
namespace Go.Proofs.Ytfjdojodbhmmaaa
open Go.ChangeShapes Go.WideShapes Go.ChangeAt Go.RowKit Go.Joins Go.Deep
set_option linter.unusedVariables false

theorem cells24 : Try.prog.cellsOf 24 = 1 := by kernel_rfl
theorem cells25 : Try.prog.cellsOf 25 = 1 := by kernel_rfl
theorem cells29 : Try.prog.cellsOf 29 = 7 := by kernel_rfl

theorem bulk_one {H : Type} (d : DataW H) : 1 ≤ Rows.uptoBulk d := by
  cases d with
  | lit l => cases l <;> simp [Rows.uptoBulk]
  | nil => simp [Rows.uptoBulk]
  | ptr d => simp [Rows.uptoBulk]
  | slice elems spare => simp [Rows.uptoBulk]
  | agg parts => simp [Rows.uptoBulk]
  | iface t d => simp [Rows.uptoBulk]
  | map entries => simp [Rows.uptoBulk]
  | held h => simp [Rows.uptoBulk]

theorem bulk_length {H : Type} (l : List (DataW H)) : l.length ≤ Rows.uptoBulkAll l := by
  induction l with
  | nil => simp [Rows.uptoBulkAll]
  | cons x r ih => have := bulk_one x; simp only [Rows.uptoBulkAll, List.length_cons]; omega

theorem bulk_mem {H : Type} (l : List (DataW H)) (d : DataW H) (h : d ∈ l) : Rows.uptoBulk d ≤ Rows.uptoBulkAll l := by
  induction l with
  | nil => simp at h
  | cons x r ih =>
    simp only [Rows.uptoBulkAll]
    rcases List.mem_cons.1 h with rfl | h
    · omega
    · have := ih h; omega

/-- A list of twins, as it lies in memory. -/
def Tws (w : World) (v : Value) (ts : List (Int × Pt × Pt)) : Prop :=
  (v = .slice none 0 0 ∧ ts = []) ∨ ∃ a cap, v = .slice (some a) ts.length cap ∧ ts.length ≤ cap ∧ cap ≤ maxLen ∧ ∀ j t, ts[j]? = some t → w.cell? (a.add (j * 7)) = some (.int .i64 t.1) ∧ PtAt w (a.add (j * 7 + 1)) t.2.1 ∧ PtAt w (a.add (j * 7 + 4)) t.2.2

theorem Tws.at {w : World} {v : Value} {ts : List (Int × Pt × Pt)} (h : Tws w v ts) (hp : 0 < ts.length) :
    ∃ b off cap, v = .slice (some ⟨b, off, none⟩) ts.length cap ∧ ts.length ≤ cap ∧ ∀ j t, ts[j]? = some t → TwAt w b (off + j * 7) t := by
  rcases h with ⟨_, rfl⟩ | ⟨⟨b, off, spot⟩, cap, rfl, h1, _, h3⟩
  · simp at hp
  · have hs : spot = none := by
      have := World.cell?_spot (h3 0 ts[0] (by simp [hp])).1
      simpa [Addr.add] using this
    subst hs
    refine ⟨b, off, cap, rfl, h1, fun j g hg => ?_⟩
    have := h3 j g hg
    rw [Addr.add_lit, Addr.add_lit, Addr.add_lit] at this
    exact ⟨this.1, by simpa [Nat.add_assoc] using this.2.1, by simpa [Nat.add_assoc] using this.2.2⟩

section
variable {H : Type} {enc : TypeId × Value → H} {w : World} {base : Nat} {spare : Nat → Bool} {held : Bool}

theorem seven {a : Addr} {cs : List Value} (h : w.cells? base a 7 = some cs) : ∃ x0 x1 x2 x3 x4 x5 x6, cs = [x0, x1, x2, x3, x4, x5, x6] ∧ w.cell? (a.add 0) = some x0 ∧ w.cell? (a.add 1) = some x1 ∧ w.cell? (a.add 2) = some x2 ∧ w.cell? (a.add 3) = some x3 ∧ w.cell? (a.add 4) = some x4 ∧ w.cell? (a.add 5) = some x5 ∧ w.cell? (a.add 6) = some x6 := by
  obtain ⟨_, hl, hc⟩ := World.cells?_some h
  match cs, hl with
  | [x0, x1, x2, x3, x4, x5, x6], _ => exact ⟨x0, x1, x2, x3, x4, x5, x6, rfl, hc 0 (by omega), hc 1 (by omega), hc 2 (by omega), hc 3 (by omega), hc 4 (by omega), hc 5 (by omega), hc 6 (by omega)⟩

theorem open_put {n : Nat} {x y z : Value} {d : DataW H × List MemPlace} (h : DataW.trod enc Try.prog w base spare held n 27 [x, y, z] = some d) :
    ∃ p : Pt, x = .int .i64 p.k ∧ y = .int .u64 p.n ∧ z = p.vb ∧ p.n < 18446744073709551616 ∧ Bs w p.vb p.B ∧ p.B.length ≤ Rows.uptoBulk d.1 := by
  obtain ⟨y0, y1, y2, k, hD, _, t0, t1, t2⟩ := trod_struct3 Try.underlying27 h
  simp [Try.cells3, cells24, cells25] at t0 t1 t2
  obtain ⟨k0, e0, _, w0⟩ := DataW.trod_int Try.underlying3 t0
  obtain ⟨k1, e1, _, w1⟩ := DataW.trod_int Try.underlying24 t1
  obtain ⟨bs, hb, hw⟩ := open_bytes t2
  simp at e0 e1
  subst e0 e1
  have b1 := bounds_u64 w1
  obtain ⟨nn, rfl⟩ := Int.eq_ofNat_of_zero_le b1.1
  refine ⟨⟨k0, nn, z, bs⟩, rfl, rfl, rfl, by show nn < _; omega, hb, ?_⟩
  rw [hD]
  simp only [Rows.uptoBulk, Rows.uptoBulkAll]
  rcases hw with ⟨e, rfl⟩ | ⟨es, sp, e, hl⟩
  · simp
  · rw [e]
    have := bulk_length es
    simp only [Rows.uptoBulk]
    omega

theorem open_twins {n : Nat} {v : Value} {y : DataW H × List MemPlace} (h : DataW.trod enc Try.prog w base spare held n 22 [v] = some y) :
    ∃ ts : List (Int × Pt × Pt), Tws w v ts ∧ ts.length ≤ Rows.uptoBulk y.1 ∧ ∀ (j : Nat) (t : Int × Pt × Pt), ts[j]? = some t → t.2.1.B.length ≤ Rows.uptoBulk y.1 ∧ t.2.2.B.length ≤ Rows.uptoBulk y.1 := by
  rcases open_slice Try.underlying22 h with ⟨hcs, _⟩ | ⟨a, len, cap, m, n', D, Pl, hcs, _, hl, hm, hmm, hx, hel⟩
  · simp at hcs
    exact ⟨[], Or.inl ⟨hcs, rfl⟩, Nat.zero_le _, fun j t q => by simp at q⟩
  · simp at hcs
    have hlm : len ≤ m := by rw [hmm]; split <;> omega
    have hex : ∀ i, i < len → ∃ t : Int × Pt × Pt, (w.cell? (a.add (i * 7)) = some (.int .i64 t.1) ∧ PtAt w (a.add (i * 7 + 1)) t.2.1 ∧ PtAt w (a.add (i * 7 + 4)) t.2.2) ∧ t.2.1.B.length ≤ Rows.uptoBulk (D i) ∧ t.2.2.B.length ≤ Rows.uptoBulk (D i) := by
      intro i hi
      obtain ⟨cs', h1, h2⟩ := hel i (by omega)
      rw [cells29] at h1
      obtain ⟨x0, x1, x2, x3, x4, x5, x6, rfl, c0, c1, c2, c3, c4, c5, c6⟩ := seven h1
      obtain ⟨y0, y1, y2, k, hD, _, t0, t1, t2⟩ := trod_struct3 Try.underlying29 h2
      simp [Try.cells3, Try.cells27] at t0 t1 t2
      obtain ⟨k0, e0, _, w0⟩ := DataW.trod_int Try.underlying3 t0
      obtain ⟨P, rfl, rfl, rfl, p1, p2, p3⟩ := open_put t1
      obtain ⟨Q, rfl, rfl, rfl, q1, q2, q3⟩ := open_put t2
      simp at e0
      subst e0
      rw [add3] at c0 c1 c2 c3 c4 c5 c6
      simp only [Prod.mk.injEq] at hD
      refine ⟨(k0, P, Q), ⟨by simpa using c0, ⟨c1, by rw [add3]; simpa [Nat.add_assoc] using c2, by rw [add3]; simpa [Nat.add_assoc] using c3, p1, p2⟩, ⟨c4, by rw [add3]; simpa [Nat.add_assoc] using c5, by rw [add3]; simpa [Nat.add_assoc] using c6, q1, q2⟩⟩, ?_, ?_⟩
      · rw [hD.1]; simp only [Rows.uptoBulk, Rows.uptoBulkAll]; omega
      · rw [hD.1]; simp only [Rows.uptoBulk, Rows.uptoBulkAll]; omega
    have inst : Inhabited (Int × Pt × Pt) := ⟨(0, ⟨0, 0, .slice none 0 0, []⟩, ⟨0, 0, .slice none 0 0, []⟩)⟩
    obtain ⟨f, hf⟩ := choose_lt hex
    have hbulk : ∀ i, i < len → Rows.uptoBulk (D i) ≤ Rows.uptoBulk y.1 := by
      intro i hi
      rw [hx]
      simp only [Rows.uptoBulk]
      have := bulk_mem ((List.range len).map D) (D i) (List.mem_map.2 ⟨i, by simpa using hi, rfl⟩)
      omega
    have hget : ∀ j t, ((List.range len).map f)[j]? = some t → j < len ∧ f j = t := by
      intro j t hg
      rw [List.getElem?_map] at hg
      by_cases hj : j < len
      · rw [List.getElem?_range hj] at hg
        simp at hg
        exact ⟨hj, hg⟩
      · rw [List.getElem?_eq_none (by simpa using hj)] at hg
        cases hg
    refine ⟨(List.range len).map f, Or.inr ⟨a, cap, by rw [hcs]; simp, by simpa using hl, hm, fun j g hg => ?_⟩, ?_, fun j g hg => ?_⟩
    · obtain ⟨hj, rfl⟩ := hget j g hg
      exact (hf j hj).1
    · rw [hx]
      simp only [Rows.uptoBulk]
      have := bulk_length ((List.range len).map D)
      simp at this ⊢
      omega
    · obtain ⟨hj, rfl⟩ := hget j g hg
      have h1 := (hf j hj).2
      have h2 := hbulk j hj
      omega
end

set_option maxRecDepth 100000 in
theorem apart_lifted (os : Os) (started : os.Started) (H : Type) (enc : TypeId × Value → H) (F : Stop.Interp) :
    ReturnsInHanded {} Try.checked os 3 .any ((Rows.OpenSpec.upto Rows.codecApartSpec).pre6 enc Try.prog Try.f3 Rows.codecApartUptoRow.domain false) (((Rows.OpenSpec.upto Rows.codecApartSpec).at F).post enc Try.prog Try.f3 false true false false) := by
  refine returnsInHanded_of_cond (C := Try.checked) (s := Rows.OpenSpec.upto Rows.codecApartSpec) (k := Rows.uptoSmall) rfl own started (by kernel_rfl) Try.func3
    (OpenSpec.witness (enc := enc) (C := Try.checked) (s := Rows.OpenSpec.upto Rows.codecApartSpec) (k := Rows.uptoSmall) rfl false ⟨#[], #[.slice none 0 0], []⟩ 8 (by kernel_rfl) (by kernel_rfl) (by kernel_rfl)
      (x := ([.nil], [], [])) (by kernel_rfl) rfl (by kernel_rfl)) ?_
  intro W base args ds gs before hval0 hW _ hk _
  have hval : ∀ (j : Nat) t v, Try.f3.params[j]? = some t → args[j]? = some v → Value.okWide Try.prog W .any base t v := hval0
  have hW' := hW
  obtain ⟨p, q, hA0, hV, rfl, hfz, hnd⟩ := hW
  have hA : DataW.TrodAll enc Try.prog W 0 (fun _ => true) true Try.f3.params.toList args.toList ds p := hA0
  rw [Try.params3] at hA hval
  obtain ⟨v0, d0, rfl, rfl, h0⟩ := trodAll_one hA
  obtain ⟨rfl, rfl⟩ := trodVars_none hV
  have k0 := h0
  have lt0 : ∀ x ∈ p, x.block < W.heap.size := by obtain ⟨m, hm⟩ := k0; exact DataW.trod_lt m _ _ _ hm
  obtain ⟨a0, l0, c0, hv0⟩ := okWide_slice Try.underlying22 (hval 0 22 v0 rfl rfl)
  obtain ⟨m0, t0⟩ := h0
  rw [hv0] at t0
  obtain ⟨ts, hts, hlen, hsz⟩ := open_twins (v := .slice a0 l0 c0) t0
  have hk' : Rows.uptoBulkAll [d0] ≤ 1048576 := of_decide_eq_true hk
  simp only [Rows.uptoBulkAll] at hk'
  simp only at hlen hsz
  clear hA0 hval0
  rw [← hv0] at hts
  have hwalk : Calls Try.prog 3 #[v0] W fun e w' => e = .returned (.bool true) ∧ Turn no W w' := by
    by_cases hz : ts.length = 0
    · obtain ⟨a, c, rfl⟩ : ∃ a c, v0 = .slice a 0 c := by
        rcases hts with ⟨rfl, _⟩ | ⟨a, c, rfl, _⟩
        · exact ⟨none, 0, rfl⟩
        · exact ⟨some a, c, by rw [hz]⟩
      exact apart_none W a c
    · obtain ⟨b, o, cap, rfl, hlc, hat⟩ := hts.at (by omega)
      exact apart_walk W b o cap ts (by omega) hlc hat (fun j t q => by have := hsz j t q; omega) hz
  refine hwalk.mono fun e W' ⟨he, tt⟩ => ?_
  subst he
  have bel := tt.below
  exact ⟨_, rfl, _, _, _, [], _, [], hW', trodAll_mk1 (shut_bool Try.underlying4 _), (trodAll_mk1 (Below.trod laidOut (by kernel_rfl) (of_decide_eq_true (by kernel_rfl)) k0 bel lt0)), rfl, bel.frame _, fun h => by cases h⟩

theorem apart_holds : Rows.CodecApartUptoSaid :=
  OpenClaim.holds_of_cond 3 Try.f3 rfl rfl rfl rfl rfl rfl rfl ⟨rfl, rfl, rfl, rfl, rfl⟩ rfl rfl rfl rfl rfl (by kernel_rfl) Try.func3 (by kernel_rfl)
    (of_decide_eq_true (by kernel_rfl)) (by unfold Func.isWrapper; first | (rw [if_pos (by decide +kernel)]; kernel_rfl) | (rw [if_neg (by decide +kernel)]; exact ⟨rfl, rfl⟩))
    (fun os started H enc _ F => apart_lifted os started H enc F)
#print axioms apart_holds
end Go.Proofs.Ytfjdojodbhmmaaa
