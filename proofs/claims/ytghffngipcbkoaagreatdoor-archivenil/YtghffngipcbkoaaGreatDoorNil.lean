/- ArchiveNil: the row and its card. -/
import Derived.Test.YtghffngipcbkoaaGreatDoorA4
import Derived.Test.YtghffngipcbkoaaGreatDoorCards
import Derived.Test.YtghffngipcbkoaaGreatDoorTie
import Derived.Test.YtghffngipcbkoaaGreatDoorF0
import Derived.ProofKit
import Derived.LaidMore
import Derived.OpenShut
import Derived.Stop.Joined
import Derived.ChangeOld
import Derived.SizedLaws
import Derived.Lib.SmallJoins
import Derived.Carry
namespace Go.Proofs.YtghffngipcbkoaaGreatDoor
open Go.ChangeShapes Go.WideShapes Go.ChangeAt Go.RowKit Go.Joins
set_option linter.unusedVariables false

theorem own : ownKnob Tryz.prog.godebug = none := by kernel_rfl
theorem laidOut : laidOutB Tryz.prog = true := by kernel_rfl
def laidA : List (String × DataW Unit) := [("math/bits.deBruijn32tab", Rows.laid_math_bits_deBruijn32tab), ("math/bits.deBruijn64tab", Rows.laid_math_bits_deBruijn64tab), ("assent/digest.roundWords", Rows.laid_assent_digest_roundWords), ("internal/strconv.uint64pow10", Rows.laid_internal_strconv_uint64pow10), ("errors.errorType", Rows.laid_errors_errorType), ("strconv.ErrRange", Rows.laid_strconv_ErrRange), ("strconv.ErrSyntax", Rows.laid_strconv_ErrSyntax)]
theorem doorA (os : Os) (args : Array Value) : laidMetH Tryz.prog laidA ((World.doorLaid Tryz.prog 4000 os).forCall (fun _ _ => 0) ⟨#[], args, []⟩).memory :=
  laidMetH_of_parts3 (fuel := 8) (laidMet_of_run' 8 (by kernel_rfl) (by kernel_rfl)) (by kernel_rfl) (by kernel_rfl)
theorem info_cells {t n : Nat} (h : Tryz.prog.cellsOf t = n) (hs : (Tryz.prog.info? t).isSome = true) : (Tryz.prog.info? t).map (·.size) = some n := by
  obtain ⟨i, hi⟩ := Option.isSome_iff_exists.1 hs
  rw [hi]
  simp [Program.cellsOf, hi] at h
  simp [h]
theorem cut1 {L : List Value} {o : Nat} {v : Value} (h : (L.drop o).take 1 = [v]) : L[o]? = some v := by
  have := congrArg (·[0]?) h
  simpa [List.getElem?_take, List.getElem?_drop] using this
theorem cells22 : Tryz.prog.cellsOf 22 = 1 := by kernel_rfl
theorem cells27 : Tryz.prog.cellsOf 27 = 228 := by kernel_rfl
section
variable {H : Type} {enc : TypeId × Value → H} {w : World} {base : Nat} {spare : Nat → Bool} {held : Bool}
theorem open_height {n : Nat} {L : List Value} {y : DataW H × List MemPlace} (h : DataW.trod enc Tryz.prog w base spare held n 34 L = some y) : ∃ k, L[1]? = some (.int .u64 k) := by
  obtain ⟨xs, m, _, _, hlen, hn, hel⟩ := DataW.trod_struct Tryz.underlying34 h
  have hn4 : xs.length = 4 := hn
  obtain ⟨x0, e0⟩ : ∃ x, xs[0]? = some x := ⟨xs[0]'(by omega), List.getElem?_eq_getElem _⟩
  have h0 : DataW.trod enc Tryz.prog w base spare held m 27 ((L.drop 0).take (Tryz.prog.cellsOf 27)) = some x0 := (hel 0 _ rfl).trans e0
  rw [cells27] at h0
  obtain ⟨ys, m', _, _, hlen', hn', hel'⟩ := DataW.trod_struct Tryz.underlying27 h0
  have hn11 : ys.length = 11 := hn'
  obtain ⟨y1, e1⟩ : ∃ x, ys[1]? = some x := ⟨ys[1]'(by omega), List.getElem?_eq_getElem _⟩
  have h1 : DataW.trod enc Tryz.prog w base spare held m' 22 ((((L.drop 0).take 228).drop 1).take (Tryz.prog.cellsOf 22)) = some y1 := (hel' 1 _ rfl).trans e1
  rw [cells22] at h1
  obtain ⟨k, c, _, _⟩ := DataW.trod_int Tryz.underlying22 h1
  have d := cut1 c
  refine ⟨k, ?_⟩
  rw [List.getElem?_take, if_pos (by omega)] at d
  simpa using d
end

set_option maxRecDepth 100000 in
set_option maxHeartbeats 0 in
theorem nil_lifted (os : Os) (started : os.Started) (H : Type) (enc : TypeId × Value → H) :
    ReturnsInHanded {} Tryz.checked os 3 .any (fun w args => (Rows.archiveNilSpec.pre enc Tryz.prog Tryz.f3 [] false w args ∧ laidMetH Tryz.prog laidA w) ∧ sizedMet enc Tryz.prog Tryz.f3 (OpenSpec.ofChange Rows.archiveNilSpec) false w args)
      (Rows.archiveNilSpec.post enc Tryz.prog Tryz.f3 false true false false) := by
  refine returnsInHanded_of_change_and (C := Tryz.checked) (X := fun w _ => laidMetH Tryz.prog laidA w) (fun _ _ _ hh h => h.of_heap hh) own started (by kernel_rfl) Tryz.func3
    (ChangeSpec.witness_shaped (enc := enc) (C := Tryz.checked) (os := os) (X := fun w _ => laidMetH Tryz.prog laidA w) false (World.doorLaid Tryz.prog 4000 os) #[.agg Tryz.zeroCells34, .agg Z32, .agg Z47] 8 rfl (World.shaped_of_RefB (by kernel_rfl) (by kernel_rfl)) (by kernel_rfl) (by kernel_rfl) (by kernel_rfl) (doorA os _)) ?_
  intro W base args ds gs before hval0 hW hcnd hsz hL hx
  have hval : ∀ (j : Nat) t v, Tryz.f3.params[j]? = some t → args[j]? = some v → Value.okWide Tryz.prog W .any base t v := hval0
  have hW' := hW
  obtain ⟨p, q, hA0, hV, rfl, hfz, hnd⟩ := hW
  have hA : DataW.TrodAll enc Tryz.prog W 0 (fun _ => true) true Tryz.f3.params.toList args.toList ds p := hA0
  rw [Tryz.params3] at hA hval
  obtain ⟨v0, v1, v2, d0, d1, d2, p0, p1, p2, rfl, rfl, rfl, h0, h1, h2⟩ := trodAll_three hA
  obtain ⟨rfl, rfl⟩ := trodVars_none hV
  have k0 := h0
  have k1 := h1
  have k2 := h2
  have lt0 : ∀ x ∈ p0, x.block < W.heap.size := by obtain ⟨m, hm⟩ := k0; exact DataW.trod_lt m _ _ _ hm
  have lt1 : ∀ x ∈ p1, x.block < W.heap.size := by obtain ⟨m, hm⟩ := k1; exact DataW.trod_lt m _ _ _ hm
  have lt2 : ∀ x ∈ p2, x.block < W.heap.size := by obtain ⟨m, hm⟩ := k2; exact DataW.trod_lt m _ _ _ hm
  obtain ⟨c0, rfl, hz0, _⟩ : ∃ cs, v0 = .agg cs ∧ cs.size = Tryz.prog.cellsOf 34 ∧ Row.okWide Tryz.prog W .any base 34 cs := by
    have := hval 0 34 v0 rfl rfl
    simpa [Value.okWide, Tryz.underlying34] using this
  obtain ⟨c1, rfl, hz1, _⟩ : ∃ cs, v1 = .agg cs ∧ cs.size = Tryz.prog.cellsOf 32 ∧ Row.okWide Tryz.prog W .any base 32 cs := by
    have := hval 1 32 v1 rfl rfl
    simpa [Value.okWide, Tryz.underlying32] using this
  obtain ⟨c2, rfl, hz2, _⟩ : ∃ cs, v2 = .agg cs ∧ cs.size = Tryz.prog.cellsOf 47 ∧ Row.okWide Tryz.prog W .any base 47 cs := by
    have := hval 2 47 v2 rfl rfl
    simpa [Value.okWide, Tryz.underlying47] using this
  obtain ⟨m0, t0⟩ := h0
  obtain ⟨k, hk⟩ := open_height (L := c0.toList) t0
  have hwalk := nil3 W c0 c1 c2 k (by simpa using hk) (info_cells hz0.symm (by kernel_rfl)) (info_cells hz1.symm (by kernel_rfl)) (info_cells hz2.symm (by kernel_rfl))
  clear hA0 hval0
  refine hwalk.mono fun e W' ⟨he, tt⟩ => ?_
  subst he
  have bel := tt.below
  exact ⟨_, rfl, _, _, _, [], _, [], hW', trodAll_mk1 (shut_bool Tryz.underlying4 _), (trodAll_mk3 (Below.trod laidOut (by kernel_rfl) (of_decide_eq_true (by kernel_rfl)) k0 bel lt0) (Below.trod laidOut (by kernel_rfl) (of_decide_eq_true (by kernel_rfl)) k1 bel lt1) (Below.trod laidOut (by kernel_rfl) (of_decide_eq_true (by kernel_rfl)) k2 bel lt2)), rfl, bel.frame _, fun h => by cases h⟩

set_option maxHeartbeats 0 in
theorem nil_holds : Rows.ArchiveNilSaid :=
  OpenClaim.holds_of_wide 3 Tryz.f3 rfl rfl rfl rfl rfl rfl rfl ⟨rfl, rfl, rfl, rfl, rfl⟩ rfl rfl rfl rfl rfl (by as_aux_lemma => kernel_rfl) Tryz.func3 facts
    (of_decide_eq_true (by as_aux_lemma => kernel_rfl)) (by unfold Func.isWrapper; first | (rw [if_pos (by decide +kernel)]; kernel_rfl) | (rw [if_neg (by decide +kernel)]; exact ⟨rfl, rfl⟩))
    (fun os started H enc _ => nil_lifted os started H enc)

set_option maxHeartbeats 0 in
theorem nil_card : Rows.ArchiveNilCardSaid :=
  Claim7.holds_tied_plain_at .later [] [.data, .data, .data, .data, .handle, .sentinel, .sentinel] true (true, "315ec3fd7046959c0aa10f212f4dbc1a049345b0f1a3c9120733e71d53ea5bf6") true
    nil_holds (fun _ h => by cases h) (by as_aux_lemma => kernel_rfl) (fun _ h => by cases h) archiveNil_row_tie rfl ⟨rfl, rfl⟩ (by as_aux_lemma => kernel_rfl) rfl
    (fun f fn hf hfn => by
      obtain rfl : f = 3 := Option.some.inj ((show Tryz.prog.funcNamed "assent/assentlaw13.ArchiveNil" = some 3 by as_aux_lemma => kernel_rfl).symm.trans hf) |>.symm
      obtain rfl : fn = Tryz.f3 := (Option.some.inj (Tryz.func3.symm.trans hfn)).symm
      exact ⟨by as_aux_lemma => kernel_rfl, fun j t ht => by
        rw [Tryz.params3] at ht
        have hm : t ∈ [34, 32, 47] := by simpa using Array.mem_of_getElem? ht
        have hall : ([34, 32, 47].all fun u => !Tryz.prog.wantsStandIn u) = true := by as_aux_lemma => kernel_rfl
        exact (show Tryz.prog.wantsStandIn t = false by simpa using List.all_eq_true.1 hall t hm)⟩)
    (by as_aux_lemma => kernel_rfl)
#print axioms nil_card
end Go.Proofs.YtghffngipcbkoaaGreatDoor
