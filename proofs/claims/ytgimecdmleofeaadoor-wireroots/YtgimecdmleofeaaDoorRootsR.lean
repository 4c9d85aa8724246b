/- WireRoots: the row and its card. -/
import Derived.Test.YtgimecdmleofeaaDoorZf
import Derived.Test.YtgimecdmleofeaaDoorCards
import Derived.Test.YtgimecdmleofeaaDoorTie
import Derived.ProofKit
import Derived.OpenShut
import Derived.ShutString
import Derived.ChangeOld
import Derived.SizedLaws
import Derived.Lib.SmallJoins
import Derived.Deep.Slices
import Derived.Carry
namespace Go.Proofs.YtgimecdmleofeaaDoor
open Go.ChangeShapes Go.WideShapes Go.ChangeAt Go.RowKit Go.Joins Go.Deep
set_option linter.unusedVariables false

set_option maxRecDepth 100000 in
set_option maxHeartbeats 4000000 in
theorem roots_lifted (os : Os) (started : os.Started) (H : Type) (enc : TypeId × Value → H) :
    ReturnsInHanded {} Tryd.checked os 4 .any (fun w args => (Rows.wireRootsSpec.pre enc Tryd.prog Tryd.f4 [] false w args ∧ laidMetH Tryd.prog laidB w) ∧ sizedMet enc Tryd.prog Tryd.f4 (OpenSpec.ofChange Rows.wireRootsSpec) false w args)
      (Rows.wireRootsSpec.post enc Tryd.prog Tryd.f4 false true false false) := by
  refine returnsInHanded_of_change_and (C := Tryd.checked) (X := fun w _ => laidMetH Tryd.prog laidB w) (fun _ _ _ hh h => h.of_heap hh) own started (by kernel_rfl) Tryd.func4
    (ChangeSpec.witness_shaped (enc := enc) (C := Tryd.checked) (os := os) (X := fun w _ => laidMetH Tryd.prog laidB w) false (World.doorLaid Tryd.prog 4000 os) #[.agg Z49] 8 rfl (World.shaped_of_RefB (by kernel_rfl) (by kernel_rfl)) (by kernel_rfl) (by kernel_rfl) (by kernel_rfl) (doorB os _)) ?_
  intro W base args ds gs before hval0 hW hcnd hsz hL hx
  have hval : ∀ (j : Nat) t v, Tryd.f4.params[j]? = some t → args[j]? = some v → Value.okWide Tryd.prog W .any base t v := hval0
  have hW' := hW
  obtain ⟨p, q, hA0, hV, rfl, hfz, hnd⟩ := hW
  have hA : DataW.TrodAll enc Tryd.prog W 0 (fun _ => true) true Tryd.f4.params.toList args.toList ds p := hA0
  rw [Tryd.params4] at hA hval hsz
  obtain ⟨v0, d0, rfl, rfl, h0⟩ := trodAll_one hA
  obtain ⟨rfl, rfl⟩ := trodVars_none hV
  have k0 := h0
  have lt0 : ∀ x ∈ p, x.block < W.heap.size := by obtain ⟨m, hm⟩ := k0; exact DataW.trod_lt m _ _ _ hm
  obtain ⟨cs0, rfl, _, _⟩ : ∃ cs, v0 = .agg cs ∧ cs.size = Tryd.prog.cellsOf 49 ∧ Row.okWide Tryd.prog W .any base 49 cs := by
    have := hval 0 49 v0 rfl rfl
    simpa [Value.okWide, Tryd.underlying49] using this
  obtain ⟨m0, t0⟩ := h0
  obtain ⟨x, ts, a1, c1, es, a2, c2, hh, r, id, ms, a3, c3, hxo, o1, o2, o3, hid, e0, T1, T2, T3, d1, d2, d3, d4, hd, q1, q2, q3⟩ := open_bk (L := cs0.toList) t0
  have hd' : d0 = .agg [d1, d2, d3, d4] := hd
  subst hd'
  obtain ⟨z1, z2, z3⟩ := bk_sized (n1 := ts.length) (n2 := es.length) (n3 := ms.length) hsz (j := 0) rfl rfl (q1.imp (fun h => by rw [h]; rfl) (fun h => h)) (q2.imp (fun h => by rw [h]; rfl) (fun h => h)) (q3.imp (fun h => by rw [h]; rfl) (fun h => h))
  obtain ⟨l0', l1'⟩ := of_laidB hL
  have hwalk := roots4 W l0' l1' l1'.two x.cs (x.len hxo) x.oneL (fun w => eq31 w 9997 x hxo) hh r id hid a1 c1 (ts.map elT) T1 (by rw [List.length_map]; omega) (good1 ts o1) a2 c2 (es.map elV) T2 (by rw [List.length_map]; omega) (good2 es o2) a3 c3 (ms.map elM) T3 (by rw [List.length_map]; omega) (good3 ms o3)
  rw [List.length_map, List.length_map, List.length_map, ← e0] at hwalk
  clear hA0 hval0
  refine hwalk.mono fun e W' ⟨he, tt⟩ => ?_
  subst he
  have bel := tt.below
  exact ⟨_, rfl, _, _, _, [], _, [], hW', trodAll_mk1 (shut_bool Tryd.underlying4 _), (trodAll_mk1 (Below.trod laidOut (by kernel_rfl) (of_decide_eq_true (by kernel_rfl)) k0 bel lt0)), rfl, bel.frame _, fun h => by cases h⟩

theorem roots_holds : Rows.WireRootsSaid :=
  OpenClaim.holds_of_wide 4 Tryd.f4 rfl rfl rfl rfl rfl rfl rfl ⟨rfl, rfl, rfl, rfl, rfl⟩ rfl rfl rfl rfl rfl (by kernel_rfl) Tryd.func4 (by kernel_rfl)
    (of_decide_eq_true (by kernel_rfl)) (by unfold Func.isWrapper; first | (rw [if_pos (by decide +kernel)]; kernel_rfl) | (rw [if_neg (by decide +kernel)]; exact ⟨rfl, rfl⟩))
    (fun os started H enc _ => roots_lifted os started H enc)

theorem roots_card : Rows.WireRootsCardSaid :=
  Claim7.holds_tied_plain_at .later [] [.data, .data] true (true, "e647e58a2a893e44d45c4b24d4740b72ba932e77727ee4746f7b43c8b1dfeed0") false
    roots_holds (fun _ h => by cases h) (by kernel_rfl) (fun _ h => by cases h) wireRoots_row_tie rfl ⟨rfl, rfl⟩ (by kernel_rfl) rfl
    (fun f fn hf hfn => by
      obtain rfl : f = 4 := Option.some.inj ((show Tryd.prog.funcNamed "assent/assentlaw04.WireRoots" = some 4 by kernel_rfl).symm.trans hf) |>.symm
      obtain rfl : fn = Tryd.f4 := (Option.some.inj (Tryd.func4.symm.trans hfn)).symm
      exact ⟨by kernel_rfl, fun j t ht => by
        rw [Tryd.params4] at ht
        have hm : t ∈ [49] := by simpa using Array.mem_of_getElem? ht
        have hall : ([49].all fun u => !Tryd.prog.wantsStandIn u) = true := by kernel_rfl
        exact (show Tryd.prog.wantsStandIn t = false by simpa using List.all_eq_true.1 hall t hm)⟩)
    (by kernel_rfl)
#print axioms roots_card
end Go.Proofs.YtgimecdmleofeaaDoor
