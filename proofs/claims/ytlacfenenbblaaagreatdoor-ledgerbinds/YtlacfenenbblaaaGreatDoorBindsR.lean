/- LedgerBinds: the row and its card. -/
import Derived.Test.YtlacfenenbblaaaGreatDoorOpL
import Derived.Test.YtlacfenenbblaaaGreatDoorOpW
import Derived.Test.YtlacfenenbblaaaGreatDoorB4
import Derived.Test.YtlacfenenbblaaaGreatDoorLaid
import Derived.Test.YtlacfenenbblaaaGreatDoorCards
import Derived.Test.YtlacfenenbblaaaGreatDoorTie
import Derived.ProofKit
import Derived.OpenShut
import Derived.ShutString
import Derived.ChangeOld
import Derived.SizedLaws
import Derived.Lib.SmallJoins
import Derived.Deep.Slices
import Derived.Carry
namespace Go.Proofs.YtlacfenenbblaaaGreatDoor
open Go.ChangeShapes Go.WideShapes Go.ChangeAt Go.RowKit Go.Joins Go.Deep
set_option linter.unusedVariables false

theorem binds3 (w : World) (l0 : Laid0 w) (l1 : Laid1 w) (h2 : 2 ≤ w.heap.size) (va vr : Value) (l : List Ac) (r : List Rl) (ha : As w va l) (hr : Rs w vr r) (b s x : Nat) (hb : b < 18446744073709551616) (hs : s < 18446744073709551616) (R : List UInt8) (hR : R.length = 32) (v1 v2 : Value) (L : List Ac) (Q : List Pf) (hL : As w v1 L) (hQ : Qs w v2 Q) :
    Calls Tryz.prog 3 #[.agg (ldA va vr b s), .int .u64 x, .agg (wtL R v1 v2).toArray] w fun e w' => e = .returned (.bool true) ∧ Turn no w w' := by
  by_cases he : ledE b l r s = 0
  · by_cases hv : (vA (lrH b s l r) R x L Q).2.2 = 0
    · exact binds3_let w l0 l1 h2 va vr l r ha hr b s x hb hs R hR v1 v2 L Q hL hQ he hv
    · exact binds3_not w l0 l1 h2 va vr l r ha hr b s x hb hs R hR v1 v2 L Q hL hQ he hv
  · exact binds3_bad w l0 l1 h2 va vr l r ha hr b s x hb hs R hR v1 v2 L Q hL hQ he
set_option maxRecDepth 100000 in
set_option maxHeartbeats 4000000 in
theorem binds_lifted (os : Os) (started : os.Started) (H : Type) (enc : TypeId × Value → H) :
    ReturnsInHanded {} Tryz.checked os 3 .any (fun w args => (Rows.ledgerBindsSpec.pre enc Tryz.prog Tryz.f3 [] false w args ∧ laidMetH Tryz.prog laidB w) ∧ sizedMet enc Tryz.prog Tryz.f3 (OpenSpec.ofChange Rows.ledgerBindsSpec) false w args)
      (Rows.ledgerBindsSpec.post enc Tryz.prog Tryz.f3 false true false false) := by
  refine returnsInHanded_of_change_and (C := Tryz.checked) (X := fun w _ => laidMetH Tryz.prog laidB w) (fun _ _ _ hh h => h.of_heap hh) own started (by kernel_rfl) Tryz.func3
    (ChangeSpec.witness_shaped (enc := enc) (C := Tryz.checked) (os := os) (X := fun w _ => laidMetH Tryz.prog laidB w) false (World.doorLaid Tryz.prog 4000 os) #[.agg #[.slice none 0 0, .slice none 0 0, .int .u64 0, .int .u64 0], .int .u64 0, .agg #[.int .u8 0, .int .u8 0, .int .u8 0, .int .u8 0, .int .u8 0, .int .u8 0, .int .u8 0, .int .u8 0, .int .u8 0, .int .u8 0, .int .u8 0, .int .u8 0, .int .u8 0, .int .u8 0, .int .u8 0, .int .u8 0, .int .u8 0, .int .u8 0, .int .u8 0, .int .u8 0, .int .u8 0, .int .u8 0, .int .u8 0, .int .u8 0, .int .u8 0, .int .u8 0, .int .u8 0, .int .u8 0, .int .u8 0, .int .u8 0, .int .u8 0, .int .u8 0, .slice none 0 0, .slice none 0 0]] 8 rfl (World.shaped_of_RefB (by kernel_rfl) (by kernel_rfl)) (by kernel_rfl) (by kernel_rfl) (by kernel_rfl) (doorB os _)) ?_
  intro W base args ds gs before hval0 hW hcnd hsz hL hx
  have hval : ∀ (j : Nat) t v, Tryz.f3.params[j]? = some t → args[j]? = some v → Value.okWide Tryz.prog W .any base t v := hval0
  have hW' := hW
  obtain ⟨p, q, hA0, hV, rfl, hfz, hnd⟩ := hW
  have hA : DataW.TrodAll enc Tryz.prog W 0 (fun _ => true) true Tryz.f3.params.toList args.toList ds p := hA0
  rw [Tryz.params3] at hA hval hsz
  obtain ⟨v0, v1, v2, d0, d1, d2, p0, p1, p2, rfl, rfl, rfl, h0, h1, h2⟩ := trodAll_three hA
  obtain ⟨rfl, rfl⟩ := trodVars_none hV
  have k0 := h0
  have k1 := h1
  have k2 := h2
  have lt0 : ∀ x ∈ p0, x.block < W.heap.size := by obtain ⟨m, hm⟩ := k0; exact DataW.trod_lt m _ _ _ hm
  have lt1 : ∀ x ∈ p1, x.block < W.heap.size := by obtain ⟨m, hm⟩ := k1; exact DataW.trod_lt m _ _ _ hm
  have lt2 : ∀ x ∈ p2, x.block < W.heap.size := by obtain ⟨m, hm⟩ := k2; exact DataW.trod_lt m _ _ _ hm
  obtain ⟨ls, rfl, _, _⟩ : ∃ cs, v0 = .agg cs ∧ cs.size = Tryz.prog.cellsOf 26 ∧ Row.okWide Tryz.prog W .any base 26 cs := by
    have := hval 0 26 v0 rfl rfl
    simpa [Value.okWide, Tryz.underlying26] using this
  obtain ⟨zz, rfl⟩ := okWide_int Tryz.underlying27 (hval 1 27 v1 rfl rfl)
  obtain ⟨cs2, rfl, _, _⟩ : ∃ cs, v2 = .agg cs ∧ cs.size = Tryz.prog.cellsOf 32 ∧ Row.okWide Tryz.prog W .any base 32 cs := by
    have := hval 2 32 v2 rfl rfl
    simpa [Value.okWide, Tryz.underlying32] using this
  obtain ⟨m0, t0⟩ := h0
  obtain ⟨m1, t1⟩ := h1
  obtain ⟨m2, t2⟩ := h2
  obtain ⟨va, vr, l, r, b, s, hls, hAs, hRs, hb, hs, x0, x1, x2, x3, hd, hwa, hwr⟩ := open_led (L := ls.toList) t0
  obtain ⟨z, hz, _, wz⟩ := DataW.trod_int Tryz.underlying27 t1
  obtain ⟨x, rfl, hx⟩ := u64_of wz
  obtain ⟨R, w1, w2, L, Q, hR, e2, hLs, hQs⟩ := Wit.open_wt (L := cs2.toList) t2
  have hv1 : zz = (x : Int) := by
    have e : ([Value.int .u64 zz] : List Value) = [.int .u64 x] := hz
    simpa using e
  subst hv1
  have hl : ls = ldA va vr b s := by
    apply Array.ext'
    simpa [ldA] using hls
  subst hl
  obtain ⟨l0', l1'⟩ := of_laidB hL
  have hwalk := binds3 W l0' l1' l1'.two va vr l r hAs hRs b s x hb hs R hR w1 w2 L Q hLs hQs
  rw [← e2] at hwalk
  clear hA0 hval0
  refine hwalk.mono fun e W' ⟨he, tt⟩ => ?_
  subst he
  have bel := tt.below
  exact ⟨_, rfl, _, _, _, [], _, [], hW', trodAll_mk1 (shut_bool Tryz.underlying4 _), (trodAll_mk3 (Below.trod laidOut (by kernel_rfl) (of_decide_eq_true (by kernel_rfl)) k0 bel lt0) (Below.trod laidOut (by kernel_rfl) (of_decide_eq_true (by kernel_rfl)) k1 bel lt1) (Below.trod laidOut (by kernel_rfl) (of_decide_eq_true (by kernel_rfl)) k2 bel lt2)), rfl, bel.frame _, fun h => by cases h⟩

theorem binds_holds : Rows.LedgerBindsSaid :=
  OpenClaim.holds_of_wide 3 Tryz.f3 rfl rfl rfl rfl rfl rfl rfl ⟨rfl, rfl, rfl, rfl, rfl⟩ rfl rfl rfl rfl rfl (by kernel_rfl) Tryz.func3 (by kernel_rfl)
    (of_decide_eq_true (by kernel_rfl)) (by unfold Func.isWrapper; first | (rw [if_pos (by decide +kernel)]; kernel_rfl) | (rw [if_neg (by decide +kernel)]; exact ⟨rfl, rfl⟩))
    (fun os started H enc _ => binds_lifted os started H enc)

theorem binds_card : Rows.LedgerBindsCardSaid :=
  Claim7.holds_tied_plain_at .later [] [.data, .data] true (true, "c4bf49c15bd0ce99da62771c14473400a15789f554033aebd1920a7e8a2892d1") false
    binds_holds (fun _ h => by cases h) (by kernel_rfl) (fun _ h => by cases h) ledgerBinds_row_tie rfl ⟨rfl, rfl⟩ (by kernel_rfl) rfl
    (fun f fn hf hfn => by
      obtain rfl : f = 3 := Option.some.inj ((show Tryz.prog.funcNamed "assent/assentlaw08.LedgerBinds" = some 3 by kernel_rfl).symm.trans hf) |>.symm
      obtain rfl : fn = Tryz.f3 := (Option.some.inj (Tryz.func3.symm.trans hfn)).symm
      exact ⟨by kernel_rfl, fun j t ht => by
        rw [Tryz.params3] at ht
        have hm : t ∈ [26, 27, 32] := by simpa using Array.mem_of_getElem? ht
        have hall : ([26, 27, 32].all fun u => !Tryz.prog.wantsStandIn u) = true := by kernel_rfl
        exact (show Tryz.prog.wantsStandIn t = false by simpa using List.all_eq_true.1 hall t hm)⟩)
    (by kernel_rfl)
#print axioms binds_card
end Go.Proofs.YtlacfenenbblaaaGreatDoor
