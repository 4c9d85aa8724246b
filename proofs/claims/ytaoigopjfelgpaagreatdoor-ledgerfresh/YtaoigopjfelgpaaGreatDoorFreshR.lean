/- LedgerFresh: the row and its card. -/
import Derived.Test.YtaoigopjfelgpaaGreatDoorOpL
import Derived.Test.YtaoigopjfelgpaaGreatDoorU4
import Derived.Test.YtaoigopjfelgpaaGreatDoorLaid
import Derived.Test.YtaoigopjfelgpaaGreatDoorCards
import Derived.Test.YtaoigopjfelgpaaGreatDoorTie
import Derived.ProofKit
import Derived.OpenShut
import Derived.ShutString
import Derived.ChangeOld
import Derived.SizedLaws
import Derived.Lib.SmallJoins
import Derived.Deep.Slices
import Derived.Carry
namespace Go.Proofs.YtaoigopjfelgpaaGreatDoor
open Go.ChangeShapes Go.WideShapes Go.ChangeAt Go.RowKit Go.Joins Go.Deep
set_option linter.unusedVariables false

section
variable {H : Type} {enc : TypeId × Value → H} {w : World} {base : Nat} {spare : Nat → Bool} {held : Bool}
/-- The params: what is asked of them. -/
theorem open_par3 {n : Nat} {L : List Value} {y : DataW H × List MemPlace} (h : DataW.trod enc Tryz.prog w base spare held n 25 L = some y) : ∃ (mb : Nat) (st : Int) (sl : Nat), L[0]? = some (.int .u64 mb) ∧ L[1]? = some (.int .i64 st) ∧ L[2]? = some (.int .u64 sl) ∧ L.length = 12 := by
  obtain ⟨xs, m, _, _, hlen, hn, hel⟩ := DataW.trod_struct Tryz.underlying25 h
  rw [cells25] at hlen
  have hx : ∀ i, i < 12 → ∃ x, xs[i]? = some x := fun i hi => ⟨xs[i]'(by rw [hn]; exact hi), List.getElem?_eq_getElem _⟩
  obtain ⟨x0, e0⟩ := hx 0 (by omega)
  obtain ⟨x1, e1⟩ := hx 1 (by omega)
  obtain ⟨x2, e2⟩ := hx 2 (by omega)
  have h0 : DataW.trod enc Tryz.prog w base spare held m 23 ((L.drop 0).take (Tryz.prog.cellsOf 23)) = some x0 := (hel 0 _ rfl).trans e0
  have h1 : DataW.trod enc Tryz.prog w base spare held m 3 ((L.drop 1).take (Tryz.prog.cellsOf 3)) = some x1 := (hel 1 _ rfl).trans e1
  have h2 : DataW.trod enc Tryz.prog w base spare held m 23 ((L.drop 2).take (Tryz.prog.cellsOf 23)) = some x2 := (hel 2 _ rfl).trans e2
  rw [show Tryz.prog.cellsOf 23 = 1 by kernel_rfl] at h0 h2
  rw [show Tryz.prog.cellsOf 3 = 1 by kernel_rfl] at h1
  obtain ⟨k0, c0, _, w0⟩ := DataW.trod_int Tryz.underlying23 h0
  obtain ⟨k1, c1, _, w1⟩ := DataW.trod_int Tryz.underlying3 h1
  obtain ⟨k2, c2, _, w2⟩ := DataW.trod_int Tryz.underlying23 h2
  obtain ⟨a, rfl, ha⟩ := u64_of w0
  obtain ⟨b, rfl, hb⟩ := u64_of w2
  exact ⟨a, k1, b, cut1 c0, cut1 c1, cut1 c2, hlen⟩
end
theorem as_sized {H : Type} {ts : List TypeId} {ds : List (DataW H)} (hsz : (DataW.weightsEach Tryz.prog ts ds).all (· ≤ reachBytes) = true) {j : Nat} {d : DataW H} (ht : ts[j]? = some 22) (hd : ds[j]? = some d) {l : List Ac}
    (hw : l = [] ∨ ∃ es sp, d = .slice es sp ∧ l.length ≤ es.length) : l.length * 40 ≤ 140737488351232 := by
  rcases hw with rfl | ⟨es, sp, rfl, hl⟩
  · simp
  · have := sized_slice hsz (j := j) (t := 22) (e := 50) (elems := es) (spare := sp) ht hd Tryz.underlying22
    rw [bytes39] at this
    simp [reachBytes] at this
    omega

set_option maxRecDepth 100000 in
set_option maxHeartbeats 4000000 in
theorem fresh_lifted (os : Os) (started : os.Started) (H : Type) (enc : TypeId × Value → H) :
    ReturnsInHanded {} Tryz.checked os 3 .any (fun w args => (Rows.ledgerFreshSpec.pre enc Tryz.prog Tryz.f3 [] false w args ∧ laidMetH Tryz.prog laidB w) ∧ sizedMet enc Tryz.prog Tryz.f3 (OpenSpec.ofChange Rows.ledgerFreshSpec) false w args)
      (Rows.ledgerFreshSpec.post enc Tryz.prog Tryz.f3 false true false false) := by
  refine returnsInHanded_of_change_and (C := Tryz.checked) (X := fun w _ => laidMetH Tryz.prog laidB w) (fun _ _ _ hh h => h.of_heap hh) own started (by kernel_rfl) Tryz.func3
    (ChangeSpec.witness_shaped (enc := enc) (C := Tryz.checked) (os := os) (X := fun w _ => laidMetH Tryz.prog laidB w) false (World.doorLaid Tryz.prog 4000 os) #[.slice none 0 0, .agg #[.int .u64 0, .int .i64 0, .int .u64 0, .int .u64 0, .int .u64 0, .int .i64 0, .int .u64 0, .int .u64 0, .int .u64 0, .int .u64 0, .int .u64 0, .int .u64 0], .int .u64 0, .int .u64 0] 8 rfl (World.shaped_of_RefB (by kernel_rfl) (by kernel_rfl)) (by kernel_rfl) (by kernel_rfl) (by kernel_rfl) (doorB os _)) ?_
  intro W base args ds gs before hval0 hW hcnd hsz hL hx
  have hval : ∀ (j : Nat) t v, Tryz.f3.params[j]? = some t → args[j]? = some v → Value.okWide Tryz.prog W .any base t v := hval0
  have hW' := hW
  obtain ⟨p, q, hA0, hV, rfl, hfz, hnd⟩ := hW
  have hA : DataW.TrodAll enc Tryz.prog W 0 (fun _ => true) true Tryz.f3.params.toList args.toList ds p := hA0
  rw [Tryz.params3] at hA hval hsz
  obtain ⟨v0, v1, v2, v3, d0, d1, d2, d3, q0, q1, q2, q3, rfl, rfl, rfl, h0, h1, h2, h3⟩ := trodAll_four hA
  obtain ⟨rfl, rfl⟩ := trodVars_none hV
  have k0 := h0
  have k1 := h1
  have k2 := h2
  have k3 := h3
  have lt0 : ∀ x ∈ q0, x.block < W.heap.size := by obtain ⟨m, hm⟩ := k0; exact DataW.trod_lt m _ _ _ hm
  have lt1 : ∀ x ∈ q1, x.block < W.heap.size := by obtain ⟨m, hm⟩ := k1; exact DataW.trod_lt m _ _ _ hm
  have lt2 : ∀ x ∈ q2, x.block < W.heap.size := by obtain ⟨m, hm⟩ := k2; exact DataW.trod_lt m _ _ _ hm
  have lt3 : ∀ x ∈ q3, x.block < W.heap.size := by obtain ⟨m, hm⟩ := k3; exact DataW.trod_lt m _ _ _ hm
  obtain ⟨a0, l0, c0, rfl⟩ := okWide_slice Tryz.underlying22 (hval 0 22 v0 rfl rfl)
  obtain ⟨cs, rfl, _, _⟩ : ∃ cs, v1 = .agg cs ∧ cs.size = Tryz.prog.cellsOf 25 ∧ Row.okWide Tryz.prog W .any base 25 cs := by
    have := hval 1 25 v1 rfl rfl
    simpa [Value.okWide, Tryz.underlying25] using this
  obtain ⟨z2, rfl⟩ := okWide_int Tryz.underlying26 (hval 2 26 v2 rfl rfl)
  obtain ⟨z3, rfl⟩ := okWide_int Tryz.underlying23 (hval 3 23 v3 rfl rfl)
  obtain ⟨m0, t0⟩ := h0
  obtain ⟨m1, t1⟩ := h1
  obtain ⟨m2, t2⟩ := h2
  obtain ⟨m3, t3⟩ := h3
  obtain ⟨l, M, hw⟩ := open_as (v := .slice a0 l0 c0) t0
  obtain ⟨mb, st, sl, g0, g1, g2, glen⟩ := open_par3 (L := cs.toList) t1
  obtain ⟨y2, hy2, _, w2⟩ := DataW.trod_int Tryz.underlying26 t2
  obtain ⟨y3, hy3, _, w3⟩ := DataW.trod_int Tryz.underlying23 t3
  obtain ⟨x, rfl, hx2⟩ := u64_of w2
  obtain ⟨nn, rfl, hx3⟩ := u64_of w3
  have e2 : z2 = (x : Int) := by
    have e : ([Value.int .u64 z2] : List Value) = [.int .u64 x] := hy2
    simpa using e
  have e3 : z3 = (nn : Int) := by
    have e : ([Value.int .u64 z3] : List Value) = [.int .u64 nn] := hy3
    simpa using e
  subst e2
  subst e3
  have hle := as_sized hsz (j := 0) rfl rfl hw
  obtain ⟨cl⟩ := cs
  obtain ⟨p0, p1, p2, p3, p4, p5, p6, p7, p8, p9, p10, p11, rfl⟩ := twelve glen
  have e0 : p0 = .int .u64 mb := by simpa using g0
  have e1 : p1 = .int .i64 st := by simpa using g1
  have e4 : p2 = .int .u64 sl := by simpa using g2
  subst e0
  subst e1
  subst e4
  obtain ⟨l0', l1'⟩ := of_laidB hL
  clear hA0 hval0
  refine (fresh3 W l0' l1' l1'.two _ l M hle mb st sl p3 p4 p5 p6 p7 p8 p9 p10 p11 x nn hx3).mono fun e W' ⟨he, tt⟩ => ?_
  subst he
  have bel := tt.below
  exact ⟨_, rfl, _, _, _, [], _, [], hW', trodAll_mk1 (shut_bool Tryz.underlying4 _), (trodAll_mk4 (Below.trod laidOut (by kernel_rfl) (of_decide_eq_true (by kernel_rfl)) k0 bel lt0) (Below.trod laidOut (by kernel_rfl) (of_decide_eq_true (by kernel_rfl)) k1 bel lt1) (Below.trod laidOut (by kernel_rfl) (of_decide_eq_true (by kernel_rfl)) k2 bel lt2) (Below.trod laidOut (by kernel_rfl) (of_decide_eq_true (by kernel_rfl)) k3 bel lt3)), rfl, bel.frame _, fun h => by cases h⟩

theorem fresh_holds : Rows.LedgerFreshSaid :=
  OpenClaim.holds_of_wide 3 Tryz.f3 rfl rfl rfl rfl rfl rfl rfl ⟨rfl, rfl, rfl, rfl, rfl⟩ rfl rfl rfl rfl rfl (by kernel_rfl) Tryz.func3 (by kernel_rfl)
    (of_decide_eq_true (by kernel_rfl)) (by unfold Func.isWrapper; first | (rw [if_pos (by decide +kernel)]; kernel_rfl) | (rw [if_neg (by decide +kernel)]; exact ⟨rfl, rfl⟩))
    (fun os started H enc _ => fresh_lifted os started H enc)

theorem fresh_card : Rows.LedgerFreshCardSaid :=
  Claim7.holds_tied_plain_at .later [] [.data, .data] true (true, "3cb39d1970dfb71125be0e4bbb9a01cc2ed6c0b434bee7d13475a78f6c58b6f4") false
    fresh_holds (fun _ h => by cases h) (by kernel_rfl) (fun _ h => by cases h) ledgerFresh_row_tie rfl ⟨rfl, rfl⟩ (by kernel_rfl) rfl
    (fun f fn hf hfn => by
      obtain rfl : f = 3 := Option.some.inj ((show Tryz.prog.funcNamed "assent/assentlaw08.LedgerFresh" = some 3 by kernel_rfl).symm.trans hf) |>.symm
      obtain rfl : fn = Tryz.f3 := (Option.some.inj (Tryz.func3.symm.trans hfn)).symm
      exact ⟨by kernel_rfl, fun j t ht => by
        rw [Tryz.params3] at ht
        have hm : t ∈ [22, 25, 26, 23] := by simpa using Array.mem_of_getElem? ht
        have hall : ([22, 25, 26, 23].all fun u => !Tryz.prog.wantsStandIn u) = true := by kernel_rfl
        exact (show Tryz.prog.wantsStandIn t = false by simpa using List.all_eq_true.1 hall t hm)⟩)
    (by kernel_rfl)
#print axioms fresh_card
end Go.Proofs.YtaoigopjfelgpaaGreatDoor
