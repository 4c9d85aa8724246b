/- SealTurns: the row and its card. -/
import Derived.Test.YtnlcngcilojnkaaDoorOpen
import Derived.Test.YtnlcngcilojnkaaDoorTurnsW
import Derived.Test.YtnlcngcilojnkaaDoorCards
import Derived.Test.YtnlcngcilojnkaaDoorTie
namespace Go.Proofs.YtnlcngcilojnkaaDoor
open Go.ChangeShapes Go.WideShapes Go.ChangeAt Go.RowKit Go.Joins
set_option linter.unusedVariables false


set_option maxRecDepth 100000 in
set_option maxHeartbeats 1000000 in
theorem turns_any (w : World) (a : UInt64) (vx vy : Value) (xs ys : List UInt8) (hx : Bs w vx xs) (hy : Bs w vy ys) (hl0 : Laid0 w) (hl1 : Laid1 w) (h2 : 2 ≤ w.heap.size) :
    Calls Tryd.prog 5 #[.int .u64 a.toNat, vx, vy] w fun e w' => e = .returned (.bool true) ∧ Turn no w w' := by
  by_cases ha : (a.toNat : Int) = 0
  · obtain ⟨ax, cx, e⟩ := hx.slice
    subst e
    obtain ⟨ay, cy, e⟩ := hy.slice
    subst e
    clear hx hy
    go_enter Tryd.func5, Tryd.ntmps5
    go_wp2_with fail
    go_ret
    exact ⟨rfl, Turn.refl no w⟩
  by_cases lx : (1000 : Int) < (xs.length : Int)
  · have hz1 : ((a.toNat : Int) == 0) = false := by simpa using ha
    obtain ⟨ax, cx, e⟩ := hx.slice
    subst e
    obtain ⟨ay, cy, e⟩ := hy.slice
    subst e
    clear hx hy
    go_enter Tryd.func5, Tryd.ntmps5
    go_wp2_with fail
    go_ret
    exact ⟨rfl, Turn.refl no w⟩
  by_cases ly : (1000 : Int) < (ys.length : Int)
  · have hz1 : ((a.toNat : Int) == 0) = false := by simpa using ha
    obtain ⟨ax, cx, e⟩ := hx.slice
    subst e
    obtain ⟨ay, cy, e⟩ := hy.slice
    subst e
    clear hx hy
    go_enter Tryd.func5, Tryd.ntmps5
    go_wp2_with fail
    go_ret
    exact ⟨rfl, Turn.refl no w⟩
  exact turns_main w a vx vy xs ys hx hy hl0 hl1 h2 ha (by omega) (by omega)

set_option maxRecDepth 100000 in
theorem turns_lifted (os : Os) (started : os.Started) (H : Type) (enc : TypeId × Value → H) :
    ReturnsInHanded {} Tryd.checked os 5 .any (fun w args => (Rows.sealTurnsSpec.pre enc Tryd.prog Tryd.f5 [] false w args ∧ laidMetH Tryd.prog laidB w) ∧ sizedMet enc Tryd.prog Tryd.f5 (OpenSpec.ofChange Rows.sealTurnsSpec) false w args)
      (Rows.sealTurnsSpec.post enc Tryd.prog Tryd.f5 false true false false) := by
  refine returnsInHanded_of_change_and (C := Tryd.checked) (X := fun w _ => laidMetH Tryd.prog laidB w) (fun _ _ _ hh h => h.of_heap hh) own started (by kernel_rfl) Tryd.func5
    (ChangeSpec.witness_shaped (enc := enc) (C := Tryd.checked) (os := os) (X := fun w _ => laidMetH Tryd.prog laidB w) false (World.doorLaid Tryd.prog 4000 os) #[.int .u64 0, .slice none 0 0, .slice none 0 0] 8 rfl (World.shaped_of_RefB (by kernel_rfl) (by kernel_rfl)) (by kernel_rfl) (by kernel_rfl) (by kernel_rfl) (doorB os _)) ?_
  intro W base args ds gs before hval0 hW hcnd hsz hL hx
  have hval : ∀ (j : Nat) t v, Tryd.f5.params[j]? = some t → args[j]? = some v → Value.okWide Tryd.prog W .any base t v := hval0
  have hW' := hW
  obtain ⟨p, q, hA0, hV, rfl, hfz, hnd⟩ := hW
  have hA : DataW.TrodAll enc Tryd.prog W 0 (fun _ => true) true Tryd.f5.params.toList args.toList ds p := hA0
  rw [Tryd.params5] at hA hval
  obtain ⟨v0, v1, v2, d0, d1, d2, p0, p1, p2, rfl, rfl, rfl, h0, h1, h2⟩ := trodAll_three hA
  obtain ⟨rfl, rfl⟩ := trodVars_none hV
  have k0 := h0
  have k1 := h1
  have k2 := h2
  have lt0 : ∀ x ∈ p0, x.block < W.heap.size := by obtain ⟨m, hm⟩ := k0; exact DataW.trod_lt m _ _ _ hm
  have lt1 : ∀ x ∈ p1, x.block < W.heap.size := by obtain ⟨m, hm⟩ := k1; exact DataW.trod_lt m _ _ _ hm
  have lt2 : ∀ x ∈ p2, x.block < W.heap.size := by obtain ⟨m, hm⟩ := k2; exact DataW.trod_lt m _ _ _ hm
  obtain ⟨a0, rfl⟩ := okWide_int Tryd.underlying29 (hval 0 29 v0 rfl rfl)
  obtain ⟨va', l0, c0, rfl⟩ := okWide_slice Tryd.underlying31 (hval 1 31 v1 rfl rfl)
  obtain ⟨vb', l1', c1', rfl⟩ := okWide_slice Tryd.underlying31 (hval 2 31 v2 rfl rfl)
  obtain ⟨m0, t0⟩ := h0
  obtain ⟨m1, t1⟩ := h1
  obtain ⟨m2, t2⟩ := h2
  obtain ⟨k, e0, _, wk⟩ := DataW.trod_int Tryd.underlying29 t0
  obtain ⟨a, rfl⟩ := u64_of wk
  obtain ⟨bs, hb⟩ := open_bytes (v := .slice va' l0 c0) t1
  obtain ⟨bs2, hb2⟩ := open_bytes (v := .slice vb' l1' c1') t2
  obtain ⟨l0, l1⟩ := of_laidB hL
  have hwalk := turns_any W a _ _ bs bs2 hb hb2 l0 l1 l1.two
  have e0' : a0 = (a.toNat : Int) := by simpa [Value.cells] using e0
  subst e0'
  clear hA0 hval0
  refine hwalk.mono fun e W' ⟨he, tt⟩ => ?_
  subst he
  have bel := tt.below
  exact ⟨_, rfl, _, _, _, [], _, [], hW', trodAll_mk1 (shut_bool Tryd.underlying4 _), (trodAll_mk3 (Below.trod laidOut (by kernel_rfl) (of_decide_eq_true (by kernel_rfl)) k0 bel lt0) (Below.trod laidOut (by kernel_rfl) (of_decide_eq_true (by kernel_rfl)) k1 bel lt1) (Below.trod laidOut (by kernel_rfl) (of_decide_eq_true (by kernel_rfl)) k2 bel lt2)), rfl, bel.frame _, fun h => by cases h⟩

theorem turns_holds : Rows.SealTurnsSaid :=
  OpenClaim.holds_of_wide 5 Tryd.f5 rfl rfl rfl rfl rfl rfl rfl ⟨rfl, rfl, rfl, rfl, rfl⟩ rfl rfl rfl rfl rfl (by kernel_rfl) Tryd.func5 (by kernel_rfl)
    (of_decide_eq_true (by kernel_rfl)) (by unfold Func.isWrapper; first | (rw [if_pos (by decide +kernel)]; kernel_rfl) | (rw [if_neg (by decide +kernel)]; exact ⟨rfl, rfl⟩))
    (fun os started H enc _ => turns_lifted os started H enc)

theorem turns_card : Rows.SealTurnsCardSaid :=
  Claim7.holds_tied_plain_at .later [] [.data, .data] true (true, "b4e3e9600443d658bf6433fce7215457943770697f95bd4ef30dd40502fa04e6") false
    turns_holds (fun _ h => by cases h) (by kernel_rfl) (fun _ h => by cases h) sealTurns_row_tie rfl ⟨rfl, rfl⟩ (by kernel_rfl) rfl
    (fun f fn hf hfn => by
      obtain rfl : f = 5 := Option.some.inj ((show Tryd.prog.funcNamed "assent/assentlaw03.SealTurns" = some 5 by kernel_rfl).symm.trans hf) |>.symm
      obtain rfl : fn = Tryd.f5 := (Option.some.inj (Tryd.func5.symm.trans hfn)).symm
      exact ⟨by kernel_rfl, fun j t ht => by
        rw [Tryd.params5] at ht
        have hm : t ∈ [29, 31, 31] := by simpa using Array.mem_of_getElem? ht
        have hall : ([29, 31, 31].all fun u => !Tryd.prog.wantsStandIn u) = true := by kernel_rfl
        exact (show Tryd.prog.wantsStandIn t = false by simpa using List.all_eq_true.1 hall t hm)⟩)
    (by kernel_rfl)
#print axioms turns_card
end Go.Proofs.YtnlcngcilojnkaaDoor
