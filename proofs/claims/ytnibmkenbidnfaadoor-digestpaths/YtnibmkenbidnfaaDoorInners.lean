/- DigestInners: the row and its card. -/
import Derived.Test.YtnibmkenbidnfaaDoorInnersW
import Derived.Test.YtnibmkenbidnfaaDoorE4
import Derived.Test.YtnibmkenbidnfaaDoorLaid
import Derived.Test.YtnibmkenbidnfaaDoorCards
import Derived.Test.YtnibmkenbidnfaaDoorTie
import Derived.ChangeOld
import Derived.Lib.SmallJoins
namespace Go.Proofs.YtnibmkenbidnfaaDoor
open Go.ChangeShapes Go.WideShapes Go.ChangeAt Go.RowKit Go.Joins
set_option linter.unusedVariables false

theorem laidOut' : laidOutB Tryd.prog = true := by kernel_rfl
theorem cells5 : Tryd.prog.cellsOf 5 = 1 := by kernel_rfl
theorem cells35 : Tryd.prog.cellsOf 35 = 32 := by kernel_rfl

def byteOfV : Value → UInt8
  | .int _ k => UInt8.ofNat k.toNat
  | _ => 0

theorem open_hash {H : Type} {enc : TypeId × Value → H} {w : World} {base : Nat} {spare : Nat → Bool} {held : Bool} {n : Nat} {cs : Array Value} {y : DataW H × List MemPlace}
    (h : DataW.trod enc Tryd.prog w base spare held n 35 cs.toList = some y) : ∃ X : List UInt8, X.length = 32 ∧ cs = (X.map bv).toArray := by
  obtain ⟨xs, m1, _, _, hlen, hn, hel⟩ := DataW.trod_array Tryd.underlying35 h
  rw [cells35] at hlen
  refine ⟨cs.toList.map byteOfV, by simpa using hlen, ?_⟩
  apply Array.ext_getElem?
  intro j
  by_cases hj : j < 32
  · have h0 := hel j hj
    obtain ⟨x, hxj⟩ : ∃ x, xs[j]? = some x := ⟨xs[j]'(by omega), List.getElem?_eq_getElem (by omega)⟩
    rw [hxj, cells5, Nat.mul_one] at h0
    obtain ⟨k, e1, _, wk⟩ := DataW.trod_int Tryd.underlying5 h0
    have hc : cs[j]? = some (.int .u8 k) := by
      have := congrArg (·[0]?) e1
      simpa [List.getElem?_take, List.getElem?_drop] using this
    have hb := bounds_u8 wk
    rw [hc]
    have hjs : j < cs.size := by have h32 : cs.size = 32 := by simpa using hlen
                                 omega
    have hc' : cs[j] = .int .u8 k := by rw [Array.getElem?_eq_getElem hjs] at hc; exact Option.some.inj hc
    simp [hjs, hc', byteOfV, bv]
    omega
  · have h1 : cs.size = 32 := by simpa using hlen
    rw [Array.getElem?_eq_none (by omega), Array.getElem?_eq_none (by simp; omega)]

theorem inners_walk (w : World) (X Y : List UInt8) (hx : X.length = 32) (hy : Y.length = 32) (hl0 : Laid0 w) (hl1 : Laid1 w) :
    Calls Tryd.prog 4 #[.agg (X.map bv).toArray, .agg (Y.map bv).toArray] w fun e w' => e = .returned (.bool true) ∧ Turn no w w' := by
  have h2 := hl1.two
  refine inners_lit w (X.map bv) (Y.map bv) ((hashOf (1 :: (X ++ Y))).map bv) (by simpa using hx) (by simpa using hy) (fun W T => ?_) (fun W T => ?_) (fun W => ?_)
  · exact inner13 W X Y hx hy (hl1.turn T (fun q => q)) (by have := T.size; omega)
  · exact inner14 W X Y hx hy (hl0.turn T (fun q => q)) (by have := T.size; omega)
  · have := eqlH W (1 :: (X ++ Y)) (1 :: (X ++ Y))
    rw [beq_self_eq_true] at this
    exact this

set_option maxRecDepth 100000 in
theorem inners_lifted (os : Os) (started : os.Started) (H : Type) (enc : TypeId × Value → H) :
    ReturnsInHanded {} Tryd.checked os 4 .any (fun w args => (Rows.digestInnersSpec.pre enc Tryd.prog Tryd.f4 [] false w args ∧ laidMetH Tryd.prog laidB w) ∧ sizedMet enc Tryd.prog Tryd.f4 (OpenSpec.ofChange Rows.digestInnersSpec) false w args)
      (Rows.digestInnersSpec.post enc Tryd.prog Tryd.f4 false true false false) := by
  refine returnsInHanded_of_change_and (C := Tryd.checked) (X := fun w _ => laidMetH Tryd.prog laidB w) (fun _ _ _ hh h => h.of_heap hh) own started (by kernel_rfl) Tryd.func4
    (ChangeSpec.witness_shaped (enc := enc) (C := Tryd.checked) (os := os) (X := fun w _ => laidMetH Tryd.prog laidB w) false (World.doorLaid Tryd.prog 4000 os) #[.agg zeroH, .agg zeroH] 8 rfl (World.shaped_of_RefB (by kernel_rfl) (by kernel_rfl)) (by kernel_rfl) (by kernel_rfl) (by kernel_rfl) (doorB os _)) ?_
  intro W base args ds gs before hval0 hW _ _ hL _
  have hval : ∀ (j : Nat) t v, Tryd.f4.params[j]? = some t → args[j]? = some v → Value.okWide Tryd.prog W .any base t v := hval0
  have hW' := hW
  obtain ⟨p, q, hA0, hV, rfl, hfz, hnd⟩ := hW
  have hA : DataW.TrodAll enc Tryd.prog W 0 (fun _ => true) true Tryd.f4.params.toList args.toList ds p := hA0
  rw [Tryd.params4] at hA hval
  obtain ⟨v0, v1, d0, d1, p0, p1, rfl, rfl, rfl, h0, h1⟩ := trodAll_two hA
  obtain ⟨rfl, rfl⟩ := trodVars_none hV
  have k0 := h0
  have k1 := h1
  have lt0 : ∀ x ∈ p0, x.block < W.heap.size := by obtain ⟨m, hm⟩ := k0; exact DataW.trod_lt m _ _ _ hm
  have lt1 : ∀ x ∈ p1, x.block < W.heap.size := by obtain ⟨m, hm⟩ := k1; exact DataW.trod_lt m _ _ _ hm
  obtain ⟨cs0, rfl, _, _⟩ : ∃ cs, v0 = .agg cs ∧ cs.size = Tryd.prog.cellsOf 35 ∧ Row.okWide Tryd.prog W .any base 35 cs := by
    have := hval 0 35 v0 rfl rfl
    simpa [Value.okWide, Tryd.underlying35] using this
  obtain ⟨cs1, rfl, _, _⟩ : ∃ cs, v1 = .agg cs ∧ cs.size = Tryd.prog.cellsOf 35 ∧ Row.okWide Tryd.prog W .any base 35 cs := by
    have := hval 1 35 v1 rfl rfl
    simpa [Value.okWide, Tryd.underlying35] using this
  obtain ⟨m0, t0⟩ := h0
  obtain ⟨m1, t1⟩ := h1
  obtain ⟨X, hx, hX⟩ := open_hash (cs := cs0) t0
  obtain ⟨Y, hy, hY⟩ := open_hash (cs := cs1) t1
  obtain ⟨l0, l1⟩ := of_laidB hL
  have hwalk := inners_walk W X Y hx hy l0 l1
  rw [← hX, ← hY] at hwalk
  clear hA0 hval0
  refine hwalk.mono fun e W' ⟨he, tt⟩ => ?_
  subst he
  have bel := tt.below
  exact ⟨_, rfl, _, _, _, [], _, [], hW', trodAll_mk1 (shut_bool Tryd.underlying4 _), (trodAll_mk2 (Below.trod laidOut' (by kernel_rfl) (of_decide_eq_true (by kernel_rfl)) k0 bel lt0) (Below.trod laidOut' (by kernel_rfl) (of_decide_eq_true (by kernel_rfl)) k1 bel lt1)), rfl, bel.frame _, fun h => by cases h⟩

theorem inners_holds : Rows.DigestInnersSaid :=
  OpenClaim.holds_of_wide 4 Tryd.f4 rfl rfl rfl rfl rfl rfl rfl ⟨rfl, rfl, rfl, rfl, rfl⟩ rfl rfl rfl rfl rfl (by kernel_rfl) Tryd.func4 (by kernel_rfl)
    (of_decide_eq_true (by kernel_rfl)) (by unfold Func.isWrapper; first | (rw [if_pos (by decide +kernel)]; kernel_rfl) | (rw [if_neg (by decide +kernel)]; exact ⟨rfl, rfl⟩))
    (fun os started H enc _ => inners_lifted os started H enc)

theorem inners_card : Rows.DigestInnersCardSaid :=
  Claim7.holds_tied_plain_at .later [] [.data, .data] true (true, "0c7db1e99e01b238f159755f0328a9de0abbc6454fe562d09476a2eb567108cd") false
    inners_holds (fun _ h => by cases h) (by kernel_rfl) (fun _ h => by cases h) digestInners_row_tie rfl ⟨rfl, rfl⟩ (by kernel_rfl) rfl
    (fun f fn hf hfn => by
      obtain rfl : f = 4 := Option.some.inj ((show Tryd.prog.funcNamed "assent/assentlaw02.DigestInners" = some 4 by kernel_rfl).symm.trans hf) |>.symm
      obtain rfl : fn = Tryd.f4 := (Option.some.inj (Tryd.func4.symm.trans hfn)).symm
      exact ⟨by kernel_rfl, fun j t ht => by
        rw [Tryd.params4] at ht
        have hm : t ∈ [35, 35] := by simpa using Array.mem_of_getElem? ht
        have hall : ([35, 35].all fun u => !Tryd.prog.wantsStandIn u) = true := by kernel_rfl
        exact (show Tryd.prog.wantsStandIn t = false by simpa using List.all_eq_true.1 hall t hm)⟩)
    (by kernel_rfl)
#print axioms inners_card
end Go.Proofs.YtnibmkenbidnfaaDoor
