/- TallyNil: a vote, read; the row and its card. -/
import Derived.Test.YtcjijofckjgikaaDoorN3
import Derived.Test.YtcjijofckjgikaaDoorCards
import Derived.Test.YtcjijofckjgikaaDoorTie
import Derived.ProofKit
import Derived.LaidMore
import Derived.OpenShut
import Derived.Stop.Joined
import Derived.ChangeOld
import Derived.SizedLaws
import Derived.Lib.SmallJoins
namespace Go.Proofs.YtcjijofckjgikaaDoor
open Go.ChangeShapes Go.WideShapes Go.ChangeAt Go.RowKit Go.Joins
set_option linter.unusedVariables false

theorem own : ownKnob Tryd.prog.godebug = none := by kernel_rfl
theorem laidOut : laidOutB Tryd.prog = true := by kernel_rfl
theorem cells3 : Tryd.prog.cellsOf 3 = 1 := by kernel_rfl
theorem cells22 : Tryd.prog.cellsOf 22 = 1 := by kernel_rfl
theorem cells25 : Tryd.prog.cellsOf 25 = 1 := by kernel_rfl
theorem cells24 : Tryd.prog.cellsOf 24 = 32 := by kernel_rfl
theorem cells27 : Tryd.prog.cellsOf 27 = 16 := by kernel_rfl
theorem cells29 : Tryd.prog.cellsOf 29 = 53 := by kernel_rfl

section
variable {H : Type} {enc : TypeId × Value → H} {w : World} {base : Nat} {spare : Nat → Bool} {held : Bool}
def byteOfV : Value → UInt8
  | .int _ k => UInt8.ofNat k.toNat
  | _ => 0
theorem open_arr {n t m : Nat} {L : List Value} {y : DataW H × List MemPlace} (hu : Tryd.prog.underlying t = some (.array m 5)) (hc : Tryd.prog.cellsOf t = m) (h : DataW.trod enc Tryd.prog w base spare held n t L = some y) : ∃ X : List UInt8, X.length = m ∧ L = X.map bv := by
  obtain ⟨xs, m1, _, _, hlen, hn, hel⟩ := DataW.trod_array hu h
  rw [hc] at hlen
  refine ⟨L.map byteOfV, by simpa using hlen, ?_⟩
  apply List.ext_getElem?
  intro j
  by_cases hj : j < m
  · have h0 := hel j hj
    obtain ⟨x, hxj⟩ : ∃ x, xs[j]? = some x := ⟨xs[j]'(by omega), List.getElem?_eq_getElem (by omega)⟩
    rw [hxj, cells5, Nat.mul_one] at h0
    obtain ⟨k, e1, _, wk⟩ := DataW.trod_int Tryd.underlying5 h0
    have hc : L[j]? = some (.int .u8 k) := by
      have := congrArg (·[0]?) e1
      simpa [List.getElem?_take, List.getElem?_drop] using this
    have hb := bounds_u8 wk
    rw [hc]
    simp [hc, byteOfV, bv]
    omega
  · rw [List.getElem?_eq_none (by omega), List.getElem?_eq_none (by simp; omega)]
theorem cut1 {L : List Value} {o : Nat} {v : Value} (h : (L.drop o).take 1 = [v]) : L[o]? = some v := by
  have := congrArg (·[0]?) h
  simpa [List.getElem?_take, List.getElem?_drop] using this
theorem open_vt {n : Nat} {L : List Value} {y : DataW H × List MemPlace} (h : DataW.trod enc Tryd.prog w base spare held n 29 L = some y) : ∃ v : Vt, v.ok ∧ L = v.cs := by
  obtain ⟨xs, m, _, _, hlen, hn, hel⟩ := DataW.trod_struct Tryd.underlying29 h
  rw [cells29] at hlen
  have hx : ∀ i, i < 7 → ∃ x, xs[i]? = some x := fun i hi => ⟨xs[i]'(by rw [hn]; exact hi), List.getElem?_eq_getElem _⟩
  obtain ⟨x0, e0⟩ := hx 0 (by omega)
  obtain ⟨x1, e1⟩ := hx 1 (by omega)
  obtain ⟨x2, e2⟩ := hx 2 (by omega)
  obtain ⟨x3, e3⟩ := hx 3 (by omega)
  obtain ⟨x4, e4⟩ := hx 4 (by omega)
  obtain ⟨x5, e5⟩ := hx 5 (by omega)
  obtain ⟨x6, e6⟩ := hx 6 (by omega)
  have h0 : DataW.trod enc Tryd.prog w base spare held m 3 ((L.drop 0).take (Tryd.prog.cellsOf 3)) = some x0 := (hel 0 _ rfl).trans e0
  have h1 : DataW.trod enc Tryd.prog w base spare held m 22 ((L.drop 1).take (Tryd.prog.cellsOf 22)) = some x1 := (hel 1 _ rfl).trans e1
  have h2 : DataW.trod enc Tryd.prog w base spare held m 3 ((L.drop 2).take (Tryd.prog.cellsOf 3)) = some x2 := (hel 2 _ rfl).trans e2
  have h3 : DataW.trod enc Tryd.prog w base spare held m 24 ((L.drop 3).take (Tryd.prog.cellsOf 24)) = some x3 := (hel 3 _ rfl).trans e3
  have h4 : DataW.trod enc Tryd.prog w base spare held m 22 ((L.drop 35).take (Tryd.prog.cellsOf 22)) = some x4 := (hel 4 _ rfl).trans e4
  have h5 : DataW.trod enc Tryd.prog w base spare held m 25 ((L.drop 36).take (Tryd.prog.cellsOf 25)) = some x5 := (hel 5 _ rfl).trans e5
  have h6 : DataW.trod enc Tryd.prog w base spare held m 27 ((L.drop 37).take (Tryd.prog.cellsOf 27)) = some x6 := (hel 6 _ rfl).trans e6
  rw [cells3] at h0 h2
  rw [cells22] at h1 h4
  rw [cells25] at h5
  rw [cells24] at h3
  rw [cells27] at h6
  obtain ⟨k, c0, _, _⟩ := DataW.trod_int Tryd.underlying3 h0
  obtain ⟨hh, c1, _, _⟩ := DataW.trod_int Tryd.underlying22 h1
  obtain ⟨r, c2, _, _⟩ := DataW.trod_int Tryd.underlying3 h2
  obtain ⟨X, hX, eX⟩ := open_arr Tryd.underlying24 cells24 h3
  obtain ⟨t, c4, _, _⟩ := DataW.trod_int Tryd.underlying22 h4
  obtain ⟨f, c5, _, _⟩ := DataW.trod_int Tryd.underlying25 h5
  obtain ⟨Y, hY, eY⟩ := open_arr Tryd.underlying27 cells27 h6
  refine ⟨⟨k, hh, r, X, t, f, Y⟩, ⟨hX, hY⟩, ?_⟩
  have d : ∀ o, L.drop o = (L.drop o).take 1 ++ L.drop (o + 1) := fun o => by
    rw [← List.drop_drop]
    exact (List.take_append_drop 1 (L.drop o)).symm
  have s3 : L.drop 3 = X.map bv ++ L.drop 35 := by
    rw [← eX, show (35 : Nat) = 3 + 32 from rfl, ← List.drop_drop]
    exact (List.take_append_drop 32 (L.drop 3)).symm
  have s37 : L.drop 37 = Y.map bv := by
    rw [← eY]
    exact (List.take_of_length_le (by simp; omega)).symm
  have s0 : L = (L.drop 0).take 1 ++ ((L.drop 1).take 1 ++ ((L.drop 2).take 1 ++ L.drop 3)) := by
    rw [← d 2, ← d 1, ← d 0]
    rfl
  have s35 : L.drop 35 = (L.drop 35).take 1 ++ ((L.drop 36).take 1 ++ L.drop 37) := by
    rw [← d 36, ← d 35]
  rw [s0, c0, c1, c2, s3, s35, c4, c5, s37]
  simp [Vt.cs]
end

theorem g0 : Tryd.prog.globalNamed "assent/tally.kinds" = some 0 := by kernel_rfl
theorem tg0 : (Tryd.prog.globals[0]?).map (·.type) = some 94 := by kernel_rfl
def laidA : List (String × DataW Unit) := [("assent/tally.kinds", Rows.laid_assent_tally_kinds)]
theorem doorA (os : Os) (args : Array Value) : laidMetH Tryd.prog laidA ((World.doorLaid Tryd.prog 4000 os).forCall (fun _ _ => 0) ⟨#[], args, []⟩).memory :=
  laidMetH_of_parts3 (fuel := 8) (laidMet_of_run' 8 (by kernel_rfl) (by kernel_rfl)) (by kernel_rfl) (by kernel_rfl)
theorem of_laidA {W : World} (h : laidMetH Tryd.prog laidA W) : LaidK W := by
  rw [MakeChecks.laidMetH_plain _ _ _ (by kernel_rfl)] at h
  obtain ⟨ps, ⟨g, t, cs, f, p, q, hg, ht, hv, hd, _⟩, _⟩ := h
  obtain rfl := Option.some.inj (g0.symm.trans hg)
  obtain rfl := Option.some.inj (tg0.symm.trans ht)
  obtain ⟨xs, m1, h1, hx1, hlen, hn, hel⟩ := DataW.trod_array Tryd.underlying94 hd
  have hx : xs.map (·.1) = [.lit (.int .i64 1), .lit (.int .i64 2)] := by
    have := congrArg Prod.fst hx1
    simpa [Rows.laid_assent_tally_kinds] using this.symm
  have key : ∀ j n, j < 2 → (xs.map (·.1))[j]? = some (.lit (.int .i64 n)) → cs[j]? = some (.int .i64 n) := fun j n hj hq => by
    have h0 := hel j hj
    obtain ⟨x, hxj⟩ : ∃ x, xs[j]? = some x := ⟨xs[j]'(by omega), List.getElem?_eq_getElem (by omega)⟩
    rw [hxj, cells3, Nat.mul_one] at h0
    obtain ⟨k, e1, e2, _⟩ := DataW.trod_int Tryd.underlying3 h0
    have h3 : (xs.map (·.1))[j]? = some x.1 := by simp [hxj]
    rw [hq, e2] at h3
    obtain rfl : n = k := by simpa using h3
    have := congrArg (·[0]?) e1
    simpa [List.getElem?_take, List.getElem?_drop] using this
  have k0 : W.cell? ⟨0, 0, none⟩ = some (.int .i64 1) := by rw [World.var?_cell hg hv 0]; exact key 0 1 (by omega) (by rw [hx]; rfl)
  have k1 : W.cell? ⟨0, 1, none⟩ = some (.int .i64 2) := by rw [World.var?_cell hg hv 1]; exact key 1 2 (by omega) (by rw [hx]; rfl)
  intro j x hj
  rcases j with _ | _ | j
  · obtain rfl : Value.int .i64 1 = x := by simpa using hj
    exact k0
  · obtain rfl : Value.int .i64 2 = x := by simpa using hj
    exact k1
  · simp at hj
/-- No vote. -/
def zeroVt : Array Value := #[.int .i64 0, .int .u64 0, .int .i64 0, .int .u8 0, .int .u8 0, .int .u8 0, .int .u8 0, .int .u8 0, .int .u8 0, .int .u8 0, .int .u8 0, .int .u8 0, .int .u8 0, .int .u8 0, .int .u8 0, .int .u8 0, .int .u8 0, .int .u8 0, .int .u8 0, .int .u8 0, .int .u8 0, .int .u8 0, .int .u8 0, .int .u8 0, .int .u8 0, .int .u8 0, .int .u8 0, .int .u8 0, .int .u8 0, .int .u8 0, .int .u8 0, .int .u8 0, .int .u8 0, .int .u8 0, .int .u8 0, .int .u64 0, .int .u64 0, .int .u8 0, .int .u8 0, .int .u8 0, .int .u8 0, .int .u8 0, .int .u8 0, .int .u8 0, .int .u8 0, .int .u8 0, .int .u8 0, .int .u8 0, .int .u8 0, .int .u8 0, .int .u8 0, .int .u8 0, .int .u8 0]

set_option maxRecDepth 100000 in
theorem nil_lifted (os : Os) (started : os.Started) (H : Type) (enc : TypeId × Value → H) :
    ReturnsInHanded {} Tryd.checked os 3 .any (fun w args => (Rows.tallyNilSpec.pre enc Tryd.prog Tryd.f3 [] false w args ∧ laidMetH Tryd.prog laidA w) ∧ sizedMet enc Tryd.prog Tryd.f3 (OpenSpec.ofChange Rows.tallyNilSpec) false w args)
      (Rows.tallyNilSpec.post enc Tryd.prog Tryd.f3 false true false false) := by
  refine returnsInHanded_of_change_and (C := Tryd.checked) (X := fun w _ => laidMetH Tryd.prog laidA w) (fun _ _ _ hh h => h.of_heap hh) own started (by kernel_rfl) Tryd.func3
    (ChangeSpec.witness_shaped (enc := enc) (C := Tryd.checked) (os := os) (X := fun w _ => laidMetH Tryd.prog laidA w) false (World.doorLaid Tryd.prog 4000 os) #[.agg zeroVt, .int .i64 0] 8 rfl (World.shaped_of_RefB (by kernel_rfl) (by kernel_rfl)) (by kernel_rfl) (by kernel_rfl) (by kernel_rfl) (doorA os _)) ?_
  intro W base args ds gs before hval0 hW hcnd hsz hL hx
  have hval : ∀ (j : Nat) t v, Tryd.f3.params[j]? = some t → args[j]? = some v → Value.okWide Tryd.prog W .any base t v := hval0
  have hW' := hW
  obtain ⟨p, q, hA0, hV, rfl, hfz, hnd⟩ := hW
  have hA : DataW.TrodAll enc Tryd.prog W 0 (fun _ => true) true Tryd.f3.params.toList args.toList ds p := hA0
  rw [Tryd.params3] at hA hval
  obtain ⟨v0, v1, d0, d1, p0, p1, rfl, rfl, rfl, h0, h1⟩ := trodAll_two hA
  obtain ⟨rfl, rfl⟩ := trodVars_none hV
  have k0 := h0
  have k1 := h1
  have lt0 : ∀ x ∈ p0, x.block < W.heap.size := by obtain ⟨m, hm⟩ := k0; exact DataW.trod_lt m _ _ _ hm
  have lt1 : ∀ x ∈ p1, x.block < W.heap.size := by obtain ⟨m, hm⟩ := k1; exact DataW.trod_lt m _ _ _ hm
  obtain ⟨cs, rfl, hz0, _⟩ : ∃ cs, v0 = .agg cs ∧ cs.size = Tryd.prog.cellsOf 29 ∧ Row.okWide Tryd.prog W .any base 29 cs := by
    have := hval 0 29 v0 rfl rfl
    simpa [Value.okWide, Tryd.underlying29] using this
  obtain ⟨r, rfl⟩ := okWide_int Tryd.underlying3 (hval 1 3 v1 rfl rfl)
  obtain ⟨m0, t0⟩ := h0
  obtain ⟨vt, hvt, eL⟩ := open_vt (L := cs.toList) t0
  have ecs : cs = vt.cs.toArray := by
    rw [← eL]
  subst ecs
  have hwalk := nil3 W vt hvt r (of_laidA hL)
  clear hA0 hval0
  refine hwalk.mono fun e W' ⟨he, tt⟩ => ?_
  subst he
  have bel := tt.below
  exact ⟨_, rfl, _, _, _, [], _, [], hW', trodAll_mk1 (shut_bool Tryd.underlying4 _), (trodAll_mk2 (Below.trod laidOut (by kernel_rfl) (of_decide_eq_true (by kernel_rfl)) k0 bel lt0) (Below.trod laidOut (by kernel_rfl) (of_decide_eq_true (by kernel_rfl)) k1 bel lt1)), rfl, bel.frame _, fun h => by cases h⟩

theorem nil_holds : Rows.TallyNilSaid :=
  OpenClaim.holds_of_wide 3 Tryd.f3 rfl rfl rfl rfl rfl rfl rfl ⟨rfl, rfl, rfl, rfl, rfl⟩ rfl rfl rfl rfl rfl (by kernel_rfl) Tryd.func3 (by kernel_rfl)
    (of_decide_eq_true (by kernel_rfl)) (by unfold Func.isWrapper; first | (rw [if_pos (by decide +kernel)]; kernel_rfl) | (rw [if_neg (by decide +kernel)]; exact ⟨rfl, rfl⟩))
    (fun os started H enc _ => nil_lifted os started H enc)

theorem nil_card : Rows.TallyNilCardSaid :=
  Claim7.holds_tied_plain_at .later [] [.data] true (true, "192a3edd15ddb236692a70bf5ddec7ef813e0c0a4516c542582682ac2808f1ea") false
    nil_holds (fun _ h => by cases h) (by kernel_rfl) (fun _ h => by cases h) tallyNil_row_tie rfl ⟨rfl, rfl⟩ (by kernel_rfl) rfl
    (fun f fn hf hfn => by
      obtain rfl : f = 3 := Option.some.inj ((show Tryd.prog.funcNamed "assent/assentlaw10.TallyNil" = some 3 by kernel_rfl).symm.trans hf) |>.symm
      obtain rfl : fn = Tryd.f3 := (Option.some.inj (Tryd.func3.symm.trans hfn)).symm
      exact ⟨by kernel_rfl, fun j t ht => by
        rw [Tryd.params3] at ht
        have hm : t ∈ [29, 3] := by simpa using Array.mem_of_getElem? ht
        have hall : ([29, 3].all fun u => !Tryd.prog.wantsStandIn u) = true := by kernel_rfl
        exact (show Tryd.prog.wantsStandIn t = false by simpa using List.all_eq_true.1 hall t hm)⟩)
    (by kernel_rfl)
#print axioms nil_card
end Go.Proofs.YtcjijofckjgikaaDoor
