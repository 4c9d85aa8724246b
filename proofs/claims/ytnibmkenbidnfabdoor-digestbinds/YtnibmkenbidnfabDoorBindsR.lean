/- DigestBinds: the arguments, read; the row and its card. -/
import Derived.Test.YtnibmkenbidnfabDoorK7
import Derived.Test.YtnibmkenbidnfabDoorListsR
namespace Go.Proofs.YtnibmkenbidnfabDoor
open Go.ChangeShapes Go.WideShapes Go.ChangeAt Go.RowKit Go.Joins Go.Deep
set_option linter.unusedVariables false

theorem cells3' : Tryd.prog.cellsOf 3 = 1 := by kernel_rfl
theorem cellsHs : Tryd.prog.cellsOf 32 = 1 := by kernel_rfl
theorem cellsP : Tryd.prog.cellsOf 34 = 3 := by kernel_rfl
theorem cellsH : Tryd.prog.cellsOf 25 = 32 := by kernel_rfl
theorem bytesH : Tryd.prog.bytesOf 25 = 32 := by kernel_rfl
def byteOfV : Value → UInt8
  | .int _ k => UInt8.ofNat k.toNat
  | _ => 0

theorem open_hash {H : Type} {enc : TypeId × Value → H} {w : World} {base : Nat} {spare : Nat → Bool} {held : Bool} {n : Nat} {cs : Array Value} {y : DataW H × List MemPlace}
    (h : DataW.trod enc Tryd.prog w base spare held n 25 cs.toList = some y) : ∃ X : List UInt8, X.length = 32 ∧ cs = (X.map bv).toArray := by
  obtain ⟨xs, m1, _, _, hlen, hn, hel⟩ := DataW.trod_array Tryd.underlying25 h
  rw [cellsH] at hlen
  refine ⟨cs.toList.map byteOfV, by simpa using hlen, ?_⟩
  apply Array.ext_getElem?
  intro j
  by_cases hj : j < 32
  · have h0 := hel j hj
    obtain ⟨x, hxj⟩ : ∃ x, xs[j]? = some x := ⟨xs[j]'(by omega), List.getElem?_eq_getElem (by omega)⟩
    rw [hxj, cells5', Nat.mul_one] at h0
    obtain ⟨k, e1, _, wk⟩ := DataW.trod_int Tryd.underlying5 h0
    have hc : cs[j]? = some (.int .u8 k) := by
      have := congrArg (·[0]?) e1
      simpa [List.getElem?_take, List.getElem?_drop] using this
    have hb := bounds_u8 wk
    rw [hc]
    have hjs : j < cs.size := by have h32 : cs.size = 32 := by simpa using hlen
                                 omega
    have hc' : cs[j] = .int .u8 k := by rw [Array.getElem?_eq_getElem hjs] at hc; exact Option.some.inj hc
    simp [hjs, hc', byteOfV, bv]
    omega
  · have h1 : cs.size = 32 := by simpa using hlen
    rw [Array.getElem?_eq_none (by omega), Array.getElem?_eq_none (by simp; omega)]

theorem three_of {α : Type} {L : List α} (h : L.length = 3) : ∃ a b c, L = [a, b, c] := by
  rcases L with _ | ⟨a, _ | ⟨b, _ | ⟨c, _ | ⟨d, L⟩⟩⟩⟩ <;> first | exact ⟨_, _, _, rfl⟩ | (simp at h)
section
variable {H : Type} {enc : TypeId × Value → H} {w : World} {base : Nat} {spare : Nat → Bool} {held : Bool}
set_option maxRecDepth 100000 in
theorem open_hs {n : Nat} {v : Value} {y : DataW H × List MemPlace} (h : DataW.trod enc Tryd.prog w base spare held n 32 [v] = some y) : ∃ l a cap, v = .slice a l.length cap ∧ HsAt w a cap l ∧ (l = [] ∨ ∃ es sp, y.1 = .slice es sp ∧ l.length ≤ es.length) := by
  rcases open_slice Tryd.underlying32 h with ⟨hcs, _⟩ | ⟨a, len, cap, m, n', D, Pl, hcs, _, hl, hm, hmm, hx, hel⟩
  · simp at hcs
    exact ⟨[], none, 0, hcs, ⟨(by simp), (by simp [maxLen]), (fun m hm => (by cases hm)), fun j m hm => (by simp at hm)⟩, .inl rfl⟩
  · simp at hcs
    have hlm : len ≤ m := by rw [hmm]; split <;> omega
    have hspot : 0 < len → ∃ b off, a = ⟨b, off, none⟩ := fun h0 => by
      obtain ⟨cs', h1, h2⟩ := hel 0 (by omega)
      rw [cellsH] at h1
      obtain ⟨_, hl', hc⟩ := World.cells?_some h1
      obtain ⟨b, off, spot⟩ := a
      have hc0 := World.cell?_spot ((hc 0 (by omega)).trans (List.getElem?_eq_getElem (by omega)))
      have hs : spot = none := by simpa [Addr.add] using hc0
      subst hs
      exact ⟨b, off, rfl⟩
    have hex : ∀ i, i < len → ∃ x : List UInt8, x.length = 32 ∧ ∃ b off, a = ⟨b, off, none⟩ ∧ w.rangeAt b (off + i * 32) (x.map bv) := by
      intro i hi
      obtain ⟨cs', h1, h2⟩ := hel i (by omega)
      rw [cellsH] at h1
      obtain ⟨x, hok, hx'⟩ := open_hash (cs := cs'.toArray) (by simpa using h2)
      have e : cs' = x.map bv := by simpa using congrArg Array.toList hx'
      subst e
      obtain ⟨_, hl', hc⟩ := World.cells?_some h1
      obtain ⟨b, off, rfl⟩ := hspot (by omega)
      refine ⟨x, hok, b, off, rfl, fun k u hu => ?_⟩
      have hk : k < 32 := by have := (List.getElem?_eq_some_iff.1 hu).1; rwa [List.length_map, hok] at this
      have := hc k hk
      rw [add3, Addr.add_lit, hu] at this
      simpa [Nat.add_assoc] using this
    obtain ⟨f, hf⟩ : ∃ f : Nat → List UInt8, ∀ i, i < len → ((f i).length = 32 ∧ ∃ b off, a = ⟨b, off, none⟩ ∧ w.rangeAt b (off + i * 32) ((f i).map bv)) :=
      ⟨fun i => if hi : i < len then (hex i hi).choose else [], fun i hi => by simp only [hi, dite_true]; exact (hex i hi).choose_spec⟩
    refine ⟨(List.range len).map f, some a, cap, by rw [hcs]; simp, ⟨by simpa using hl, hm, fun x hx => ?_, fun j g hg => ?_⟩, .inr ⟨_, _, by rw [hx], by simp⟩⟩
    · obtain ⟨i, hi, rfl⟩ := List.mem_map.1 hx
      exact (hf i (by simpa using hi)).1
    · rw [List.getElem?_map] at hg
      by_cases hj : j < len
      · rw [List.getElem?_range hj] at hg
        simp at hg
        rw [← hg]
        obtain ⟨_, b, off, rfl, r⟩ := hf j hj
        exact ⟨b, off, rfl, r⟩
      · rw [List.getElem?_eq_none (by simpa using hj)] at hg
        cases hg
/-- A proof. -/
theorem open_pf {n : Nat} {L : List Value} {y : DataW H × List MemPlace} (h : DataW.trod enc Tryd.prog w base spare held n 34 L = some y) : ∃ (t i : Int) (l : List (List UInt8)) (a : Option Addr) (cap : Nat), L = [.int .i64 t, .int .i64 i, .slice a l.length cap] ∧ HsAt w a cap l ∧ (l = [] ∨ ∃ x0 x1 es sp, y.1 = .agg [x0, x1, .slice es sp] ∧ l.length ≤ es.length) := by
  obtain ⟨xs, m, hm, hy, hlen, hn, hel⟩ := DataW.trod_struct Tryd.underlying34 h
  rw [cellsP] at hlen
  obtain ⟨u0, u1, u2, rfl⟩ := three_of hlen
  have hn3 : xs.length = 3 := hn
  obtain ⟨x0, x1, x2, rfl⟩ := three_of hn3
  have h0 : DataW.trod enc Tryd.prog w base spare held m 3 (([u0, u1, u2].drop 0).take (Tryd.prog.cellsOf 3)) = some x0 := (hel 0 _ rfl).trans rfl
  have h1 : DataW.trod enc Tryd.prog w base spare held m 3 (([u0, u1, u2].drop 1).take (Tryd.prog.cellsOf 3)) = some x1 := (hel 1 _ rfl).trans rfl
  have h2 : DataW.trod enc Tryd.prog w base spare held m 32 (([u0, u1, u2].drop 2).take (Tryd.prog.cellsOf 32)) = some x2 := (hel 2 _ rfl).trans rfl
  rw [cells3'] at h0 h1
  rw [cellsHs] at h2
  obtain ⟨k0, c0, _, _⟩ := DataW.trod_int Tryd.underlying3 h0
  obtain ⟨k1, c1, _, _⟩ := DataW.trod_int Tryd.underlying3 h1
  obtain ⟨l, a, cap, e2, hA, q⟩ := open_hs (v := u2) h2
  simp at c0 c1
  subst c0 c1 e2
  refine ⟨k0, k1, l, a, cap, rfl, hA, ?_⟩
  rcases q with q | ⟨es, sp, q, r⟩
  · exact .inl q
  · refine .inr ⟨x0.1, x1.1, es, sp, ?_, r⟩
    rw [hy]
    simp [q]
end
theorem pf_sized {H : Type} {ts : List TypeId} {ds : List (DataW H)} (hsz : (DataW.weightsEach Tryd.prog ts ds).all (· ≤ reachBytes) = true) {j : Nat} {d : DataW H} (ht : ts[j]? = some 34) (hd : ds[j]? = some d) {l : List (List UInt8)}
    (hw : l = [] ∨ ∃ x0 x1 es sp, d = .agg [x0, x1, .slice es sp] ∧ l.length ≤ es.length) : l.length * 32 ≤ 140737488351232 := by
  rcases hw with rfl | ⟨x0, x1, es, sp, rfl, hl⟩
  · simp
  · have := List.all_eq_true.1 hsz _ (DataW.weights_mem_each ht hd ((es.length + sp.length) * Tryd.prog.bytesOf 25) (by simp [DataW.weights, Tryd.underlying34, DataW.weightsEach, Tryd.underlying32]))
    rw [bytesH] at this
    have h2 : (es.length + sp.length) * 32 ≤ 140737488351232 := by
      have := of_decide_eq_true this
      exact this
    omega
set_option maxRecDepth 100000 in
set_option maxHeartbeats 4000000 in
theorem binds_lifted (os : Os) (started : os.Started) (H : Type) (enc : TypeId × Value → H) :
    ReturnsInHanded {} Tryd.checked os 4 .any (fun w args => (Rows.digestBindsSpec.pre enc Tryd.prog Tryd.f4 [] false w args ∧ laidMetH Tryd.prog laidB w) ∧ sizedMet enc Tryd.prog Tryd.f4 (OpenSpec.ofChange Rows.digestBindsSpec) false w args)
      (Rows.digestBindsSpec.post enc Tryd.prog Tryd.f4 false true false false) := by
  refine returnsInHanded_of_change_and (C := Tryd.checked) (X := fun w _ => laidMetH Tryd.prog laidB w) (fun _ _ _ hh h => h.of_heap hh) own started (by kernel_rfl) Tryd.func4
    (ChangeSpec.witness_shaped (enc := enc) (C := Tryd.checked) (os := os) (X := fun w _ => laidMetH Tryd.prog laidB w) false (World.doorLaid Tryd.prog 4000 os) #[.slice none 0 0, .agg #[.int .i64 0, .int .i64 0, .slice none 0 0], .slice none 0 0] 8 rfl (World.shaped_of_RefB (by kernel_rfl) (by kernel_rfl)) (by kernel_rfl) (by kernel_rfl) (by kernel_rfl) (doorB os _)) ?_
  intro W base args ds gs before hval0 hW hcnd hsz hL hx
  have hval : ∀ (j : Nat) t v, Tryd.f4.params[j]? = some t → args[j]? = some v → Value.okWide Tryd.prog W .any base t v := hval0
  have hW' := hW
  obtain ⟨p, q, hA0, hV, rfl, hfz, hnd⟩ := hW
  have hA : DataW.TrodAll enc Tryd.prog W 0 (fun _ => true) true Tryd.f4.params.toList args.toList ds p := hA0
  rw [Tryd.params4] at hA hval hsz
  obtain ⟨v0, v1, v2, d0, d1, d2, p0, p1, p2, rfl, rfl, rfl, h0, h1, h2⟩ := trodAll_three hA
  obtain ⟨rfl, rfl⟩ := trodVars_none hV
  have k0 := h0
  have k1 := h1
  have k2 := h2
  have lt0 : ∀ x ∈ p0, x.block < W.heap.size := by obtain ⟨m, hm⟩ := k0; exact DataW.trod_lt m _ _ _ hm
  have lt1 : ∀ x ∈ p1, x.block < W.heap.size := by obtain ⟨m, hm⟩ := k1; exact DataW.trod_lt m _ _ _ hm
  have lt2 : ∀ x ∈ p2, x.block < W.heap.size := by obtain ⟨m, hm⟩ := k2; exact DataW.trod_lt m _ _ _ hm
  obtain ⟨y1, y2, y3, rfl⟩ := okWide_slice Tryd.underlying22 (hval 0 22 v0 rfl rfl)
  obtain ⟨cs1, rfl, _, _⟩ : ∃ cs, v1 = .agg cs ∧ cs.size = Tryd.prog.cellsOf 34 ∧ Row.okWide Tryd.prog W .any base 34 cs := by
    have := hval 1 34 v1 rfl rfl
    simpa [Value.okWide, Tryd.underlying34] using this
  obtain ⟨x1, x2, x3, rfl⟩ := okWide_slice Tryd.underlying35 (hval 2 35 v2 rfl rfl)
  obtain ⟨m0, t0⟩ := h0
  obtain ⟨m1, t1⟩ := h1
  obtain ⟨m2, t2⟩ := h2
  obtain ⟨l, al, ca, e0, hl, hw0⟩ := open_bl (v := .slice y1 y2 y3) t0
  have hl := hl (bl_sized hsz (j := 0) rfl rfl hw0)
  obtain ⟨t, i, A, a, cap, e1, hH, hwH⟩ := open_pf (L := cs1.toList) t1
  obtain ⟨bs, hb, hw⟩ := open_bytes (v := .slice x1 x2 x3) t2
  obtain ⟨l0', l1⟩ := of_laidB hL
  have hc : cs1 = #[.int .i64 t, .int .i64 i, .slice a A.length cap] := by
    apply Array.ext'
    simpa using e1
  subst hc
  have hwalk := binds4 W l al ca hl t i A a cap hH _ bs hb l0' l1
  rw [← e0] at hwalk
  clear hA0 hval0
  refine hwalk.mono fun e W' ⟨he, tt⟩ => ?_
  subst he
  have bel := tt.below
  exact ⟨_, rfl, _, _, _, [], _, [], hW', trodAll_mk1 (shut_bool Tryd.underlying4 _), (trodAll_mk3 (Below.trod laidOutS (by kernel_rfl) (of_decide_eq_true (by kernel_rfl)) k0 bel lt0) (Below.trod laidOutS (by kernel_rfl) (of_decide_eq_true (by kernel_rfl)) k1 bel lt1) (Below.trod laidOutS (by kernel_rfl) (of_decide_eq_true (by kernel_rfl)) k2 bel lt2)), rfl, bel.frame _, fun h => by cases h⟩

theorem binds_holds : Rows.DigestBindsSaid :=
  OpenClaim.holds_of_wide 4 Tryd.f4 rfl rfl rfl rfl rfl rfl rfl ⟨rfl, rfl, rfl, rfl, rfl⟩ rfl rfl rfl rfl rfl (by kernel_rfl) Tryd.func4 (by kernel_rfl)
    (of_decide_eq_true (by kernel_rfl)) (by unfold Func.isWrapper; first | (rw [if_pos (by decide +kernel)]; kernel_rfl) | (rw [if_neg (by decide +kernel)]; exact ⟨rfl, rfl⟩))
    (fun os started H enc _ => binds_lifted os started H enc)

theorem binds_card : Rows.DigestBindsCardSaid :=
  Claim7.holds_tied_plain_at .later [] [.data, .data] true (true, "cdf091057bcac4fa151e8bc89906361983864f4ed4de20b5263ec95767216a14") false
    binds_holds (fun _ h => by cases h) (by kernel_rfl) (fun _ h => by cases h) digestBinds_row_tie rfl ⟨rfl, rfl⟩ (by kernel_rfl) rfl
    (fun f fn hf hfn => by
      obtain rfl : f = 4 := Option.some.inj ((show Tryd.prog.funcNamed "assent/assentlaw02.DigestBinds" = some 4 by kernel_rfl).symm.trans hf) |>.symm
      obtain rfl : fn = Tryd.f4 := (Option.some.inj (Tryd.func4.symm.trans hfn)).symm
      exact ⟨by kernel_rfl, fun j t ht => by
        rw [Tryd.params4] at ht
        have hm : t ∈ [22, 34, 35] := by simpa using Array.mem_of_getElem? ht
        have hall : ([22, 34, 35].all fun u => !Tryd.prog.wantsStandIn u) = true := by kernel_rfl
        exact (show Tryd.prog.wantsStandIn t = false by simpa using List.all_eq_true.1 hall t hm)⟩)
    (by kernel_rfl)
#print axioms binds_card
end Go.Proofs.YtnibmkenbidnfabDoor
