/- DigestPaths: the arguments, read; the row and its card. -/
import Derived.Test.YtnibmkenbidnfaaDoorJ7
import Derived.Test.YtnibmkenbidnfaaDoorSums
import Derived.Test.YtnibmkenbidnfaaDoorInners
import Derived.ProofKit
import Derived.OpenShut
import Derived.Deep.Slices
import Derived.Carry
namespace Go.Proofs.YtnibmkenbidnfaaDoor
open Go.ChangeShapes Go.WideShapes Go.ChangeAt Go.RowKit Go.Joins Go.Deep
set_option linter.unusedVariables false

theorem cells3' : Tryd.prog.cellsOf 3 = 1 := by kernel_rfl
theorem cells50 : Tryd.prog.cellsOf 50 = 1 := by kernel_rfl
theorem cells52 : Tryd.prog.cellsOf 52 = 3 := by kernel_rfl
theorem bytes35 : Tryd.prog.bytesOf 35 = 32 := by kernel_rfl
theorem add3 (a : Addr) (l j : Nat) : (a.add l).add j = a.add (l + j) := by
  obtain ⟨b, o, s⟩ := a
  unfold Addr.add
  by_cases hl : l = 0
  · subst hl; simp
  · by_cases hj : j = 0
    · subst hj; simp [hl]
    · simp [hl, hj, Nat.add_assoc]
theorem three_of {α : Type} {L : List α} (h : L.length = 3) : ∃ a b c, L = [a, b, c] := by
  rcases L with _ | ⟨a, _ | ⟨b, _ | ⟨c, _ | ⟨d, L⟩⟩⟩⟩ <;> first | exact ⟨_, _, _, rfl⟩ | (simp at h)
section
variable {H : Type} {enc : TypeId × Value → H} {w : World} {base : Nat} {spare : Nat → Bool} {held : Bool}
set_option maxRecDepth 100000 in
theorem open_hs {n : Nat} {v : Value} {y : DataW H × List MemPlace} (h : DataW.trod enc Tryd.prog w base spare held n 50 [v] = some y) : ∃ l a cap, v = .slice a l.length cap ∧ HsAt w a cap l ∧ (l = [] ∨ ∃ es sp, y.1 = .slice es sp ∧ l.length ≤ es.length) := by
  rcases open_slice Tryd.underlying50 h with ⟨hcs, _⟩ | ⟨a, len, cap, m, n', D, Pl, hcs, _, hl, hm, hmm, hx, hel⟩
  · simp at hcs
    exact ⟨[], none, 0, hcs, ⟨(by simp), (by simp [maxLen]), (fun m hm => (by cases hm)), fun j m hm => (by simp at hm)⟩, .inl rfl⟩
  · simp at hcs
    have hlm : len ≤ m := by rw [hmm]; split <;> omega
    have hspot : 0 < len → ∃ b off, a = ⟨b, off, none⟩ := fun h0 => by
      obtain ⟨cs', h1, h2⟩ := hel 0 (by omega)
      rw [cells35] at h1
      obtain ⟨_, hl', hc⟩ := World.cells?_some h1
      obtain ⟨b, off, spot⟩ := a
      have hc0 := World.cell?_spot ((hc 0 (by omega)).trans (List.getElem?_eq_getElem (by omega)))
      have hs : spot = none := by simpa [Addr.add] using hc0
      subst hs
      exact ⟨b, off, rfl⟩
    have hex : ∀ i, i < len → ∃ x : List UInt8, x.length = 32 ∧ ∃ b off, a = ⟨b, off, none⟩ ∧ w.rangeAt b (off + i * 32) (x.map bv) := by
      intro i hi
      obtain ⟨cs', h1, h2⟩ := hel i (by omega)
      rw [cells35] at h1
      obtain ⟨x, hok, hx'⟩ := open_hash (cs := cs'.toArray) (by simpa using h2)
      have e : cs' = x.map bv := by simpa using congrArg Array.toList hx'
      subst e
      obtain ⟨_, hl', hc⟩ := World.cells?_some h1
      obtain ⟨b, off, rfl⟩ := hspot (by omega)
      refine ⟨x, hok, b, off, rfl, fun k u hu => ?_⟩
      have hk : k < 32 := by have := (List.getElem?_eq_some_iff.1 hu).1; rwa [List.length_map, hok] at this
      have := hc k hk
      rw [add3, Addr.add_lit, hu] at this
      simpa [Nat.add_assoc] using this
    obtain ⟨f, hf⟩ : ∃ f : Nat → List UInt8, ∀ i, i < len → ((f i).length = 32 ∧ ∃ b off, a = ⟨b, off, none⟩ ∧ w.rangeAt b (off + i * 32) ((f i).map bv)) :=
      ⟨fun i => if hi : i < len then (hex i hi).choose else [], fun i hi => by simp only [hi, dite_true]; exact (hex i hi).choose_spec⟩
    refine ⟨(List.range len).map f, some a, cap, by rw [hcs]; simp, ⟨by simpa using hl, hm, fun x hx => ?_, fun j g hg => ?_⟩, .inr ⟨_, _, by rw [hx], by simp⟩⟩
    · obtain ⟨i, hi, rfl⟩ := List.mem_map.1 hx
      exact (hf i (by simpa using hi)).1
    · rw [List.getElem?_map] at hg
      by_cases hj : j < len
      · rw [List.getElem?_range hj] at hg
        simp at hg
        rw [← hg]
        obtain ⟨_, b, off, rfl, r⟩ := hf j hj
        exact ⟨b, off, rfl, r⟩
      · rw [List.getElem?_eq_none (by simpa using hj)] at hg
        cases hg
/-- A proof. -/
theorem open_pf {n : Nat} {L : List Value} {y : DataW H × List MemPlace} (h : DataW.trod enc Tryd.prog w base spare held n 52 L = some y) : ∃ (t i : Int) (l : List (List UInt8)) (a : Option Addr) (cap : Nat), L = [.int .i64 t, .int .i64 i, .slice a l.length cap] ∧ HsAt w a cap l ∧ (l = [] ∨ ∃ x0 x1 es sp, y.1 = .agg [x0, x1, .slice es sp] ∧ l.length ≤ es.length) := by
  obtain ⟨xs, m, hm, hy, hlen, hn, hel⟩ := DataW.trod_struct Tryd.underlying52 h
  rw [cells52] at hlen
  obtain ⟨u0, u1, u2, rfl⟩ := three_of hlen
  have hn3 : xs.length = 3 := hn
  obtain ⟨x0, x1, x2, rfl⟩ := three_of hn3
  have h0 : DataW.trod enc Tryd.prog w base spare held m 3 (([u0, u1, u2].drop 0).take (Tryd.prog.cellsOf 3)) = some x0 := (hel 0 _ rfl).trans rfl
  have h1 : DataW.trod enc Tryd.prog w base spare held m 3 (([u0, u1, u2].drop 1).take (Tryd.prog.cellsOf 3)) = some x1 := (hel 1 _ rfl).trans rfl
  have h2 : DataW.trod enc Tryd.prog w base spare held m 50 (([u0, u1, u2].drop 2).take (Tryd.prog.cellsOf 50)) = some x2 := (hel 2 _ rfl).trans rfl
  rw [cells3'] at h0 h1
  rw [cells50] at h2
  obtain ⟨k0, c0, _, _⟩ := DataW.trod_int Tryd.underlying3 h0
  obtain ⟨k1, c1, _, _⟩ := DataW.trod_int Tryd.underlying3 h1
  obtain ⟨l, a, cap, e2, hA, q⟩ := open_hs (v := u2) h2
  simp at c0 c1
  subst c0 c1 e2
  refine ⟨k0, k1, l, a, cap, rfl, hA, ?_⟩
  rcases q with q | ⟨es, sp, q, r⟩
  · exact .inl q
  · refine .inr ⟨x0.1, x1.1, es, sp, ?_, r⟩
    rw [hy]
    simp [q]
end
theorem pf_sized {H : Type} {ts : List TypeId} {ds : List (DataW H)} (hsz : (DataW.weightsEach Tryd.prog ts ds).all (· ≤ reachBytes) = true) {j : Nat} {d : DataW H} (ht : ts[j]? = some 52) (hd : ds[j]? = some d) {l : List (List UInt8)}
    (hw : l = [] ∨ ∃ x0 x1 es sp, d = .agg [x0, x1, .slice es sp] ∧ l.length ≤ es.length) : l.length * 32 ≤ 140737488351232 := by
  rcases hw with rfl | ⟨x0, x1, es, sp, rfl, hl⟩
  · simp
  · have := List.all_eq_true.1 hsz _ (DataW.weights_mem_each ht hd ((es.length + sp.length) * Tryd.prog.bytesOf 35) (by simp [DataW.weights, Tryd.underlying52, DataW.weightsEach, Tryd.underlying50]))
    rw [bytes35] at this
    have h2 : (es.length + sp.length) * 32 ≤ 140737488351232 := by
      have := of_decide_eq_true this
      exact this
    omega
set_option maxRecDepth 100000 in
set_option maxHeartbeats 4000000 in
theorem paths_lifted (os : Os) (started : os.Started) (H : Type) (enc : TypeId × Value → H) :
    ReturnsInHanded {} Tryd.checked os 8 .any (fun w args => (Rows.digestPathsSpec.pre enc Tryd.prog Tryd.f8 [] false w args ∧ laidMetH Tryd.prog laidB w) ∧ sizedMet enc Tryd.prog Tryd.f8 (OpenSpec.ofChange Rows.digestPathsSpec) false w args)
      (Rows.digestPathsSpec.post enc Tryd.prog Tryd.f8 false true false false) := by
  refine returnsInHanded_of_change_and (C := Tryd.checked) (X := fun w _ => laidMetH Tryd.prog laidB w) (fun _ _ _ hh h => h.of_heap hh) own started (by kernel_rfl) Tryd.func8
    (ChangeSpec.witness_shaped (enc := enc) (C := Tryd.checked) (os := os) (X := fun w _ => laidMetH Tryd.prog laidB w) false (World.doorLaid Tryd.prog 4000 os) #[.agg zeroH, .agg #[.int .i64 0, .int .i64 0, .slice none 0 0], .slice none 0 0] 8 rfl (World.shaped_of_RefB (by kernel_rfl) (by kernel_rfl)) (by kernel_rfl) (by kernel_rfl) (by kernel_rfl) (doorB os _)) ?_
  intro W base args ds gs before hval0 hW hcnd hsz hL hx
  have hval : ∀ (j : Nat) t v, Tryd.f8.params[j]? = some t → args[j]? = some v → Value.okWide Tryd.prog W .any base t v := hval0
  have hW' := hW
  obtain ⟨p, q, hA0, hV, rfl, hfz, hnd⟩ := hW
  have hA : DataW.TrodAll enc Tryd.prog W 0 (fun _ => true) true Tryd.f8.params.toList args.toList ds p := hA0
  rw [Tryd.params8] at hA hval hsz
  obtain ⟨v0, v1, v2, d0, d1, d2, p0, p1, p2, rfl, rfl, rfl, h0, h1, h2⟩ := trodAll_three hA
  obtain ⟨rfl, rfl⟩ := trodVars_none hV
  have k0 := h0
  have k1 := h1
  have k2 := h2
  have lt0 : ∀ x ∈ p0, x.block < W.heap.size := by obtain ⟨m, hm⟩ := k0; exact DataW.trod_lt m _ _ _ hm
  have lt1 : ∀ x ∈ p1, x.block < W.heap.size := by obtain ⟨m, hm⟩ := k1; exact DataW.trod_lt m _ _ _ hm
  have lt2 : ∀ x ∈ p2, x.block < W.heap.size := by obtain ⟨m, hm⟩ := k2; exact DataW.trod_lt m _ _ _ hm
  obtain ⟨cs0, rfl, _, _⟩ : ∃ cs, v0 = .agg cs ∧ cs.size = Tryd.prog.cellsOf 35 ∧ Row.okWide Tryd.prog W .any base 35 cs := by
    have := hval 0 35 v0 rfl rfl
    simpa [Value.okWide, Tryd.underlying35] using this
  obtain ⟨cs1, rfl, _, _⟩ : ∃ cs, v1 = .agg cs ∧ cs.size = Tryd.prog.cellsOf 52 ∧ Row.okWide Tryd.prog W .any base 52 cs := by
    have := hval 1 52 v1 rfl rfl
    simpa [Value.okWide, Tryd.underlying52] using this
  obtain ⟨x1, x2, x3, rfl⟩ := okWide_slice Tryd.underlying22 (hval 2 22 v2 rfl rfl)
  obtain ⟨m0, t0⟩ := h0
  obtain ⟨m1, t1⟩ := h1
  obtain ⟨m2, t2⟩ := h2
  obtain ⟨rt, hrt, e0⟩ := open_hash t0
  obtain ⟨t, i, l, a, cap, e1, hH, hwH⟩ := open_pf (L := cs1.toList) t1
  obtain ⟨bs, hb, hw⟩ := open_bytes (v := .slice x1 x2 x3) t2
  have hleH := pf_sized hsz (j := 1) rfl rfl hwH
  have hle : bs.length ≤ 140737488351232 := by
    rcases hw with ⟨_, rfl⟩ | ⟨es, sp, hy, hl⟩
    · simp
    · have hsz' : (DataW.weightsEach Tryd.prog [35, 52, 22] [d0, d1, d2]).all (· ≤ reachBytes) = true := hsz
      have := sized_slice hsz' (j := 2) (t := 22) (e := 5) (elems := es) (spare := sp) rfl (by rw [← hy]; rfl) Tryd.underlying22
      rw [bytes5'] at this
      simp [reachBytes] at this
      omega
  obtain ⟨l0', l1⟩ := of_laidB hL
  have hc : cs1 = #[.int .i64 t, .int .i64 i, .slice a l.length cap] := by
    apply Array.ext'
    simpa using e1
  subst hc
  have hwalk := paths8 W rt hrt t i l a cap hH hleH _ bs hb (by omega) l0' l1
  rw [show hb32 rt = cs0 from e0.symm] at hwalk
  clear hA0 hval0
  refine hwalk.mono fun e W' ⟨he, tt⟩ => ?_
  subst he
  have bel := tt.below
  exact ⟨_, rfl, _, _, _, [], _, [], hW', trodAll_mk1 (shut_bool Tryd.underlying4 _), (trodAll_mk3 (Below.trod laidOutS (by kernel_rfl) (of_decide_eq_true (by kernel_rfl)) k0 bel lt0) (Below.trod laidOutS (by kernel_rfl) (of_decide_eq_true (by kernel_rfl)) k1 bel lt1) (Below.trod laidOutS (by kernel_rfl) (of_decide_eq_true (by kernel_rfl)) k2 bel lt2)), rfl, bel.frame _, fun h => by cases h⟩

theorem paths_holds : Rows.DigestPathsSaid :=
  OpenClaim.holds_of_wide 8 Tryd.f8 rfl rfl rfl rfl rfl rfl rfl ⟨rfl, rfl, rfl, rfl, rfl⟩ rfl rfl rfl rfl rfl (by kernel_rfl) Tryd.func8 (by kernel_rfl)
    (of_decide_eq_true (by kernel_rfl)) (by unfold Func.isWrapper; first | (rw [if_pos (by decide +kernel)]; kernel_rfl) | (rw [if_neg (by decide +kernel)]; exact ⟨rfl, rfl⟩))
    (fun os started H enc _ => paths_lifted os started H enc)

theorem paths_card : Rows.DigestPathsCardSaid :=
  Claim7.holds_tied_plain_at .later [] [.data, .data] true (true, "0c7db1e99e01b238f159755f0328a9de0abbc6454fe562d09476a2eb567108cd") false
    paths_holds (fun _ h => by cases h) (by kernel_rfl) (fun _ h => by cases h) digestPaths_row_tie rfl ⟨rfl, rfl⟩ (by kernel_rfl) rfl
    (fun f fn hf hfn => by
      obtain rfl : f = 8 := Option.some.inj ((show Tryd.prog.funcNamed "assent/assentlaw02.DigestPaths" = some 8 by kernel_rfl).symm.trans hf) |>.symm
      obtain rfl : fn = Tryd.f8 := (Option.some.inj (Tryd.func8.symm.trans hfn)).symm
      exact ⟨by kernel_rfl, fun j t ht => by
        rw [Tryd.params8] at ht
        have hm : t ∈ [35, 52, 22] := by simpa using Array.mem_of_getElem? ht
        have hall : ([35, 52, 22].all fun u => !Tryd.prog.wantsStandIn u) = true := by kernel_rfl
        exact (show Tryd.prog.wantsStandIn t = false by simpa using List.all_eq_true.1 hall t hm)⟩)
    (by kernel_rfl)
#print axioms paths_card
end Go.Proofs.YtnibmkenbidnfaaDoor
