/- LedgerSeated, the row. -/
import Derived.Test.YtdbfbdhnjbmmjaaE2
import Derived.ProofKit
import Derived.OpenShut
import Derived.ChangeOld
import Derived.SizedLaws
import Derived.Lib.SmallJoins
import Derived.Deep.Slices
namespace Go.Proofs.Ytdbfbdhnjbmmjaa
open Go.ChangeShapes Go.WideShapes Go.ChangeAt Go.RowKit Go.Joins Go.Deep
set_option linter.unusedVariables false

theorem own : ownKnob Try.prog.godebug = none := by kernel_rfl
theorem laidOut : laidOutB Try.prog = true := by kernel_rfl
theorem cells39 : Try.prog.cellsOf 39 = 5 := by kernel_rfl
theorem cells25 : Try.prog.cellsOf 25 = 12 := by kernel_rfl
theorem bytes39 : Try.prog.bytesOf 39 = 40 := by kernel_rfl
theorem cells4 : Try.prog.cellsOf 4 = 1 := by kernel_rfl
theorem cells22 : Try.prog.cellsOf 22 = 1 := by kernel_rfl
theorem cells23 : Try.prog.cellsOf 23 = 1 := by kernel_rfl
theorem cells35 : Try.prog.cellsOf 35 = 1 := by kernel_rfl
theorem add5 (a : Addr) (l j : Nat) : (a.add l).add j = a.add (l + j) := by
  obtain ⟨b, o, s⟩ := a
  unfold Addr.add
  by_cases hl : l = 0
  · subst hl; simp
  · by_cases hj : j = 0
    · subst hj; simp [hl]
    · simp [hl, hj, Nat.add_assoc]
theorem choose_ltT {α : Type} (x0 : α) {n : Nat} {p : Nat → α → Prop} (h : ∀ i, i < n → ∃ x, p i x) : ∃ f : Nat → α, ∀ i, i < n → p i (f i) :=
  ⟨fun i => if hi : i < n then (h i hi).choose else x0, fun i hi => by simp only [hi, dite_true]; exact (h i hi).choose_spec⟩
theorem cut1 {L : List Value} {o : Nat} {v : Value} (h : (L.drop o).take 1 = [v]) : L[o]? = some v := by
  have := congrArg (·[0]?) h
  simpa [List.getElem?_take, List.getElem?_drop] using this
theorem u64_of {n : Int} (h : (Lit.int .u64 n).wf = true) : ∃ a : Nat, n = (a : Int) ∧ a < 18446744073709551616 := by
  simp only [Lit.wf, Bool.and_eq_true, decide_eq_true_eq] at h
  rw [show IntKind.u64.min = 0 by decide, show IntKind.u64.max = 18446744073709551615 by decide] at h
  exact ⟨n.toNat, by omega, by omega⟩
theorem twelve {L : List Value} (h : L.length = 12) : ∃ q0 q1 q2 q3 q4 q5 q6 q7 q8 q9 q10 q11, L = [q0, q1, q2, q3, q4, q5, q6, q7, q8, q9, q10, q11] := by
  rcases L with _ | ⟨q0, _ | ⟨q1, _ | ⟨q2, _ | ⟨q3, _ | ⟨q4, _ | ⟨q5, _ | ⟨q6, _ | ⟨q7, _ | ⟨q8, _ | ⟨q9, _ | ⟨q10, _ | ⟨q11, _ | ⟨q12, L⟩⟩⟩⟩⟩⟩⟩⟩⟩⟩⟩⟩⟩ <;> first | exact ⟨_, _, _, _, _, _, _, _, _, _, _, _, rfl⟩ | (simp at h)
def acV (m : Ac) : List Value := [.int .u64 m.ad, .int .u64 m.bal, .int .u64 m.bond, .int .u64 m.nonce, .bool m.jail]

section
variable {H : Type} {enc : TypeId × Value → H} {w : World} {base : Nat} {spare : Nat → Bool} {held : Bool}
theorem open_ac {n : Nat} {L : List Value} {y : DataW H × List MemPlace} (h : DataW.trod enc Try.prog w base spare held n 39 L = some y) : ∃ m : Ac, L = acV m ∧ m.ok := by
  obtain ⟨xs, m, _, _, hlen, hn, hel⟩ := DataW.trod_struct Try.underlying39 h
  rw [cells39] at hlen
  have hx : ∀ i, i < 5 → ∃ x, xs[i]? = some x := fun i hi => ⟨xs[i]'(by rw [hn]; exact hi), List.getElem?_eq_getElem _⟩
  obtain ⟨x0, e0⟩ := hx 0 (by omega)
  have h0 : DataW.trod enc Try.prog w base spare held m 35 ((L.drop 0).take (Try.prog.cellsOf 35)) = some x0 := (hel 0 _ rfl).trans e0
  rw [cells35] at h0
  obtain ⟨x1, e1⟩ := hx 1 (by omega)
  have h1 : DataW.trod enc Try.prog w base spare held m 23 ((L.drop 1).take (Try.prog.cellsOf 23)) = some x1 := (hel 1 _ rfl).trans e1
  rw [cells23] at h1
  obtain ⟨x2, e2⟩ := hx 2 (by omega)
  have h2 : DataW.trod enc Try.prog w base spare held m 23 ((L.drop 2).take (Try.prog.cellsOf 23)) = some x2 := (hel 2 _ rfl).trans e2
  rw [cells23] at h2
  obtain ⟨x3, e3⟩ := hx 3 (by omega)
  have h3 : DataW.trod enc Try.prog w base spare held m 23 ((L.drop 3).take (Try.prog.cellsOf 23)) = some x3 := (hel 3 _ rfl).trans e3
  rw [cells23] at h3
  obtain ⟨x4, e4⟩ := hx 4 (by omega)
  have h4 : DataW.trod enc Try.prog w base spare held m 4 ((L.drop 4).take (Try.prog.cellsOf 4)) = some x4 := (hel 4 _ rfl).trans e4
  rw [cells4] at h4
  obtain ⟨k0, c0, _, w0⟩ := DataW.trod_int Try.underlying35 h0
  obtain ⟨k1, c1, _, w1⟩ := DataW.trod_int Try.underlying23 h1
  obtain ⟨k2, c2, _, w2⟩ := DataW.trod_int Try.underlying23 h2
  obtain ⟨k3, c3, _, w3⟩ := DataW.trod_int Try.underlying23 h3
  obtain ⟨k4, c4, _⟩ := DataW.trod_bool Try.underlying4 h4
  obtain ⟨a0, rfl, ha0⟩ := u64_of w0
  obtain ⟨a1, rfl, ha1⟩ := u64_of w1
  obtain ⟨a2, rfl, ha2⟩ := u64_of w2
  obtain ⟨a3, rfl, ha3⟩ := u64_of w3
  refine ⟨⟨a0, a1, a2, a3, k4⟩, ?_, ha0, ha1, ha2, ha3⟩
  have d0 := cut1 c0
  have d1 := cut1 c1
  have d2 := cut1 c2
  have d3 := cut1 c3
  have d4 := cut1 c4
  apply List.ext_getElem?
  intro j
  match j with
  | 0 => simpa [acV] using d0
  | 1 => simpa [acV] using d1
  | 2 => simpa [acV] using d2
  | 3 => simpa [acV] using d3
  | 4 => simpa [acV] using d4
  | j + 5 => rw [List.getElem?_eq_none (by omega), List.getElem?_eq_none (by simp [acV])]
/-- The params: what is asked of them. -/
theorem open_par {n : Nat} {L : List Value} {y : DataW H × List MemPlace} (h : DataW.trod enc Try.prog w base spare held n 25 L = some y) : ∃ (mb : Nat) (st : Int), L[0]? = some (.int .u64 mb) ∧ L[1]? = some (.int .i64 st) ∧ L.length = 12 := by
  obtain ⟨xs, m, _, _, hlen, hn, hel⟩ := DataW.trod_struct Try.underlying25 h
  rw [cells25] at hlen
  have hx : ∀ i, i < 12 → ∃ x, xs[i]? = some x := fun i hi => ⟨xs[i]'(by rw [hn]; exact hi), List.getElem?_eq_getElem _⟩
  obtain ⟨x0, e0⟩ := hx 0 (by omega)
  obtain ⟨x1, e1⟩ := hx 1 (by omega)
  have h0 : DataW.trod enc Try.prog w base spare held m 23 ((L.drop 0).take (Try.prog.cellsOf 23)) = some x0 := (hel 0 _ rfl).trans e0
  have h1 : DataW.trod enc Try.prog w base spare held m 3 ((L.drop 1).take (Try.prog.cellsOf 3)) = some x1 := (hel 1 _ rfl).trans e1
  rw [show Try.prog.cellsOf 23 = 1 by kernel_rfl] at h0
  rw [show Try.prog.cellsOf 3 = 1 by kernel_rfl] at h1
  obtain ⟨k0, c0, _, w0⟩ := DataW.trod_int Try.underlying23 h0
  obtain ⟨k1, c1, _, w1⟩ := DataW.trod_int Try.underlying3 h1
  obtain ⟨a, rfl, ha⟩ := u64_of w0
  exact ⟨a, k1, cut1 c0, cut1 c1, hlen⟩

set_option maxRecDepth 100000 in
theorem open_as {n : Nat} {v : Value} {y : DataW H × List MemPlace} (h : DataW.trod enc Try.prog w base spare held n 22 [v] = some y) : ∃ l, As w v l ∧ (l = [] ∨ ∃ es sp, y.1 = .slice es sp ∧ l.length ≤ es.length) := by
  rcases open_slice Try.underlying22 h with ⟨hcs, _⟩ | ⟨a, len, cap, m, n', D, Pl, hcs, _, hl, hm, hmm, hx, hel⟩
  · simp at hcs
    exact ⟨[], ⟨none, 0, hcs, (by simp), (by simp [maxLen]), (fun m hm => (by cases hm)), fun j m hm => (by simp at hm)⟩, .inl rfl⟩
  · simp at hcs
    have hlm : len ≤ m := by rw [hmm]; split <;> omega
    have hspot : 0 < len → ∃ b off, a = ⟨b, off, none⟩ := fun h0 => by
      obtain ⟨cs', h1, h2⟩ := hel 0 (by omega)
      rw [cells39] at h1
      obtain ⟨_, hl', hc⟩ := World.cells?_some h1
      obtain ⟨b, off, spot⟩ := a
      have hc0 := World.cell?_spot ((hc 0 (by omega)).trans (List.getElem?_eq_getElem (by omega)))
      have hs : spot = none := by simpa [Addr.add] using hc0
      subst hs
      exact ⟨b, off, rfl⟩
    have hex : ∀ i, i < len → ∃ x : Ac, x.ok ∧ ∃ b off, a = ⟨b, off, none⟩ ∧ w.cell? ⟨b, off + i * 5, none⟩ = some (.int .u64 x.ad) ∧ w.cell? ⟨b, off + i * 5 + 1, none⟩ = some (.int .u64 x.bal) ∧ w.cell? ⟨b, off + i * 5 + 2, none⟩ = some (.int .u64 x.bond) ∧ w.cell? ⟨b, off + i * 5 + 3, none⟩ = some (.int .u64 x.nonce) ∧ w.cell? ⟨b, off + i * 5 + 4, none⟩ = some (.bool x.jail) := by
      intro i hi
      obtain ⟨cs', h1, h2⟩ := hel i (by omega)
      rw [cells39] at h1
      obtain ⟨x, rfl, hok⟩ := open_ac h2
      obtain ⟨_, hl', hc⟩ := World.cells?_some h1
      obtain ⟨b, off, rfl⟩ := hspot (by omega)
      refine ⟨x, hok, b, off, rfl, ?_, ?_, ?_, ?_, ?_⟩
      · have := hc 0 (by omega)
        rw [add5, Addr.add_lit] at this
        simpa [acV, Nat.add_assoc] using this
      · have := hc 1 (by omega)
        rw [add5, Addr.add_lit] at this
        simpa [acV, Nat.add_assoc] using this
      · have := hc 2 (by omega)
        rw [add5, Addr.add_lit] at this
        simpa [acV, Nat.add_assoc] using this
      · have := hc 3 (by omega)
        rw [add5, Addr.add_lit] at this
        simpa [acV, Nat.add_assoc] using this
      · have := hc 4 (by omega)
        rw [add5, Addr.add_lit] at this
        simpa [acV, Nat.add_assoc] using this
    obtain ⟨f, hf⟩ := choose_ltT (⟨0, 0, 0, 0, false⟩ : Ac) hex
    refine ⟨(List.range len).map f, ⟨some a, cap, by rw [hcs]; simp, by simpa using hl, hm, fun x hx => ?_, fun j g hg => ?_⟩, .inr ⟨_, _, by rw [hx], by simp⟩⟩
    · obtain ⟨i, hi, rfl⟩ := List.mem_map.1 hx
      exact (hf i (by simpa using hi)).1
    · rw [List.getElem?_map] at hg
      by_cases hj : j < len
      · rw [List.getElem?_range hj] at hg
        simp at hg
        rw [← hg]
        obtain ⟨_, b, off, rfl, r⟩ := hf j hj
        exact ⟨b, off, rfl, r⟩
      · rw [List.getElem?_eq_none (by simpa using hj)] at hg
        cases hg
end
theorem as_sized {H : Type} {ts : List TypeId} {ds : List (DataW H)} (hsz : (DataW.weightsEach Try.prog ts ds).all (· ≤ reachBytes) = true) {j : Nat} {d : DataW H} (ht : ts[j]? = some 22) (hd : ds[j]? = some d) {l : List Ac}
    (hw : l = [] ∨ ∃ es sp, d = .slice es sp ∧ l.length ≤ es.length) : l.length * 40 ≤ 140737488351232 := by
  rcases hw with rfl | ⟨es, sp, rfl, hl⟩
  · simp
  · have := sized_slice hsz (j := j) (t := 22) (e := 39) (elems := es) (spare := sp) ht hd Try.underlying22
    rw [bytes39] at this
    simp [reachBytes] at this
    omega

set_option maxRecDepth 100000 in
set_option maxHeartbeats 8000000 in
theorem seated_lifted (os : Os) (started : os.Started) (H : Type) (enc : TypeId × Value → H) :
    ReturnsInHanded {} Try.checked os 3 .any (Rows.ledgerSeatedSpec.pre6 enc Try.prog Try.f3 Rows.ledgerSeatedRow.domain false) (Rows.ledgerSeatedSpec.post enc Try.prog Try.f3 false true false false) := by
  refine returnsInHanded_of_change_sized (C := Try.checked) own started (by kernel_rfl) Try.func3
    (ChangeSpec.witness6 (enc := enc) (C := Try.checked) false ⟨#[], #[.slice none 0 0, .agg #[.int .u64 0, .int .i64 0, .int .u64 0, .int .u64 0, .int .u64 0, .int .i64 0, .int .u64 0, .int .u64 0, .int .u64 0, .int .u64 0, .int .u64 0, .int .u64 0]], []⟩ 8 (by kernel_rfl) (by kernel_rfl) (by kernel_rfl) (by kernel_rfl)) ?_
  intro W base args ds gs before hval0 hW hcnd hsz _
  have hval : ∀ (j : Nat) t v, Try.f3.params[j]? = some t → args[j]? = some v → Value.okWide Try.prog W .any base t v := hval0
  have hW' := hW
  obtain ⟨p, q, hA0, hV, rfl, hfz, hnd⟩ := hW
  have hA : DataW.TrodAll enc Try.prog W 0 (fun _ => true) true Try.f3.params.toList args.toList ds p := hA0
  rw [Try.params3] at hA hval hsz
  obtain ⟨v0, v1, d0, d1, p0, p1, rfl, rfl, rfl, h0, h1⟩ := trodAll_two hA
  obtain ⟨rfl, rfl⟩ := trodVars_none hV
  have k0 := h0
  have k1 := h1
  have lt0 : ∀ x ∈ p0, x.block < W.heap.size := by obtain ⟨m, hm⟩ := k0; exact DataW.trod_lt m _ _ _ hm
  have lt1 : ∀ x ∈ p1, x.block < W.heap.size := by obtain ⟨m, hm⟩ := k1; exact DataW.trod_lt m _ _ _ hm
  obtain ⟨a0, l0, c0, rfl⟩ := okWide_slice Try.underlying22 (hval 0 22 v0 rfl rfl)
  obtain ⟨cs, rfl, _, _⟩ : ∃ cs, v1 = .agg cs ∧ cs.size = Try.prog.cellsOf 25 ∧ Row.okWide Try.prog W .any base 25 cs := by
    have := hval 1 25 v1 rfl rfl
    simpa [Value.okWide, Try.underlying25] using this
  obtain ⟨m0, t0⟩ := h0
  obtain ⟨m1, t1⟩ := h1
  obtain ⟨l, M, hw⟩ := open_as (v := .slice a0 l0 c0) t0
  obtain ⟨mb, st, g0, g1, glen⟩ := open_par (L := cs.toList) t1
  have hle := as_sized hsz (j := 0) rfl rfl hw
  obtain ⟨cl⟩ := cs
  obtain ⟨q0, q1, q2, q3, q4, q5, q6, q7, q8, q9, q10, q11, rfl⟩ := twelve glen
  have e0 : q0 = .int .u64 mb := by simpa using g0
  have e1 : q1 = .int .i64 st := by simpa using g1
  subst e0
  subst e1
  clear hA0 hval0
  refine (seated3 W _ l M (by omega) mb st q2 q3 q4 q5 q6 q7 q8 q9 q10 q11).mono fun e W' ⟨he, tt⟩ => ?_
  subst he
  have bel := tt.below
  exact ⟨_, rfl, _, _, _, [], _, [], hW', trodAll_mk1 (shut_bool Try.underlying4 _), (trodAll_mk2 (Below.trod laidOut (by kernel_rfl) (of_decide_eq_true (by kernel_rfl)) k0 bel lt0) (Below.trod laidOut (by kernel_rfl) (of_decide_eq_true (by kernel_rfl)) k1 bel lt1)), rfl, bel.frame _, fun h => by cases h⟩

theorem seated_holds : Rows.LedgerSeatedSaid :=
  OpenClaim.holds_of_wide 3 Try.f3 rfl rfl rfl rfl rfl rfl rfl ⟨rfl, rfl, rfl, rfl, rfl⟩ rfl rfl rfl rfl rfl (by kernel_rfl) Try.func3 (by kernel_rfl)
    (of_decide_eq_true (by kernel_rfl)) (by unfold Func.isWrapper; first | (rw [if_pos (by decide +kernel)]; kernel_rfl) | (rw [if_neg (by decide +kernel)]; exact ⟨rfl, rfl⟩))
    (fun os started H enc _ => seated_lifted os started H enc)
#print axioms seated_holds
end Go.Proofs.Ytdbfbdhnjbmmjaa
