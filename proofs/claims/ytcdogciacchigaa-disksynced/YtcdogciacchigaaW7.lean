/- DiskSynced, the row. -/
import Derived.Test.YtcdogciacchigaaW5
import Derived.Test.YtcdogciacchigaaFaultsR
import Derived.Carry
namespace Go.Proofs.Ytcdogciacchigaa
open Go.ChangeShapes Go.WideShapes Go.ChangeAt Go.RowKit Go.Joins Go.Deep
set_option linter.unusedVariables false

theorem script_len48 {H : Type} {ts : List TypeId} {ds : List (DataW H)} (hsz : (DataW.weightsEach Try.prog ts ds).all (· ≤ reachBytes) = true) {j : Nat} (ht : ts[j]? = some 53) {d : DataW H} (hd : ds[j]? = some d) {l : List Opx} (hw : l = [] ∨ ∃ es sp, d = .slice es sp ∧ l.length ≤ es.length) : (l.length + 1) * 48 ≤ 140737488355328 := by
  rcases hw with rfl | ⟨es, sp, hy, hl⟩
  · simp
  · have := sized_slice hsz (j := j) (t := 53) (e := 44) (elems := es) (spare := sp) ht (by rw [← hy]; exact hd) Try.underlying53
    rw [bytes44] at this
    simp [reachBytes] at this
    omega

set_option maxRecDepth 100000 in
theorem synced_lifted (os : Os) (started : os.Started) (H : Type) (enc : TypeId × Value → H) :
    ReturnsInHanded {} Try.checked os 5 .any (Rows.diskSyncedSpec.pre6 enc Try.prog Try.f5 Rows.diskSyncedRow.domain false) (Rows.diskSyncedSpec.post enc Try.prog Try.f5 false true false false) := by
  refine returnsInHanded_of_change_sized (C := Try.checked) own started (by kernel_rfl) Try.func5
    (ChangeSpec.witness6 (enc := enc) (C := Try.checked) false ⟨#[], #[.agg #[.int .i64 0, .bool false, .slice none 0 0], .slice none 0 0, .slice none 0 0, .int .u8 0], []⟩ 8 (by kernel_rfl) (by kernel_rfl) (by kernel_rfl) (by kernel_rfl)) ?_
  intro W base args ds gs before hval0 hW hcnd hsz _
  have hval : ∀ (j : Nat) t v, Try.f5.params[j]? = some t → args[j]? = some v → Value.okWide Try.prog W .any base t v := hval0
  have hW' := hW
  obtain ⟨p, q, hA0, hV, rfl, hfz, hnd⟩ := hW
  have hA : DataW.TrodAll enc Try.prog W 0 (fun _ => true) true Try.f5.params.toList args.toList ds p := hA0
  rw [Try.params5] at hA hval hsz
  obtain ⟨v0, v1, v2, v3, d0, d1, d2, d3, p0, p1, p2, p3, rfl, rfl, rfl, h0, h1, h2, h3⟩ := trodAll_four hA
  obtain ⟨rfl, rfl⟩ := trodVars_none hV
  have k0 := h0
  have k1 := h1
  have k2 := h2
  have k3 := h3
  have lt0 : ∀ x ∈ p0, x.block < W.heap.size := by obtain ⟨m, hm⟩ := k0; exact DataW.trod_lt m _ _ _ hm
  have lt1 : ∀ x ∈ p1, x.block < W.heap.size := by obtain ⟨m, hm⟩ := k1; exact DataW.trod_lt m _ _ _ hm
  have lt2 : ∀ x ∈ p2, x.block < W.heap.size := by obtain ⟨m, hm⟩ := k2; exact DataW.trod_lt m _ _ _ hm
  have lt3 : ∀ x ∈ p3, x.block < W.heap.size := by obtain ⟨m, hm⟩ := k3; exact DataW.trod_lt m _ _ _ hm
  obtain ⟨cs, rfl, _⟩ := okWide_struct Try.underlying52 (hval 0 52 v0 rfl rfl)
  obtain ⟨a1, n1, c1, rfl⟩ := okWide_slice Try.underlying53 (hval 1 53 v1 rfl rfl)
  obtain ⟨a2, n2, c2, rfl⟩ := okWide_slice Try.underlying39 (hval 2 39 v2 rfl rfl)
  obtain ⟨x3, rfl⟩ := okWide_int Try.underlying5 (hval 3 5 v3 rfl rfl)
  obtain ⟨m0, t0⟩ := h0
  obtain ⟨m1, t1⟩ := h1
  obtain ⟨m2, t2⟩ := h2
  obtain ⟨m3, t3⟩ := h3
  obtain ⟨b3, eb⟩ : ∃ b3 : UInt8, x3 = b3.toNat := by
    obtain ⟨k7, c7, _, w7⟩ := DataW.trod_int Try.underlying5 t3
    have c8 : [Value.int .u8 x3] = [Value.int .u8 k7] := c7
    have c9 : x3 = k7 := by injection c8 with c8 _; injection c8
    have hb7 := u8_wf w7
    refine ⟨UInt8.ofNat k7.toNat, ?_⟩
    rw [c9, UInt8.toNat_ofNat']
    omega
  subst eb
  obtain ⟨m, ma, mcap, em, hF⟩ := open_made (L := cs.toList) t0
  obtain ⟨l1, hS1, hw1⟩ := open_script (v := .slice a1 n1 c1) t1
  obtain ⟨ks, hks, hko⟩ := open_keep (v := .slice a2 n2 c2) t2
  have ecs : cs = mxC m ma mcap := by
    have := congrArg List.toArray em
    simpa using this
  subst ecs
  have hl1 := script_len48 hsz (j := 1) rfl rfl hw1
  clear hA0 hval0
  refine (synced_any W m ma mcap hF _ l1 hS1 hl1 _ ks hks hko b3).mono fun e W' ⟨he, tt⟩ => ?_
  subst he
  have bel := tt.below
  exact ⟨_, rfl, _, _, _, [], _, [], hW', trodAll_mk1 (shut_bool Try.underlying4 _), (trodAll_mk4 (Below.trod laidOut (by kernel_rfl) (of_decide_eq_true (by kernel_rfl)) k0 bel lt0) (Below.trod laidOut (by kernel_rfl) (of_decide_eq_true (by kernel_rfl)) k1 bel lt1) (Below.trod laidOut (by kernel_rfl) (of_decide_eq_true (by kernel_rfl)) k2 bel lt2) (Below.trod laidOut (by kernel_rfl) (of_decide_eq_true (by kernel_rfl)) k3 bel lt3)), rfl, bel.frame _, fun h => by cases h⟩

theorem synced_holds : Rows.DiskSyncedSaid :=
  OpenClaim.holds_of_wide 5 Try.f5 rfl rfl rfl rfl rfl rfl rfl ⟨rfl, rfl, rfl, rfl, rfl⟩ rfl rfl rfl rfl rfl (by kernel_rfl) Try.func5 (by kernel_rfl)
    (of_decide_eq_true (by kernel_rfl)) (by unfold Func.isWrapper; first | (rw [if_pos (by decide +kernel)]; kernel_rfl) | (rw [if_neg (by decide +kernel)]; exact ⟨rfl, rfl⟩))
    (fun os started H enc _ => synced_lifted os started H enc)
#print axioms synced_holds
end Go.Proofs.Ytcdogciacchigaa
