/- CodecNils, the row. -/
import Derived.Test.YtfjdojodbhmmaaaNilsW
import Derived.Test.YtfjdojodbhmmaaaOpen
namespace Go.Proofs.Ytfjdojodbhmmaaa
open Go.ChangeShapes Go.WideShapes Go.ChangeAt Go.RowKit Go.Joins
set_option linter.unusedVariables false

set_option maxRecDepth 100000 in
theorem nils_lifted (os : Os) (started : os.Started) (H : Type) (enc : TypeId × Value → H) :
    ReturnsInHanded {} Try.checked os 6 .any (Rows.codecNilsSpec.pre6 enc Try.prog Try.f6 Rows.codecNilsRow.domain false) (Rows.codecNilsSpec.post enc Try.prog Try.f6 false true false false) := by
  refine returnsInHanded_of_change_sized (C := Try.checked) own started (by kernel_rfl) Try.func6
    (ChangeSpec.witness6 (enc := enc) (C := Try.checked) false ⟨#[], #[.agg #[.int .i64 0, .int .u64 0, .slice none 0 0], .agg #[.int .i64 0, .int .i64 0, .int .i64 0]], []⟩ 8 (by kernel_rfl) (by kernel_rfl) (by kernel_rfl) (by kernel_rfl)) ?_
  intro W base args ds gs before hval0 hW hcnd hsz _
  have hval : ∀ (j : Nat) t v, Try.f6.params[j]? = some t → args[j]? = some v → Value.okWide Try.prog W .any base t v := hval0
  have hW' := hW
  obtain ⟨p, q, hA0, hV, rfl, hfz, hnd⟩ := hW
  have hA : DataW.TrodAll enc Try.prog W 0 (fun _ => true) true Try.f6.params.toList args.toList ds p := hA0
  rw [Try.params6] at hA hval hsz
  obtain ⟨v0, v1, d0, d1, p0, p1, rfl, rfl, rfl, h0, h1⟩ := trodAll_two hA
  obtain ⟨rfl, rfl⟩ := trodVars_none hV
  have k0 := h0
  have k1 := h1
  have lt0 : ∀ x ∈ p0, x.block < W.heap.size := by obtain ⟨m, hm⟩ := k0; exact DataW.trod_lt m _ _ _ hm
  have lt1 : ∀ x ∈ p1, x.block < W.heap.size := by obtain ⟨m, hm⟩ := k1; exact DataW.trod_lt m _ _ _ hm
  obtain ⟨c0, c1, c2, y0, y1, y2, m, rfl, hd, _, t0, t1, t2⟩ := open_agg3 Try.underlying27 (by kernel_rfl) Try.cells27 (hval 0 27 v0 rfl rfl) h0
  obtain ⟨kk, e0, _, _⟩ := DataW.trod_int Try.underlying3 t0
  obtain ⟨nn, e1, _, _⟩ := DataW.trod_int Try.underlying24 t1
  obtain ⟨bs, hb, hw⟩ := open_bytes t2
  obtain ⟨g0, g1, g2, z0, z1, z2, m', rfl, _, _, s0, s1, s2⟩ := open_agg3 Try.underlying48 (by kernel_rfl) Try.cells48 (hval 1 48 v1 rfl rfl) h1
  obtain ⟨gk, f0, _, _⟩ := DataW.trod_int Try.underlying3 s0
  obtain ⟨ga, f1, _, _⟩ := DataW.trod_int Try.underlying3 s1
  obtain ⟨gb, f2, _, _⟩ := DataW.trod_int Try.underlying3 s2
  simp at e0 e1 f0 f1 f2
  subst e0 e1 f0 f1 f2
  have hle : bs.length + 3 ≤ 140737488355328 := by
    rcases hw with ⟨_, rfl⟩ | ⟨es, sp, hy, hl⟩
    · simp
    · have hsz' : (DataW.weightsEach Try.prog [27, 48] [d0, d1]).all (· ≤ reachBytes) = true := hsz
      have := List.all_eq_true.1 hsz' _ (DataW.weights_mem_each (j := 0) (t := 27) (d := d0) rfl rfl ((es.length + sp.length) * Try.prog.bytesOf 5) (by
        rw [hd]
        simp [DataW.weights, DataW.weightsEach, Try.underlying27, Try.underlying25, hy]))
      rw [Try.bytes5] at this
      simp [reachBytes] at this
      omega
  clear hA0 hval0
  refine (nils_walk W kk nn c2 bs gk ga gb hb hle).mono fun e W' ⟨he, tt⟩ => ?_
  subst he
  have bel := tt.below
  exact ⟨_, rfl, _, _, _, [], _, [], hW', trodAll_mk1 (shut_bool Try.underlying4 _), (trodAll_mk2 (Below.trod laidOut (by kernel_rfl) (of_decide_eq_true (by kernel_rfl)) k0 bel lt0) (Below.trod laidOut (by kernel_rfl) (of_decide_eq_true (by kernel_rfl)) k1 bel lt1)), rfl, bel.frame _, fun h => by cases h⟩

theorem nils_holds : Rows.CodecNilsSaid :=
  OpenClaim.holds_of_wide 6 Try.f6 rfl rfl rfl rfl rfl rfl rfl ⟨rfl, rfl, rfl, rfl, rfl⟩ rfl rfl rfl rfl rfl (by kernel_rfl) Try.func6 (by kernel_rfl)
    (of_decide_eq_true (by kernel_rfl)) (by unfold Func.isWrapper; first | (rw [if_pos (by decide +kernel)]; kernel_rfl) | (rw [if_neg (by decide +kernel)]; exact ⟨rfl, rfl⟩))
    (fun os started H enc _ => nils_lifted os started H enc)
#print axioms nils_holds
end Go.Proofs.Ytfjdojodbhmmaaa
