/- An account held against itself. -/
import Derived.Test.YtlacfenenbblaaaGreatDoorY1
import Derived.ChangeKeysEq
namespace Go.Proofs.YtlacfenenbblaaaGreatDoor
open Go.RowKit
set_option linter.unusedVariables false

theorem eqFields_self (w : World) (d : Nat) (xs : Array Value) : ∀ fs : List Field, (∀ f ∈ fs, ∃ v, (part f.type xs f.offset).run Tryz.prog w = .ok v w ∧ (Op.equalIn d f.type v v).run Tryz.prog w = .ok true w) → (Op.eqFields d xs xs fs).run Tryz.prog w = .ok true w
  | [], _ => by simp [Op.eqFields]
  | f :: fs, h => by
    obtain ⟨v, h1, h2⟩ := h f (by simp)
    have ih := eqFields_self w d xs fs (fun g hg => h g (by simp [hg]))
    simp only [Op.eqFields, Sem.run_bind, Sem.run_ite]
    split
    · simp only [h1, h2, Result.andThen_ok, Bool.not_true, Bool.false_eq_true, if_false]
      exact ih
    · exact ih
theorem cell_part {t : TypeId} (w : World) {xs : Array Value} {o : Nat} {v : Value} (ha : (isAgg t).run Tryz.prog w = .ok false w) (h : xs[o]? = some v) : (part t xs o).run Tryz.prog w = .ok v w := by
  simp [part, ha, h]
theorem fields32 : (Tryz.prog.fieldsOf 38).toList.map (fun f => (f.type, f.offset)) = [(27, 0), (24, 1), (24, 2), (24, 3), (4, 4)] := by kernel_rfl
theorem eq32v (w : World) (m : Ac) : (Op.equalIn 10000 38 (.agg (acs m).toArray) (.agg (acs m).toArray)).run Tryz.prog w = .ok true w := by
  rw [run_equalIn_struct w 9999 38 _ _ (by kernel_rfl) (by kernel_rfl)]
  refine eqFields_self w 9999 _ _ (fun f hf => ?_)
  have hm : (f.type, f.offset) ∈ [(27, 0), (24, 1), (24, 2), (24, 3), (4, 4)] := by
    rw [← fields32]
    exact List.mem_map.2 ⟨f, hf, rfl⟩
  generalize f.type = t at *
  generalize f.offset = o at *
  simp only [List.mem_cons, Prod.mk.injEq, List.not_mem_nil, or_false] at hm
  rcases hm with ⟨rfl, rfl⟩ | ⟨rfl, rfl⟩ | ⟨rfl, rfl⟩ | ⟨rfl, rfl⟩ | ⟨rfl, rfl⟩
  · exact ⟨_, cell_part w (v := .int .u64 m.ad) (by kernel_rfl) (by simp [acs]), by rw [run_equalIn_int w 9998 27 .u64 .u64 _ _ Tryz.underlying27]; simp⟩
  · exact ⟨_, cell_part w (v := .int .u64 m.bal) (by kernel_rfl) (by simp [acs]), by rw [run_equalIn_int w 9998 24 .u64 .u64 _ _ Tryz.underlying24]; simp⟩
  · exact ⟨_, cell_part w (v := .int .u64 m.bond) (by kernel_rfl) (by simp [acs]), by rw [run_equalIn_int w 9998 24 .u64 .u64 _ _ Tryz.underlying24]; simp⟩
  · exact ⟨_, cell_part w (v := .int .u64 m.nonce) (by kernel_rfl) (by simp [acs]), by rw [run_equalIn_int w 9998 24 .u64 .u64 _ _ Tryz.underlying24]; simp⟩
  · exact ⟨_, cell_part w (v := .bool m.jail) (by kernel_rfl) (by simp [acs]), by rw [run_equalIn_bool w 9998 4 _ _ Tryz.underlying4]; simp⟩
end Go.Proofs.YtlacfenenbblaaaGreatDoor


