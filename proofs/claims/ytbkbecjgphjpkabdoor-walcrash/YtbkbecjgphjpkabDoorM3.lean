/- drop, losePower. -/
import Derived.Test.YtbkbecjgphjpkabDoorM2
namespace Go.Proofs.YtbkbecjgphjpkabDoor
open Go.RowKit Go.Maps
set_option linter.unusedVariables false
section
variable {w : World} {p : Nat} {K : Nat → Prop} {bf bt : Option Nat} {V : Nm → Value} {s : St}

theorem Inv.drop (h : Inv s) (nm : Nm) : Inv { s with fs := dropF nm s.fs } := by
  have hu := used_dropF nm s.fs h.sorted
  refine ⟨sorted_dropF h.sorted nm, fun f hf => h.names f (List.mem_filter.1 hf).1, fun f hf => h.sy f (List.mem_filter.1 hf).1, ?_, h.lim, ?_, h.arms, h.out⟩
  · have := h.used
    simp only
    omega
  · have := h.count
    have := List.length_filter_le (fun f : Pf => decide (f.nm ≠ nm)) s.fs
    simp only [dropF]
    omega

set_option maxRecDepth 100000 in
set_option maxHeartbeats 1000000 in
theorem losePower39 (h : Dp w p K bf bt V s) : Calls Tryd.prog 29 #[ptr p] w fun e w' => e = .returned (.tuple #[]) ∧ Dp w' p K bf none V { s with off := true } ∧ Turn (fun k => k = p) w w' := by
  have R0 := h.row
  have R1 := (R0.set 6 (.bool false)).set 5 (.map none)
  have T1 : Turn (fun k => k = p) w ((w.setCell ⟨p, 6, none⟩ (.bool false)).setCell ⟨p, 5, none⟩ (.map none)) := Turn.setCell (S := fun k => k = p) (Turn.setCell (S := fun k => k = p) (Turn.refl _ w) (p := ⟨p, 6, none⟩) (fun _ => rfl) _) (p := ⟨p, 5, none⟩) (fun _ => rfl) _
  have hEnd : Dp ((w.setCell ⟨p, 6, none⟩ (.bool false)).setCell ⟨p, 5, none⟩ (.map none)) p K bf none V { s with off := true } := by
    have hneP : ∀ f' ∈ s.fs, ∀ k, (V f'.nm).ownBlock = some k → k ≠ p := fun f' hf' k hk q => by
      subst q
      rcases (h.bytes f' hf').shape with ⟨e, _⟩ | ⟨g', cap, cur, e, ho', _⟩
      · rw [e] at hk; cases hk
      · rw [e] at hk; cases hk
        have := h.row
        unfold Row at this
        rw [ho'] at this
        simp at this
    refine ⟨⟨h.inv.sorted, h.inv.names, h.inv.sy, h.inv.used, h.inv.lim, h.inv.count, h.inv.arms, fun q => by cases q⟩, R1, h.kp, fun k hk => Nat.lt_of_lt_of_le (h.klt k hk) T1.size, ?_, Or.inl ⟨rfl, rfl⟩, fun f hf => (h.bytes f hf).turn T1 (fun g hg q => hneP f hf g hg q), h.owned, h.apart⟩
    rcases h.files with q | ⟨q, b, D, e, kb, o, fm⟩
    · exact Or.inl q
    · exact Or.inr ⟨q, b, D, e, kb, ownsMap_turn o T1 (fun q => row_not_map h.row o q), fm⟩
  have c6 := h.c6
  have f6 := R0.frozen 6
  have c5 : (w.setCell ⟨p, 6, none⟩ (.bool false)).cell? ⟨p, 5, none⟩ = some (.map bt) := (R0.set 6 (.bool false)).cell 5 _ rfl
  have f5 := (R0.set 6 (.bool false)).frozen 5
  clear h R0 R1
  unfold ptr at *
  go_enter Tryd.func29, Tryd.ntmps29
  go_wp2_with fail
  exact ⟨rfl, _, results_none rfl _ _ _, rfl, hEnd, T1⟩
end
end Go.Proofs.YtbkbecjgphjpkabDoor
