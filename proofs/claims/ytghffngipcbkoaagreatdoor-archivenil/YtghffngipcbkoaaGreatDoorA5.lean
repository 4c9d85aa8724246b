/- How ArchiveNil is left. -/
import Derived.Test.YtghffngipcbkoaaGreatDoorA3
namespace Go.Proofs.YtghffngipcbkoaaGreatDoor
open Go.RowKit Go.Shelf
set_option linter.unusedVariables false

theorem putObj_turn (W : World) (l : Nat) (o : Obj) : Turn (fun k => k = l) W (W.putObj l o) :=
  have g := grownBy_putObj' W l o
  ⟨g.os, g.tape, g.output, g.size, fun k hk q => g.block k hk (fun e => q (Option.some.inj e))⟩
theorem results_bool {P : Program} {fn : Func} {p : Tmp} {ty : TypeId} (h : fn.results = #[.cell p ty]) (tmps : Array Value) (w : World) (g : Nat) (b : Bool)
    (hp : tmps.getD p undef = .pointer (some ⟨g, 0, none⟩)) (hc : w.cell? ⟨g, 0, none⟩ = some (.bool b)) (hu : P.underlying ty = some .bool) :
    (results fn tmps).run P w = .ok (.bool b) w := by
  have hp' : tmps[p]?.getD undef = .pointer (some ⟨g, 0, none⟩) := by simpa using hp
  simp only [results, h]
  simp [Sem.run_bind, hp', asAddr, loadVar, isAgg, run_underlying hu, hc]
theorem leaves {fn : Func} {p : Tmp} (h : fn.results = #[.cell p 4]) (tmps : Array Value) (w W : World) (g D0 D1 : Nat) (hp : tmps.getD p undef = .pointer (some ⟨g, 0, none⟩)) (t : Turn no w W) (hg : w.heap.size ≤ g)
    (hc : W.cell? ⟨g, 0, none⟩ = some (.bool false)) (h0 : W.heap[D0]? = some (.deferred (some []))) (h1 : W.heap[D1]? = some (.deferred (some []))) (hD : D0 < D1) (hg0 : w.heap.size ≤ D0) :
    LeavesInM Fence.wide 3 Tryz.prog fn tmps (fun e w' => e = .returned (.bool true) ∧ Turn no w w') [{ target := .collected D1, args := #[] }, { target := .collected D0, args := #[] }] .returning (W.setCell ⟨g, 0, none⟩ (.bool true)) := by
  have ne0 : g ≠ D0 := fun e => by
    subst e
    simp [World.cell?, h0] at hc
  have ne1 : g ≠ D1 := fun e => by
    subst e
    simp [World.cell?, h1] at hc
  have s1 := (Turn.refl (fun k => k = g) W).setCell (p := ⟨g, 0, none⟩) (fun _ => rfl) (.bool true)
  have k1 : (W.setCell ⟨g, 0, none⟩ (.bool true)).heap[D1]? = some (.deferred (some [])) := s1.obj h1 (fun q => ne1 q.symm)
  have k0 : (W.setCell ⟨g, 0, none⟩ (.bool true)).heap[D0]? = some (.deferred (some [])) := s1.obj h0 (fun q => ne0 q.symm)
  have s2 := putObj_turn (W.setCell ⟨g, 0, none⟩ (.bool true)) D1 (.deferred none)
  have k2 := s2.obj k0 (fun q => by have q : D0 = D1 := q; omega)
  have s3 := putObj_turn ((W.setCell ⟨g, 0, none⟩ (.bool true)).putObj D1 (.deferred none)) D0 (.deferred none)
  have c1 : (W.setCell ⟨g, 0, none⟩ (.bool true)).cell? ⟨g, 0, none⟩ = some (.bool true) := World.cell?_setCell_same' _ _ _ (by rw [hc]; rfl)
  have c3 := s3.keep (s2.keep c1 ne1) ne0
  refine ⟨by simp, .inl ⟨D1, _, rfl, run_takeDeferred k1, by simp, .inl ⟨D0, _, rfl, run_takeDeferred k2, ?_⟩⟩⟩
  refine ⟨_, results_bool h tmps _ g true hp c3 Tryz.underlying4, rfl, ?_⟩
  exact ((t.trans s1 (fun k hk q => by have q : k = g := q; exact absurd hk (by omega))).trans s2 (fun k hk q => by have q : k = D1 := q; exact absurd hk (by omega))).trans s3 (fun k hk q => by have q : k = D0 := q; exact absurd hk (by omega))
end Go.Proofs.YtghffngipcbkoaaGreatDoor
