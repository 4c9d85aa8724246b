/- Enter, Signed of the document's registry. -/
import Derived.Test.YtnlcngcilojnkabDoorA3
import Derived.Deep.RegionLaw
namespace Go.Proofs.YtnlcngcilojnkabDoor
open Go.RowKit Go.Maps Go.MuLone
set_option linter.unusedVariables false
section
variable {w : World} {q : Nat} {ve vr : Value} {E : List UInt64} {R : List Rec}
set_option maxRecDepth 100000 in
set_option maxHeartbeats 4000000 in
theorem renter_new (h : Rf w q ve vr E R) (a : UInt64) (ha : ¬ (a.toNat : Int) = 0) (hin : a ∉ E) (hm : E.length ≤ 4398046511104) : Calls Tryd.prog 37 #[.pointer (some ⟨q, 0, none⟩), .int .u64 a.toNat] w fun e w' =>
    ∃ s ve', e = .returned (.tuple #[.pointer (some ⟨s, 0, none⟩), .int .i64 0]) ∧ w.heap.size ≤ s ∧ Rsg w' s q a ∧ Rf w' q ve' vr (E ++ [a]) R ∧ (∀ g, ve'.ownBlock = some g → ve.ownBlock = some g ∨ w.heap.size ≤ g) ∧ Turn (fun k => k = q ∨ ve.ownBlock = some k) w w' := by
  have hgd := good34 h
  have hkn := rknown24 h a
  rw [show decide (a ∈ E) = false by simpa using hin] at hkn
  have ha1 : ((a.toNat : Int) == 0) = false := by simpa using ha
  obtain ⟨aa, cp, e0, _⟩ := h.ents_at
  obtain ⟨n, hn⟩ : ∃ n, Shut (E.length = n) := ⟨_, rfl⟩
  rw [show E.length = n from hn.out] at e0
  subst e0
  have c1 : w.cell? ⟨q, 1, none⟩ = some (.slice aa n cp) := h.row.cell 1 _ rfl
  have hql : q < w.heap.size := h.row.lt
  have OWN := h.oe.turn_no ((Turn.refl no w).alloc (.cells #[.int .u64 a.toNat] 28))
  have SRC := src_oneT (P := Tryd.prog) (e := 28) Tryd.underlying77 w (u64V a) rfl
  have hfin : Shut (∀ v2 w2, Own w2 28 v2 (E.map u64V ++ [u64V a]) → Grew (w.alloc (.cells #[.int .u64 a.toNat] 28)) w2 (.slice aa n cp) v2 → Row w2 q #[.bool true, .slice aa n cp, vr] 80 ∧ Rf (w2.setCell ⟨q, 1, none⟩ v2) q v2 vr (E ++ [a]) R ∧ (∀ g, v2.ownBlock = some g → (Value.slice aa n cp).ownBlock = some g ∨ w.heap.size ≤ g) ∧ Turn (fun k => k = q ∨ (Value.slice aa n cp).ownBlock = some k) w (w2.setCell ⟨q, 1, none⟩ v2)) := fun v2 w2 O2 G2 => by
    have t1 : Turn no w (w.alloc (.cells #[.int .u64 a.toNat] 28)) := (Turn.refl no w).alloc _
    have r1 := h.row.turn t1 (fun q => q)
    have o1 := h.oe.turn_no t1
    have r2 := r1.turn G2.turn (fun e => o1.away r1 (by decide) e)
    have or1 := h.orr.turn_no t1
    have hne : ∀ g, vr.ownBlock = some g → ¬ (Value.slice aa n cp).ownBlock = some g := fun g hg e => by
      obtain ⟨c, ho⟩ := or1.obj hg
      exact o1.away ho (by decide) e
    have or2 := or1.turn G2.turn hne
    have tS : Turn (fun k => k = q) w2 (w2.setCell ⟨q, 1, none⟩ v2) := (Turn.refl (fun k => k = q) w2).setCell (p := ⟨q, 1, none⟩) (fun _ => rfl) _
    refine ⟨r2, ⟨r2.set 1 v2, ?_, or2.turn tS (fun g hg e => ?_)⟩, fun g hg => ?_, ?_⟩
    · have := O2.turn tS (fun g hg e => by subst e; exact O2.away r2 (by decide) hg)
      simpa using this
    · subst e
      obtain ⟨c, ho⟩ := or2.obj hg
      exact absurd (tag_ne ho r2) (by decide)
    · rcases G2.blk with e | ⟨g', e, h1, _⟩
      · exact .inl (by rw [← e]; exact hg)
      · rw [e] at hg
        cases hg
        simp at h1
        exact .inr (by omega)
    · exact ((t1.of_no.trans G2.turn (fun _ _ e => .inr e))).setCell (p := ⟨q, 1, none⟩) (fun _ => .inl rfl) _
  clear h
  go_enter Tryd.func37, Tryd.ntmps37
  go_wp2_with fail
  refine hgd.mono ?_
  rintro e w' ⟨rfl, e1⟩
  have e1 := e1.symm
  subst e1
  go_wp2_with fail
  refine hkn.mono ?_
  rintro e w' ⟨rfl, e1⟩
  have e1 := e1.symm
  subst e1
  go_wp2_with (at_builtin; refine wpList_append_src rfl (.tmp 18) (.tmp 20) rfl Tryd.underlying77 info28 rfl (.slice aa n cp) (E.map u64V) rfl OWN (.slice (some ⟨w.heap.size, 0, none⟩) 1 1) 1 [u64V a] rfl SRC (by rw [List.length_map]; omega) (by rw [List.length_map]; simp only [maxLen]; omega) ?_)
  intro v2 w2 O2 G2 _
  obtain ⟨r2, F2, f2, t2⟩ := hfin.out v2 w2 O2 G2
  have a2 : w2.cell? ⟨q, 1, none⟩ = some (.slice aa n cp) := r2.cell 1 _ rfl
  have z2 := r2.frozen 1
  obtain ⟨ad, ln, cq, hv2⟩ := O2.shp
  subst hv2
  clear OWN SRC hfin O2 G2 hgd hkn c1
  go_wp2_with fail
  go_ret2
  refine ⟨_, _, rfl, ?_, Row.newAt _ _ _ _ (by simp), F2.turn_no ((Turn.refl no _).alloc _), f2, t2.alloc _⟩
  have := t2.size
  simpa using this
end
end Go.Proofs.YtnlcngcilojnkabDoor
