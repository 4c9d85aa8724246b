/- Replace, New, Arm, Read, Size. -/
import Derived.Test.YtbkbecjgphjpkabDoorM8
namespace Go.Proofs.YtbkbecjgphjpkabDoor
open Go.RowKit Go.Maps
set_option linter.unusedVariables false
section
variable {w : World} {p : Nat} {K : Nat → Prop} {bf bt : Option Nat} {V : Nm → Value} {s : St}

theorem foundE_ok' {nm : Nm} (h : foundE s nm = 0) : s.off = false ∧ isNm nm = true ∧ ∃ f, getF nm s.fs = some f := by
  unfold foundE at h
  split at h
  · rename_i ha
    obtain ⟨a1, a2⟩ := asked_off ha
    refine ⟨a1, a2, ?_⟩
    cases hg : getF nm s.fs with
    | none => rw [hg] at h; cases h
    | some f => exact ⟨f, rfl⟩
  · rename_i ha
    exact (ha h).elim

/-- What Read answers. -/
def readS (s : St) (nm : Nm) : List UInt8 := if foundE s nm = 0 then (fileOf s.fs nm).bs else []
set_option maxRecDepth 100000 in
set_option maxHeartbeats 4000000 in
theorem read20 (hk : Dk w p K s) (nm : Nm) (hnm : nm.length ≤ maxLen) :
    Calls Tryd.prog 14 #[ptr p, strV nm] w fun e w' => ∃ v, e = .returned (.tuple #[v, .int .i64 (foundE s nm)]) ∧ Own w' 5 v ((readS s nm).map bv) ∧ (∀ g, v.ownBlock = some g → w.heap.size ≤ g) ∧ Turn no w w' := by
  obtain ⟨bf, bt, V, h⟩ := hk
  have hf := find46 h h.inv.out nm hnm
  by_cases ha : foundE s nm = 0
  · obtain ⟨a1, a2, f, hg⟩ := foundE_ok' ha
    obtain ⟨hf1, hf2⟩ := getF_mem hg
    have e : readS s nm = f.bs := by simp [readS, ha, fileOf, hg]
    rw [e]
    rw [ha, if_pos rfl] at hf
    rw [ha]
    have e2 : foundV V s nm = fileV (V nm) f.sy := by simp [foundV, stood, hg]
    rw [e2] at hf
    have hO := h.bytes f hf1
    rw [hf2] at hO
    have hlen : f.bs.length ≤ 1073741824 := by
      have h1 := lenF_le nm s.fs
      have h2 := h.inv.used
      have h3 := h.inv.lim
      have : lenF nm s.fs = f.bs.length := by simp [lenF, hg]
      omega
    have hcp := fun W (t : Turn no w W) => copied47 W _ _ (hO.turn_no t).bs (by omega)
    obtain ⟨oa, on, oc, hsl⟩ := hO.slice
    rw [hsl] at hf hcp
    clear h e e2 hO
    unfold ptr strV fileV at *
    go_enter Tryd.func14, Tryd.ntmps14
    go_wp2_with fail
    refine hf.mono ?_
    rintro e w2 ⟨rfl, t2⟩
    have t3 := t2.alloc (.cells #[.slice oa on oc, .int .i64 f.sy] 77)
    have hcp2 := hcp _ t3
    have hs2 := t2.size
    go_wp2_with fail
    refine hcp2.mono ?_
    rintro e w3 ⟨v', rfl, hO', hB', t4⟩
    go_wp2_with fail
    go_ret2
    refine ⟨v', rfl, hO', fun g hg => ?_, t3.then_no t4⟩
    rw [hB'] at hg
    cases hg
    simp
    omega
  · rw [if_neg ha] at hf
    have e : readS s nm = [] := by simp [readS, ha]
    rw [e]
    have ha' : (foundE s nm != 0) = true := by simpa using ha
    generalize foundE s nm = E at *
    clear h ha e
    unfold ptr strV zfile at *
    go_enter Tryd.func14, Tryd.ntmps14
    go_wp2_with fail
    refine hf.mono ?_
    rintro e w' ⟨rfl, t2⟩
    go_wp2_with fail
    go_ret2
    exact ⟨.slice none 0 0, rfl, Own.nil _ 5, (fun g hg => by cases hg), t2.alloc _⟩

/-- What Size answers. -/
def sizeS (s : St) (nm : Nm) : Nat × Nat := if foundE s nm = 0 then ((fileOf s.fs nm).bs.length, (fileOf s.fs nm).sy) else (0, 0)
set_option maxRecDepth 100000 in
set_option maxHeartbeats 4000000 in
theorem size40 (hk : Dk w p K s) (nm : Nm) (hnm : nm.length ≤ maxLen) :
    Calls Tryd.prog 17 #[ptr p, strV nm] w fun e w' => e = .returned (.tuple #[.int .i64 (sizeS s nm).1, .int .i64 (sizeS s nm).2, .int .i64 (foundE s nm)]) ∧ Turn no w w' := by
  obtain ⟨bf, bt, V, h⟩ := hk
  have hf := find46 h h.inv.out nm hnm
  by_cases ha : foundE s nm = 0
  · obtain ⟨a1, a2, f, hg⟩ := foundE_ok' ha
    obtain ⟨hf1, hf2⟩ := getF_mem hg
    have e : sizeS s nm = (f.bs.length, f.sy) := by simp [sizeS, ha, fileOf, hg]
    rw [e]
    rw [ha, if_pos rfl] at hf
    rw [ha]
    have e2 : foundV V s nm = fileV (V nm) f.sy := by simp [foundV, stood, hg]
    rw [e2] at hf
    have hO := h.bytes f hf1
    rw [hf2] at hO
    obtain ⟨oa, oc, hsl⟩ : ∃ oa oc, V nm = .slice oa f.bs.length oc := by
      rcases hO.shape with ⟨e, q⟩ | ⟨g, cap, cur, e, _⟩
      · exact ⟨none, 0, by have := List.map_eq_nil_iff.1 q; rw [e, this]; rfl⟩
      · exact ⟨_, _, by simpa using e⟩
    rw [hsl] at hf
    clear h e e2 hO
    unfold ptr strV fileV at *
    go_enter Tryd.func17, Tryd.ntmps17
    go_wp2_with fail
    refine hf.mono ?_
    rintro e w2 ⟨rfl, t2⟩
    have t3 := t2.alloc (.cells #[.slice oa f.bs.length oc, .int .i64 f.sy] 77)
    go_wp2_with fail
    go_quiet (fail)
    go_wp2_with fail
    refine ⟨rfl, _, results_tmp3 rfl _ _ _, rfl, t3.drewN _⟩
  · rw [if_neg ha] at hf
    have e : sizeS s nm = (0, 0) := by simp [sizeS, ha]
    rw [e]
    have ha' : (foundE s nm != 0) = true := by simpa using ha
    generalize foundE s nm = E at *
    clear h ha e
    unfold ptr strV zfile at *
    go_enter Tryd.func17, Tryd.ntmps17
    go_wp2_with fail
    refine hf.mono ?_
    rintro e w' ⟨rfl, t2⟩
    go_wp2_with fail
    refine ⟨rfl, _, results_tmp3 rfl _ _ _, rfl, t2.alloc _⟩

end
end Go.Proofs.YtbkbecjgphjpkabDoor
