/- CouncilNews and CouncilSounds: the walks. -/
import Derived.Test.YtbhimedajfkioaaGd
import Derived.Test.YtbhimedajfkioaaGc
namespace Go.Proofs.Ytbhimedajfkioaa
open Go.RowKit
set_option linter.unusedVariables false

def newL (l : List Mb) : List Mb := if weighE l = 0 then zeroed l else []
theorem ms_empty (w : World) : Ms w (.slice none 0 0) [] := ⟨none, 0, rfl, (by simp), (by simp [maxLen]), (fun m hm => (by cases hm)), fun j m hm => (by simp at hm)⟩
theorem new15_any (w : World) (v : Value) (l : List Mb) (h : Ms w v l) : Calls Try.prog 30 #[v] w fun e w' => ∃ u, e = .returned (.tuple #[.agg #[u], .int .i64 (weighE l)]) ∧ Ms w' u (newL l) ∧ Turn no w w' := by
  by_cases hE : weighE l = 0
  · refine (new15_yes w v l h hE).mono ?_
    rintro e w' ⟨u, rfl, M, T⟩
    exact ⟨u, by rw [hE], by rw [newL, if_pos hE]; exact M.ms, T⟩
  · refine (new15_no w v l h hE).mono ?_
    rintro e w' ⟨rfl, T⟩
    exact ⟨_, rfl, by rw [newL, if_neg hE]; exact ms_empty _, T⟩
theorem rnew16_any (w : World) (v : Value) (l : List Mb) (h : Ms w v l) (hb : l.length * 24 ≤ 140737488351232) : Calls Try.prog 36 #[v] w fun e w' => ∃ u, e = .returned (.tuple #[.agg #[u], .int .i64 (weighE l)]) ∧ Ms w' u (newL l) ∧ Turn no w w' := by
  by_cases hE : weighE l = 0
  · refine (rnew16_yes w v l h hE).mono ?_
    rintro e w' ⟨u, rfl, M, T⟩
    exact ⟨u, by rw [hE], by rw [newL, if_pos hE]; exact M.ms, T⟩
  · refine (rnew16_no w v l h hb hE).mono ?_
    rintro e w' ⟨rfl, T⟩
    exact ⟨_, rfl, by rw [newL, if_neg hE]; exact ms_empty _, T⟩
/-- The front of what roomy made. -/
theorem Rw.front {w : World} {g cap : Nat} {l : List Mb} (R : Rw w g cap (l ++ mark)) : Ms w (.slice (some ⟨g, 0, none⟩) l.length cap) l := by
  have hle := R.le
  rw [List.length_append, show mark.length = 2 from rfl] at hle
  exact ⟨_, cap, rfl, by omega, R.most, fun m hm => R.ok m (by simp [hm]), fun j m hm => R.at.cells j m (by rw [List.getElem?_append_left (List.getElem?_eq_some_iff.1 hm).1]; exact hm)⟩
theorem Ms.shape {w : World} {v : Value} {l : List Mb} (h : Ms w v l) : ∃ a cap, v = .slice a l.length cap := by
  obtain ⟨a, cap, e, _⟩ := h
  exact ⟨a, cap, e⟩

end Go.Proofs.Ytbhimedajfkioaa
