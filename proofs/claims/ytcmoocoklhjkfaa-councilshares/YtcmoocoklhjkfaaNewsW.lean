/- CouncilNews and CouncilSounds: the walks. -/
import Derived.Test.YtcmoocoklhjkfaaD4
import Derived.Test.YtcmoocoklhjkfaaC4
namespace Go.Proofs.Ytcmoocoklhjkfaa
open Go.RowKit
set_option linter.unusedVariables false

def newL (l : List Mb) : List Mb := if weighE l = 0 then zeroed l else []
theorem ms_empty (w : World) : Ms w (.slice none 0 0) [] := ⟨none, 0, rfl, (by simp), (by simp [maxLen]), (fun m hm => (by cases hm)), fun j m hm => (by simp at hm)⟩
theorem new15_any (w : World) (v : Value) (l : List Mb) (h : Ms w v l) : Calls Try.prog 15 #[v] w fun e w' => ∃ u, e = .returned (.tuple #[.agg #[u], .int .i64 (weighE l)]) ∧ Ms w' u (newL l) ∧ Turn no w w' := by
  by_cases hE : weighE l = 0
  · refine (new15_yes w v l h hE).mono ?_
    rintro e w' ⟨u, rfl, M, T⟩
    exact ⟨u, by rw [hE], by rw [newL, if_pos hE]; exact M.ms, T⟩
  · refine (new15_no w v l h hE).mono ?_
    rintro e w' ⟨rfl, T⟩
    exact ⟨_, rfl, by rw [newL, if_neg hE]; exact ms_empty _, T⟩
theorem rnew16_any (w : World) (v : Value) (l : List Mb) (h : Ms w v l) (hb : l.length * 24 ≤ 140737488351232) : Calls Try.prog 16 #[v] w fun e w' => ∃ u, e = .returned (.tuple #[.agg #[u], .int .i64 (weighE l)]) ∧ Ms w' u (newL l) ∧ Turn no w w' := by
  by_cases hE : weighE l = 0
  · refine (rnew16_yes w v l h hE).mono ?_
    rintro e w' ⟨u, rfl, M, T⟩
    exact ⟨u, by rw [hE], by rw [newL, if_pos hE]; exact M.ms, T⟩
  · refine (rnew16_no w v l h hb hE).mono ?_
    rintro e w' ⟨rfl, T⟩
    exact ⟨_, rfl, by rw [newL, if_neg hE]; exact ms_empty _, T⟩
/-- The front of what roomy made. -/
theorem Rw.front {w : World} {g cap : Nat} {l : List Mb} (R : Rw w g cap (l ++ mark)) : Ms w (.slice (some ⟨g, 0, none⟩) l.length cap) l := by
  have hle := R.le
  rw [List.length_append, show mark.length = 2 from rfl] at hle
  exact ⟨_, cap, rfl, by omega, R.most, fun m hm => R.ok m (by simp [hm]), fun j m hm => R.at.cells j m (by rw [List.getElem?_append_left (List.getElem?_eq_some_iff.1 hm).1]; exact hm)⟩
theorem Ms.shape {w : World} {v : Value} {l : List Mb} (h : Ms w v l) : ∃ a cap, v = .slice a l.length cap := by
  obtain ⟨a, cap, e, _⟩ := h
  exact ⟨a, cap, e⟩

set_option maxRecDepth 100000 in
set_option maxHeartbeats 1000000 in
theorem news_any (w : World) (v : Value) (l : List Mb) (h : Ms w v l) (hb : l.length * 24 ≤ 140737488351232) : Calls Try.prog 4 #[v] w fun e w' => e = .returned (.bool true) ∧ Turn no w w' := by
  have hr := roomy14 w v l h hb
  obtain ⟨va, vc, rfl⟩ := h.shape
  obtain ⟨n, hn⟩ : ∃ n, Hid (l.length = n) := ⟨_, rfl⟩
  have hn' : l.length = n := hn.out
  rw [hn'] at h hr ⊢
  go_enter Try.func4, Try.ntmps4
  go_wp2_with fail
  refine hr.mono ?_
  rintro e w1 ⟨g, cap, rfl, R, hg, T1⟩
  have F := R.front
  have hle := R.le
  have hmo := R.most
  simp only [maxLen] at hmo
  rw [List.length_append, show mark.length = 2 from rfl, hn'] at hle
  rw [hn'] at F
  have hnew := new15_any w1 _ l F
  have h1 := h.turn_no T1
  clear hr hg F
  clear hn'
  go_wp2_with fail
  refine hnew.mono ?_
  rintro e w2 ⟨u, rfl, M2, T2⟩
  have R2 := R.turn_no T2
  have h2 := h1.turn_no T2
  have TA : Turn no w2 (w2.alloc (.cells #[u] 24)) := (Turn.refl no w2).alloc _
  have B2 := Bx.new w2 u 24
  have hrn := rnew16_any _ _ l (h2.turn_no TA) hb
  obtain ⟨ua, uc, eu⟩ := M2.shape
  generalize newL l = nl at *
  obtain ⟨ul, hul⟩ : ∃ ul, Hid (nl.length = ul) := ⟨_, rfl⟩
  rw [show nl.length = ul from hul.out] at eu
  subst eu
  clear hnew
  go_wp2_with fail
  refine hrn.mono ?_
  rintro e w3 ⟨x, rfl, M3, T3⟩
  have TB : Turn no w3 (w3.alloc (.cells #[x] 24)) := (Turn.refl no w3).alloc _
  have B3 := Bx.new w3 x 24
  have B2' := (B2.turn_no T3).turn_no TB
  have hal := alive9 (w3.alloc (.cells #[x] 24))
  obtain ⟨xa, xc, ex⟩ := M3.shape
  rw [show nl.length = ul from hul.out] at ex
  subst ex
  clear hrn
  go_wp2_with fail
  refine hal.mono ?_
  rintro e w4 ⟨rfl, T4⟩
  have c2 := (B2'.turn_no T4).c
  have c3 := (B3.turn_no T4).c
  have hsm := same13 w4 _ _ nl (((((M2.turn_no TA).turn_no T3).turn_no TB).turn_no T4)) ((M3.turn_no TB).turn_no T4)
  have R4 := (((R2.turn_no TA).turn_no T3).turn_no TB).turn_no T4
  have h4 := (((h2.turn_no TA).turn_no T3).turn_no TB).turn_no T4
  have TT := (((((T1.then_no T2).then_no TA).then_no T3).then_no TB).then_no T4)
  clear hal M2 M3 R R2 h h1 h2 T1 T2 T3 T4 TA TB
  go_wp2_with fail
  refine hsm.mono ?_
  rintro e w5 ⟨rfl, T5⟩
  have hkp := kept17 w5 _ l g cap (R4.turn_no T5) (h4.turn_no T5)
  rw [show l.length = n from hn.out] at hkp
  clear hsm
  go_wp2_with fail
  refine hkp.mono ?_
  rintro e w6 ⟨rfl, T6⟩
  clear hkp
  go_wp2_with fail
  go_ret
  exact ⟨rfl, (TT.then_no T5).then_no T6⟩

set_option maxRecDepth 100000 in
set_option maxHeartbeats 1000000 in
theorem sounds_any (w : World) (v : Value) (l : List Mb) (a : Nat) (h : Ms w v l) (hb : l.length * 24 ≤ 140737488351232) : Calls Try.prog 8 #[.agg #[v], .int .u64 a] w fun e w' => e = .returned (.bool true) ∧ Turn no w w' := by
  have T0 : Turn no w (w.alloc (.cells #[v] 24)) := (Turn.refl no w).alloc _
  have B0 := Bx.new w v 24
  have h0 := h.turn_no T0
  have hr := roomy14 _ v l h0 hb
  obtain ⟨va, vc, rfl⟩ := h.shape
  obtain ⟨n, hn⟩ : ∃ n, Hid (l.length = n) := ⟨_, rfl⟩
  have hn' : l.length = n := hn.out
  rw [hn'] at h h0 T0 B0 hr ⊢
  go_enter Try.func8, Try.ntmps8
  go_wp2_with fail
  refine hr.mono ?_
  rintro e w1 ⟨g, cap, rfl, R, hg, T1⟩
  have F := R.front
  have hle := R.le
  have hmo := R.most
  simp only [maxLen] at hmo
  rw [List.length_append, show mark.length = 2 from rfl, hn'] at hle
  rw [hn'] at F
  have TA : Turn no w1 (w1.alloc (.cells #[.slice (some ⟨g, 0, none⟩) n cap] 24)) := (Turn.refl no w1).alloc _
  have BA := Bx.new w1 (.slice (some ⟨g, 0, none⟩) n cap) 24
  have FA := F.turn_no TA
  have R := R.turn_no TA
  have b0 := (B0.turn_no T1).c
  have B1 := (B0.turn_no T1).turn_no TA
  have h1 := (h0.turn_no T1).turn_no TA
  have T := (T0.then_no T1).then_no TA
  have c1 := sound27 _ _ l FA
  clear hr hg F hn' h0
  go_wp2_with fail
  generalize w1.alloc (.cells #[.slice (some ⟨g, 0, none⟩) n cap] 24) = w2 at *
  refine c1.mono ?_
  rintro e w3 ⟨rfl, t⟩
  have BA := BA.turn_no t
  have FA := FA.turn_no t
  have R := R.turn_no t
  have B1 := B1.turn_no t
  have h1 := h1.turn_no t
  have T := T.then_no t
  have k1 := BA.c
  have c1 := total23 _ _ l FA
  clear t
  go_wp2_with fail
  refine c1.mono ?_
  rintro e w4 ⟨rfl, t⟩
  have BA := BA.turn_no t
  have FA := FA.turn_no t
  have R := R.turn_no t
  have B1 := B1.turn_no t
  have h1 := h1.turn_no t
  have T := T.then_no t
  have k2 := BA.c
  have c1 := quorum21 _ _ l FA
  clear t
  go_wp2_with fail
  refine c1.mono ?_
  rintro e w5 ⟨rfl, t⟩
  have BA := BA.turn_no t
  have FA := FA.turn_no t
  have R := R.turn_no t
  have B1 := B1.turn_no t
  have h1 := h1.turn_no t
  have T := T.then_no t
  have k3 := BA.c
  have c1 := third22 _ _ l FA
  clear t
  go_wp2_with fail
  refine c1.mono ?_
  rintro e w6 ⟨rfl, t⟩
  have BA := BA.turn_no t
  have FA := FA.turn_no t
  have R := R.turn_no t
  have B1 := B1.turn_no t
  have h1 := h1.turn_no t
  have T := T.then_no t
  have k4 := BA.c
  have c1 := index20 _ _ l FA a
  clear t
  go_wp2_with fail
  refine c1.mono ?_
  rintro e w7 ⟨rfl, t⟩
  have R := R.turn_no t
  have B1 := B1.turn_no t
  have h1 := h1.turn_no t
  have T := T.then_no t
  have c1 := alive9 w7
  clear t k1 k2 k3 k4
  go_wp2_with fail
  refine c1.mono ?_
  rintro e w8 ⟨rfl, t⟩
  have R := R.turn_no t
  have B1 := B1.turn_no t
  have h1 := h1.turn_no t
  have T := T.then_no t
  have c1 := rsound11 _ _ l h1
  have k1 := B1.c
  clear t
  go_wp2_with fail
  refine c1.mono ?_
  rintro e w9 ⟨rfl, t⟩
  have R := R.turn_no t
  have B1 := B1.turn_no t
  have h1 := h1.turn_no t
  have T := T.then_no t
  have c1 := rtotal28 _ _ l h1
  have k1 := B1.c
  clear t
  go_wp2_with fail
  refine c1.mono ?_
  rintro e w10 ⟨rfl, t⟩
  have R := R.turn_no t
  have B1 := B1.turn_no t
  have h1 := h1.turn_no t
  have T := T.then_no t
  have c1 := rquorum29 _ _ l h1
  have k1 := B1.c
  clear t
  go_wp2_with fail
  refine c1.mono ?_
  rintro e w11 ⟨rfl, t⟩
  have R := R.turn_no t
  have B1 := B1.turn_no t
  have h1 := h1.turn_no t
  have T := T.then_no t
  have c1 := rthird30 _ _ l h1
  have k1 := B1.c
  clear t
  go_wp2_with fail
  refine c1.mono ?_
  rintro e w12 ⟨rfl, t⟩
  have R := R.turn_no t
  have B1 := B1.turn_no t
  have h1 := h1.turn_no t
  have T := T.then_no t
  have c1 := rindex31 _ _ l h1 a
  have k1 := B1.c
  clear t
  go_wp2_with fail
  refine c1.mono ?_
  rintro e w13 ⟨rfl, t⟩
  have R := R.turn_no t
  have B1 := B1.turn_no t
  have h1 := h1.turn_no t
  have T := T.then_no t
  have c1 := kept17 _ _ l g cap R h1
  rw [show l.length = n from hn.out] at c1
  have k1 := B1.c
  clear t
  go_wp2_with fail
  refine c1.mono ?_
  rintro e w14 ⟨rfl, t⟩
  have T := T.then_no t
  go_wp2_with fail
  go_ret
  exact ⟨rfl, T⟩
end Go.Proofs.Ytcmoocoklhjkfaa
