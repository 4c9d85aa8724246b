/- same: two lists of messages. -/
import Derived.Test.YtnlcngcilojnkabDoorU1
namespace Go.Proofs.YtnlcngcilojnkabDoor
open Go.RowKit Go.Maps Go.MuLone
set_option linter.unusedVariables false

/-- A slice of messages, wherever it lies. -/
def Msl (w : World) (v : Value) (ts : List (Value × List UInt8)) : Prop :=
  ∃ aa cp, v = .slice aa ts.length cp ∧ ts.length ≤ 9223372036854775807 ∧ ∀ j t, ts[j]? = some t → ∃ g, aa = some ⟨g, 0, none⟩ ∧ w.cell? ⟨g, j, none⟩ = some t.1 ∧ Bs w t.1 t.2 ∧ j < cp
theorem Msl.turn_no {w w' : World} {v : Value} {ts : List (Value × List UInt8)} (h : Msl w v ts) (t : Turn no w w') : Msl w' v ts := by
  obtain ⟨aa, cp, e, hl, hc⟩ := h
  refine ⟨aa, cp, e, hl, fun j x hx => ?_⟩
  obtain ⟨g, e1, c, b, hj⟩ := hc j x hx
  exact ⟨g, e1, t.keep c (fun q => q), b.turn_no t, hj⟩
theorem Ml.msl {old : Nat} {w : World} {v : Value} {ts : List (Value × List UInt8)} (h : Ml old w v ts) : Msl w v ts := by
  rcases h.own.shape with ⟨rfl, q⟩ | ⟨g, cap, cur, rfl, _, h1, h2, _⟩
  · have : ts = [] := List.map_eq_nil_iff.1 q
    subst this
    exact ⟨none, 0, rfl, by simp, fun j t ht => by simp at ht⟩
  · rw [List.length_map] at h1
    refine ⟨_, cap, by simp, by simp only [maxLen] at h2; omega, fun j t ht => ⟨g, rfl, h.own.cell j t.1 (by simp [ht]), (h.each t (List.mem_of_getElem? ht)).1, ?_⟩⟩
    have := (List.getElem?_eq_some_iff.1 ht).1
    omega
theorem Msl.take {w : World} {aa : Option Addr} {n cp : Nat} {ts : List (Value × List UInt8)} (h : Msl w (.slice aa n cp) ts) (m : Nat) (hm : m ≤ ts.length) : Msl w (.slice aa m cp) (ts.take m) := by
  obtain ⟨aa', cp', e, hl, hc⟩ := h
  cases e
  refine ⟨aa, cp, by rw [List.length_take, Nat.min_eq_left hm], by rw [List.length_take]; omega, fun j t ht => hc j t ?_⟩
  rw [List.getElem?_take] at ht
  split at ht
  · exact ht
  · cases ht

set_option maxRecDepth 100000 in
set_option maxHeartbeats 2000000 in
theorem same24 (w : World) (v1 v2 : Value) (t1 t2 : List (Value × List UInt8)) (h1 : Msl w v1 t1) (h2 : Msl w v2 t2) (he : t1.map (·.2) = t2.map (·.2)) : Calls Tryd.prog 25 #[v1, v2] w fun e w' => e = .returned (.bool true) ∧ Turn no w w' := by
  have hlen : t1.length = t2.length := by simpa using congrArg List.length he
  obtain ⟨a1, p1, e1, hl1, c1⟩ := h1
  obtain ⟨a2, p2, e2, hl2, c2⟩ := h2
  rw [← hlen] at e2
  obtain ⟨n, hn⟩ : ∃ n, Shut (t1.length = n) := ⟨_, rfl⟩
  rw [show t1.length = n from hn.out] at e1 e2 hl1
  subst e1
  subst e2
  have hn0 : ((n : Int) == (n : Int)) = true := by simp
  clear hlen hl2
  go_enter Tryd.func25, Tryd.ntmps25
  go_wp2_with fail
  go_loopw [5] (fun c wr => ∃ i : Nat, i ≤ n ∧ c = .int .i64 i ∧ Turn no w wr) (fun c _ => n - (intOf c).toNat)
  case atStart => exact ⟨0, Nat.zero_le _, rfl, Turn.refl _ _⟩
  case round =>
    obtain ⟨i, hi, rfl, T⟩ := hrel
    by_cases hlt : i < n
    · have hlt' : (i : Int) < (n : Int) := by omega
      obtain ⟨⟨m1, s1⟩, x1⟩ : ∃ x, t1[i]? = some x := ⟨t1[i]'(by rw [hn.out]; exact hlt), List.getElem?_eq_getElem _⟩
      obtain ⟨⟨m2, s2⟩, x2⟩ : ∃ x, t2[i]? = some x := ⟨t2[i]'(by have := congrArg List.length he; simp at this; rw [← this, hn.out]; exact hlt), List.getElem?_eq_getElem _⟩
      obtain rfl : s1 = s2 := by
        have := congrArg (·[i]?) he
        simpa [x1, x2] using this
      obtain ⟨g1, rfl, d1, b1, _⟩ := c1 i _ x1
      obtain ⟨g2, rfl, d2, b2, _⟩ := c2 i _ x2
      simp only at d1 b1 d2 b2
      obtain ⟨q1, u1, r1⟩ := b1.slice
      obtain ⟨q2, u2, r2⟩ := b2.slice
      subst r1
      subst r2
      have D1 : ∀ W, Turn no wr W → W.cell? ⟨g1, i, none⟩ = some (.slice q1 s1.length u1) := fun W t => (T.then_no t).keep d1 (fun q => q)
      have D2 : ∀ W, Turn no wr W → W.cell? ⟨g2, i, none⟩ = some (.slice q2 s1.length u2) := fun W t => (T.then_no t).keep d2 (fun q => q)
      have X1 : ∀ W, Turn no wr W → (convert 29 9 (.slice q1 s1.length u1)).run Tryd.prog W = .ok (.string ⟨s1.toArray⟩) W := fun W t => bytes_text (b1.turn_no (T.then_no t))
      have X2 : ∀ W, Turn no wr W → (convert 29 9 (.slice q2 s1.length u2)).run Tryd.prog W = .ok (.string ⟨s1.toArray⟩) W := fun W t => bytes_text (b2.turn_no (T.then_no t))
      clear c1 c2 he x1 x2 d1 d2 b1 b2
      go_wp2_with fail
      refine wp_region_held_drew (S := fun W => Turn no wr W) (by kernel_rfl) (Turn.refl no wr).drew (fun hHeld => ?_)
      refine' wpAnyH_take (i := 0) (v := .slice (some ⟨g1, 0, none⟩) n p1) rfl (by kernel_rfl) (by kernel_rfl) (by kernel_rfl) (fun _ _ _ h => h) (Or.inl ⟨by kernel_rfl, fun W hW => ?y1⟩) hHeld ?r1
      · go_simp
      refine' wpAnyH_take (i := 1) (v := .int .i64 i) rfl (by kernel_rfl) (by kernel_rfl) (by kernel_rfl) (fun _ _ _ h => h) (Or.inl ⟨by kernel_rfl, fun W hW => ?y2⟩) hHeld ?r2
      · go_simp
      refine' wpAnyH_take (i := 2) (v := .pointer (some ⟨g1, i, none⟩)) rfl (by kernel_rfl) (by kernel_rfl) (by kernel_rfl) (fun _ _ _ h => h) (Or.inl ⟨by kernel_rfl, fun W hW => ?y3⟩) hHeld ?r3
      · go_simp
      refine' wpAnyH_take (i := 3) (v := .slice q1 s1.length u1) rfl (by kernel_rfl) (by kernel_rfl) (by kernel_rfl) (fun _ _ _ h => h) (Or.inl ⟨by kernel_rfl, fun W hW => ?y4⟩) hHeld ?r4
      · have c := D1 W hW
        go_simp
      refine' wpAnyH_take (i := 4) (v := .string ⟨s1.toArray⟩) rfl (by kernel_rfl) (by kernel_rfl) (by kernel_rfl) (fun _ _ _ h => h) (Or.inl ⟨by kernel_rfl, fun W hW => ?y5⟩) hHeld ?r5
      · have c := X1 W hW
        go_simp
      refine' wpAnyH_take (i := 5) (v := .slice (some ⟨g2, 0, none⟩) n p2) rfl (by kernel_rfl) (by kernel_rfl) (by kernel_rfl) (fun _ _ _ h => h) (Or.inl ⟨by kernel_rfl, fun W hW => ?y6⟩) hHeld ?r6
      · go_simp
      refine' wpAnyH_take (i := 6) (v := .int .i64 i) rfl (by kernel_rfl) (by kernel_rfl) (by kernel_rfl) (fun _ _ _ h => h) (Or.inl ⟨by kernel_rfl, fun W hW => ?y7⟩) hHeld ?r7
      · go_simp
      refine' wpAnyH_take (i := 7) (v := .pointer (some ⟨g2, i, none⟩)) rfl (by kernel_rfl) (by kernel_rfl) (by kernel_rfl) (fun _ _ _ h => h) (Or.inl ⟨by kernel_rfl, fun W hW => ?y8⟩) hHeld ?r8
      · go_simp
      refine' wpAnyH_take (i := 8) (v := .slice q2 s1.length u2) rfl (by kernel_rfl) (by kernel_rfl) (by kernel_rfl) (fun _ _ _ h => h) (Or.inl ⟨by kernel_rfl, fun W hW => ?y9⟩) hHeld ?r9
      · have c := D2 W hW
        go_simp
      refine' wpAnyH_take (i := 9) (v := .string ⟨s1.toArray⟩) rfl (by kernel_rfl) (by kernel_rfl) (by kernel_rfl) (fun _ _ _ h => h) (Or.inl ⟨by kernel_rfl, fun W hW => ?y10⟩) hHeld ?r10
      · have c := X2 W hW
        go_simp
      refine wpAnyH_ready (rs := [10]) (by kernel_rfl) (by simp) ?_
      refine AllReadyH.cons rfl (fun K hK => ?_) AllReadyH.nil
      go_simp
      refine hK.out _ _ hHeld (fun hHeld => ?_)
      clear hK
      refine wpAnyH_done (by kernel_rfl) ?_ _
      have T2 := T.drew
      clear D1 D2 X1 X2 T hHeld
      generalize wr.drew = w3 at *
      go_wp2_with fail
      go_roundw
      case rel => exact ⟨i + 1, by omega, by go_num, T2⟩
      case measure => simp [intOf]; omega
    · have hin : i = n := by omega
      subst hin
      have hlt' : ¬ (i : Int) < (i : Int) := by omega
      clear c1 c2
      go_wp2_with fail
      go_ret
      exact ⟨rfl, T⟩
end Go.Proofs.YtnlcngcilojnkabDoor
