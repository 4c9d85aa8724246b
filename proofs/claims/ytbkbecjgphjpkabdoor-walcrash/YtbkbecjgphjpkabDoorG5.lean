/- Open of a log: the walk. -/
import Derived.Test.YtbkbecjgphjpkabDoorG4
namespace Go.Proofs.YtbkbecjgphjpkabDoor
open Go.RowKit Go.Maps
set_option linter.unusedVariables false

theorem Ls.keepS {B : Nat} {S : Nat → Prop} {w w' : World} {v : Value} {l : List (List UInt8)} (h : Ls B w v l) (t : Turn S w w') (hS : ∀ k, k < w.heap.size → B ≤ k → ¬ S k) : Ls B w' v l := by
  obtain ⟨vs, h1, h2, h3, h4, h5⟩ := h
  refine ⟨vs, h1, h2.turn t (fun g hg => hS g (h2.lt hg) (h3 g hg)), h3, h4, fun j r u hr hu => ?_⟩
  obtain ⟨a, b⟩ := h5 j r u hr hu
  exact ⟨a.turn t (fun g hg => hS g (a.lt hg) (b g hg)), b⟩
/-- Records that were told, in blocks from B on and below C, which nothing has turned since. -/
def LsK (B C : Nat) (w : World) (v : Value) (l : List (List UInt8)) : Prop := ∃ w2, Ls B w2 v l ∧ w2.heap.size ≤ C ∧ Turn (fun k => k < B ∨ C ≤ k) w2 w
theorem LsK.ls {B C : Nat} {w : World} {v : Value} {l : List (List UInt8)} (h : LsK B C w v l) : Ls B w v l := by
  obtain ⟨w2, h1, h2, h3⟩ := h
  exact h1.keepS h3 (fun k a b q => by omega)
theorem LsK.turn {B C : Nat} {S : Nat → Prop} {w w' : World} {v : Value} {l : List (List UInt8)} (h : LsK B C w v l) (t : Turn S w w') (hS : ∀ k, S k → k < B ∨ C ≤ k) : LsK B C w' v l := by
  obtain ⟨w2, h1, h2, h3⟩ := h
  exact ⟨w2, h1, h2, h3.trans t (fun i _ q => hS i q)⟩
theorem LsK.turn_no {B C : Nat} {w w' : World} {v : Value} {l : List (List UInt8)} (h : LsK B C w v l) (t : Turn no w w') : LsK B C w' v l := h.turn t (fun _ q => q.elim)

theorem Own.fn {w : World} {e : TypeId} {v : Value} {xs : List Value} (h : Own w e v xs) : ∃ a n cap, v = .slice a n cap ∧ Hid (n = xs.length) := by
  rcases h.shape with ⟨rfl, rfl⟩ | ⟨g, cap, cur, rfl, _⟩
  · exact ⟨none, 0, 0, rfl, rfl⟩
  · exact ⟨_, _, _, rfl, rfl⟩
/-- What Open leaves of the disk. -/
def opnS (s : St) (nm : Nm) : St := if (scan (readS s nm)).2 < (readS s nm).length then (cutS s nm ((scan (readS s nm)).2 : Nat)).1 else s

section
variable {w : World} {p : Nat} {M : Nat → Prop} {s : St} {nm : Nm}
set_option maxRecDepth 100000 in
set_option maxHeartbeats 4000000 in
theorem open6 (hk : Dk w p M s) (hn : s.n < 4611686018427387904) (hnm : nm.length ≤ maxLen) (hL : LaidT w) (h0 : ¬ M 0) (hlen : (readS s nm).length ≤ 1073741824) (hsz : (sizeS (opnS s nm) nm).2 ≤ 1073741824)
    (he : foundE s nm = 0 ∨ foundE s nm = 61) (hcut : (scan (readS s nm)).2 < (readS s nm).length → (cutS s nm ((scan (readS s nm)).2 : Nat)).2 = 0) :
    Calls Tryd.prog 6 #[ptr p, strV nm] w fun e w' => ∃ q vl C M', e = .returned (.tuple #[ptr q, vl, .int .i64 0]) ∧ w.heap.size ≤ C ∧ C ≤ q ∧ LsK w.heap.size C w' vl (scan (readS s nm)).1 ∧ Dk w' p M' (opnS s nm) ∧ (∀ k, M' k → M k ∨ C ≤ k) ∧ ¬ M' q ∧
      Lg w' q p nm (scan (readS s nm)).1.length (cwN (scan (readS s nm)).1 (sizeS (opnS s nm) nm).2) false ∧ Turn M w w' := by
  have hKlt := hk.klt
  obtain ⟨i1, i2, i3⟩ := scan_stands _ (readS s nm) (Nat.lt_succ_self _)
  have c1 := read20 hk nm hnm
  obtain ⟨E, hE⟩ : ∃ E, foundE s nm = E := ⟨_, rfl⟩
  rw [hE] at c1 he
  have hgo : (E != 0 && E != 61) = false := by rcases he with rfl | rfl <;> rfl
  obtain ⟨b, hb⟩ : ∃ b, readS s nm = b := ⟨_, rfl⟩
  obtain ⟨s', hs'⟩ : ∃ s', opnS s nm = s' := ⟨_, rfl⟩
  have hs2 : s' = if (scan b).2 < b.length then (cutS s nm ((scan b).2 : Nat)).1 else s := by rw [← hs', opnS, hb]
  rw [hs'] at hsz ⊢
  rw [hb] at c1 hlen hcut i1 i2 i3 ⊢
  obtain ⟨sc, hsc⟩ : ∃ sc, scan b = sc := ⟨_, rfl⟩
  rw [hsc] at hcut hs2 i1 i2 i3 ⊢
  obtain ⟨l, n⟩ := sc
  simp only at hcut hs2 i1 i2 i3 ⊢
  replace hsc := Hid.mk' hsc
  replace i1 := Hid.mk' i1
  replace i3 := Hid.mk' i3
  replace hs2 := Hid.mk' hs2
  replace hcut := Hid.mk' hcut
  clear hE hs' hb
  obtain ⟨y, hy⟩ : ∃ y, (sizeS s' nm).2 = y := ⟨_, rfl⟩
  obtain ⟨y1, hy1⟩ : ∃ y, (sizeS s' nm).1 = y := ⟨_, rfl⟩
  obtain ⟨e3, he3⟩ : ∃ y, foundE s' nm = y := ⟨_, rfl⟩
  rw [hy] at hsz ⊢
  obtain ⟨cw, hcw⟩ : ∃ cw, cwN l y = cw := ⟨_, rfl⟩
  rw [hcw]
  obtain ⟨L, hLl⟩ : ∃ L, l.length = L := ⟨_, rfl⟩
  rw [hLl]
  replace hy := Hid.mk' hy
  replace hy1 := Hid.mk' hy1
  replace he3 := Hid.mk' he3
  replace hcw := Hid.mk' hcw
  unfold ptr strV at *
  go_enter Tryd.func6, Tryd.ntmps6
  go_wp2_with fail
  refine c1.mono ?_
  rintro e w1 ⟨vb, rfl, O1, f1, t1⟩
  have c2 := scan_any w1 vb b O1.bs (hL.turn_no t1) (by omega)
  rw [hsc.out] at c2
  simp only at c2
  obtain ⟨va, N, vc, rfl, hN⟩ := O1.fn
  rw [List.length_map] at hN
  clear c1
  rcases he with rfl | rfl
  all_goals
    go_wp2_with fail
    refine c2.mono ?_
    rintro e w2 ⟨vl, rfl, L2, t2⟩
    have T2 := t1.then_no t2
    have K0 : LsK w.heap.size w2.heap.size w2 vl l := by
      obtain ⟨vs, a1, a2, a3, a4, a5⟩ := L2
      have s1 := t1.size
      refine ⟨w2, ⟨vs, a1, a2, fun g hg => Nat.le_trans s1 (a3 g hg), a4, fun j r u hr hu => ?_⟩, Nat.le_refl _, Turn.refl _ _⟩
      obtain ⟨x1, x2⟩ := a5 j r u hr hu
      exact ⟨x1, fun g hg => Nat.le_trans s1 (x2 g hg)⟩
    obtain ⟨la, lc, rfl⟩ := L2.form
    have D2 := hk.turn_no T2
    have hN2 : N = b.length := hN.out
    have s2 := T2.size
    by_cases hlt : n < N
    · have hlt' : (n : Int) < (N : Int) := by omega
      have c3 := cut44 D2 hn nm hnm (n : Int)
      have hz := hcut.out (by omega)
      have hs3 := hs2.out
      rw [if_pos (by omega)] at hs3
      obtain ⟨r, hr⟩ : ∃ r, cutS s nm (n : Int) = r := ⟨_, rfl⟩
      rw [show ((n : Nat) : Int) = (n : Int) from rfl, hr] at hz hs3
      rw [hr] at c3
      obtain ⟨r1, r2⟩ := r
      simp only at hz hs3
      subst hz
      subst hs3
      unfold ptr strV at c3
      replace c3 := Hid.mk' c3
      clear hr hs2 hcut D2 hN2
      go_wp2_with fail
      refine c3.out.mono ?_
      rintro e w3 ⟨rfl, M3, d3, hf3, t3⟩
      have hM3 : ∀ k, M3 k → M k ∨ w2.heap.size ≤ k := fun k z => hf3 k z
      have k3 : LsK w.heap.size w2.heap.size w3 (.slice la l.length lc) l := K0.turn t3 (fun k z => Or.inl (hKlt k z))
      have T3 : Turn M w w3 := (Turn.of_no T2).trans t3 (fun _ _ z => z)
      have s3 := t3.size
      clear c3 hf3 t3 K0 T2 t2 L2
      have sz := Hid.mk' (size40 d3 nm hnm)
      unfold ptr strV at sz
      rw [hy.out, hy1.out, he3.out] at sz
      go_wp2_with fail
      refine sz.out.mono ?_
      rintro e w4 ⟨rfl, t4⟩
      have k4 := k3.turn_no t4
      have d4 := d3.turn_no t4
      have T4 := T3.then_no t4
      have s4 := t4.size
      obtain ⟨ts, q1, q2, qb⟩ := k4.ls.bl
      have c5 := within18 w4 _ ts qb y (by omega) (fun t ht => by
        have := i1.out t.2 (by rw [← q1]; exact List.mem_map_of_mem ht)
        omega)
      rw [show List.map (fun x => x.snd) ts = l from q1] at c5
      rw [hcw.out] at c5
      rw [hLl] at c5
      replace c5 := Hid.mk' c5
      clear sz qb q1 q2 t4
      go_wp2_with fail
      refine c5.out.mono ?_
      rintro e w5 ⟨rfl, rfl⟩
      have T6 : Turn no w5 (w5.alloc (.cells #[.pointer (some ⟨w5.heap.size, 0, none⟩), .pointer (some ⟨p, 0, none⟩), .string ⟨nm.toArray⟩, .int .i64 L, .int .i64 cw, .bool false] 65)) := (Turn.refl no w5).alloc _
      have R6 : (w5.alloc (.cells #[.pointer (some ⟨w5.heap.size, 0, none⟩), .pointer (some ⟨p, 0, none⟩), .string ⟨nm.toArray⟩, .int .i64 L, .int .i64 cw, .bool false] 65)).heap[w5.heap.size]? = some (.cells #[.pointer (some ⟨w5.heap.size, 0, none⟩), .pointer (some ⟨p, 0, none⟩), .string ⟨nm.toArray⟩, .int .i64 L, .int .i64 cw, .bool false] 65 (0, 0)) := heap_alloc_new w5 _
      have k6 := k4.turn_no T6
      have d6 := d4.turn_no T6
      have T7 := T4.then_no T6
      have d5l := d4.klt
      have fin : Hid (∃ q' vl' C M', Value.tuple #[.pointer (some ⟨w5.heap.size, 0, none⟩), .slice la L lc, .int .i64 0] = .tuple #[ptr q', vl', .int .i64 0] ∧ w.heap.size ≤ C ∧ C ≤ q' ∧ LsK w.heap.size C (w5.alloc (.cells #[.pointer (some ⟨w5.heap.size, 0, none⟩), .pointer (some ⟨p, 0, none⟩), .string ⟨nm.toArray⟩, .int .i64 L, .int .i64 cw, .bool false] 65)) vl' l ∧ Dk (w5.alloc (.cells #[.pointer (some ⟨w5.heap.size, 0, none⟩), .pointer (some ⟨p, 0, none⟩), .string ⟨nm.toArray⟩, .int .i64 L, .int .i64 cw, .bool false] 65)) p M' s' ∧ (∀ k, M' k → M k ∨ C ≤ k) ∧ ¬ M' q' ∧
          Lg (w5.alloc (.cells #[.pointer (some ⟨w5.heap.size, 0, none⟩), .pointer (some ⟨p, 0, none⟩), .string ⟨nm.toArray⟩, .int .i64 L, .int .i64 cw, .bool false] 65)) q' p nm L cw false ∧ Turn M w (w5.alloc (.cells #[.pointer (some ⟨w5.heap.size, 0, none⟩), .pointer (some ⟨p, 0, none⟩), .string ⟨nm.toArray⟩, .int .i64 L, .int .i64 cw, .bool false] 65))) := by
        rw [hLl] at k6
        exact ⟨w5.heap.size, _, w2.heap.size, M3, rfl, s2, by omega, k6, d6, hM3, (fun hk' => by have := d5l _ hk'; omega), ⟨R6⟩, T7⟩
      clear k6 d6 T7 R6 T6 k4 d4 T4 c5
      go_wp2_with fail
      go_ret3
      obtain ⟨q', vl', C, M', g1, g2⟩ := fin.out
      exact ⟨q', vl', C, M', congrArg Ending.returned g1, g2⟩
    · have hlt' : ¬ (n : Int) < (N : Int) := by omega
      have hs3 := hs2.out
      rw [if_neg (by omega)] at hs3
      subst hs3
      obtain ⟨M3, d3, hM3⟩ : ∃ M3 : Nat → Prop, Dk w2 p M3 s' ∧ ∀ k, M3 k → M k ∨ w2.heap.size ≤ k := ⟨M, D2, fun k z => Or.inl z⟩
      have k3 : LsK w.heap.size w2.heap.size w2 (.slice la l.length lc) l := K0
      have T3 : Turn M w w2 := Turn.of_no T2
      have s3 : w2.heap.size ≤ w2.heap.size := Nat.le_refl _
      clear hs2 hcut K0 T2 t2 L2 D2 hN2
      have sz := Hid.mk' (size40 d3 nm hnm)
      unfold ptr strV at sz
      rw [hy.out, hy1.out, he3.out] at sz
      go_wp2_with fail
      refine sz.out.mono ?_
      rintro e w4 ⟨rfl, t4⟩
      have k4 := k3.turn_no t4
      have d4 := d3.turn_no t4
      have T4 := T3.then_no t4
      have s4 := t4.size
      obtain ⟨ts, q1, q2, qb⟩ := k4.ls.bl
      have c5 := within18 w4 _ ts qb y (by omega) (fun t ht => by
        have := i1.out t.2 (by rw [← q1]; exact List.mem_map_of_mem ht)
        omega)
      rw [show List.map (fun x => x.snd) ts = l from q1] at c5
      rw [hcw.out] at c5
      rw [hLl] at c5
      replace c5 := Hid.mk' c5
      clear sz qb q1 q2 t4
      go_wp2_with fail
      refine c5.out.mono ?_
      rintro e w5 ⟨rfl, rfl⟩
      have T6 : Turn no w5 (w5.alloc (.cells #[.pointer (some ⟨w5.heap.size, 0, none⟩), .pointer (some ⟨p, 0, none⟩), .string ⟨nm.toArray⟩, .int .i64 L, .int .i64 cw, .bool false] 65)) := (Turn.refl no w5).alloc _
      have R6 : (w5.alloc (.cells #[.pointer (some ⟨w5.heap.size, 0, none⟩), .pointer (some ⟨p, 0, none⟩), .string ⟨nm.toArray⟩, .int .i64 L, .int .i64 cw, .bool false] 65)).heap[w5.heap.size]? = some (.cells #[.pointer (some ⟨w5.heap.size, 0, none⟩), .pointer (some ⟨p, 0, none⟩), .string ⟨nm.toArray⟩, .int .i64 L, .int .i64 cw, .bool false] 65 (0, 0)) := heap_alloc_new w5 _
      have k6 := k4.turn_no T6
      have d6 := d4.turn_no T6
      have T7 := T4.then_no T6
      have d5l := d4.klt
      have fin : Hid (∃ q' vl' C M', Value.tuple #[.pointer (some ⟨w5.heap.size, 0, none⟩), .slice la L lc, .int .i64 0] = .tuple #[ptr q', vl', .int .i64 0] ∧ w.heap.size ≤ C ∧ C ≤ q' ∧ LsK w.heap.size C (w5.alloc (.cells #[.pointer (some ⟨w5.heap.size, 0, none⟩), .pointer (some ⟨p, 0, none⟩), .string ⟨nm.toArray⟩, .int .i64 L, .int .i64 cw, .bool false] 65)) vl' l ∧ Dk (w5.alloc (.cells #[.pointer (some ⟨w5.heap.size, 0, none⟩), .pointer (some ⟨p, 0, none⟩), .string ⟨nm.toArray⟩, .int .i64 L, .int .i64 cw, .bool false] 65)) p M' s' ∧ (∀ k, M' k → M k ∨ C ≤ k) ∧ ¬ M' q' ∧
          Lg (w5.alloc (.cells #[.pointer (some ⟨w5.heap.size, 0, none⟩), .pointer (some ⟨p, 0, none⟩), .string ⟨nm.toArray⟩, .int .i64 L, .int .i64 cw, .bool false] 65)) q' p nm L cw false ∧ Turn M w (w5.alloc (.cells #[.pointer (some ⟨w5.heap.size, 0, none⟩), .pointer (some ⟨p, 0, none⟩), .string ⟨nm.toArray⟩, .int .i64 L, .int .i64 cw, .bool false] 65))) := by
        rw [hLl] at k6
        exact ⟨w5.heap.size, _, w2.heap.size, M3, rfl, s2, by omega, k6, d6, hM3, (fun hk' => by have := d5l _ hk'; omega), ⟨R6⟩, T7⟩
      clear k6 d6 T7 R6 T6 k4 d4 T4 c5
      go_wp2_with fail
      go_ret3
      obtain ⟨q', vl', C, M', g1, g2⟩ := fin.out
      exact ⟨q', vl', C, M', congrArg Ending.returned g1, g2⟩
end
end Go.Proofs.YtbkbecjgphjpkabDoor
