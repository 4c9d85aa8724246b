/- room, left, spoil, sameNames. -/
import Derived.Test.YtcdogciacchigabL1
import Derived.Test.YtcdogciacchigabS1
namespace Go.Proofs.Ytcdogciacchigab
open Go.RowKit Go.Maps
set_option linter.unusedVariables false

theorem mk28 (w : World) (n : Nat) (hn : n ≤ 140737488355328) : (Instr.makeSlice 28 (.int .i64 0) (.int .i64 n)).run Try.prog w = .ok (.slice (some ⟨w.heap.size, 0, none⟩) 0 n) (w.alloc (.cells (madeCells #[.int .u8 0] n) 5)) := by
  obtain ⟨i, hi, hz0, hz1, hz2⟩ := info_parts info5
  have := run_make (P := Try.prog) w 28 5 i (.int .u8 0) Try.underlying28 hi hz0 .i64 .i64 0 n (by omega) (by omega) (by rw [hz2]; omega) (by omega)
  rw [hz1, show (Value.int .u8 0).cells = #[.int .u8 0] from rfl] at this
  simpa using this

/-- Marks behind some bytes. -/
def marks : List UInt8 := [201, 202, 203]
set_option maxRecDepth 100000 in
set_option maxHeartbeats 2000000 in
theorem room20 (w : World) (v : Value) (b : List UInt8) (hb : Bs w v b) (hl : b.length ≤ 140737488351232) :
    Calls Try.prog 20 #[v] w fun e w' => ∃ g c, e = .returned (.slice (some ⟨g, 0, none⟩) (b.length + 3) c) ∧ Own w' 5 (.slice (some ⟨g, 0, none⟩) (b.length + 3) c) ((b ++ marks).map bv) ∧ w.heap.size ≤ g ∧ Turn no w w' := by
  obtain ⟨va, vc, rfl⟩ := hb.slice
  have hw3 : IntKind.i64.wrap ((b.length : Int) + 3) = ((b.length + 3 : Nat) : Int) := by rw [wrap_i64 (by omega) (by omega)]; omega
  have hmk := mk28 w (b.length + 3) (by omega)
  have T0 : Turn no w (w.alloc (.cells (madeCells #[.int .u8 0] (b.length + 3)) 5)) := (Turn.refl no w).alloc _
  have O0 : Own (w.alloc (.cells (madeCells #[.int .u8 0] (b.length + 3)) 5)) 5 (.slice (some ⟨w.heap.size, 0, none⟩) 0 (b.length + 3)) [] := Own.of (xs := []) (heap_alloc_new w _) (by simp) (by simp only [maxLen]; omega) (by rw [size_madeCells]) (by simp)
  obtain ⟨v2, w2, hr2, hO2, hG2, _⟩ := run_append_src (P := Try.prog) (t := 28) (tx := 28) (e := 5) Try.underlying28 info5 rfl 28 _ _ [] O0 (.slice va b.length vc) b.length (b.map bv) ((hb.turn_no T0).src Try.underlying28) (by simp; omega) (by simp only [maxLen]; simp; omega)
  rw [List.nil_append] at hO2
  have hf2 : ∀ g, v2.ownBlock = some g → w.heap.size ≤ g := hG2.fresh (fun g hg => by cases hg; exact Nat.le_refl _) T0.size
  have hq0 : ∀ k, (Value.slice (some ⟨w.heap.size, 0, none⟩) 0 (b.length + 3)).ownBlock = some k → k = w.heap.size := fun k q => by
    cases q
    rfl
  have T2 : Turn no w w2 := T0.trans hG2.turn (fun k hk q => by have := hq0 k q; omega)
  obtain ⟨a2, c2, rfl⟩ := hO2.bs.slice
  have T3 : Turn no w2 (w2.alloc (.cells #[.int .u8 201, .int .u8 202, .int .u8 203] 5)) := (Turn.refl no w2).alloc _
  have hsrc : Src Try.prog 1 28 (.slice (some ⟨w2.heap.size, 0, none⟩) 3 3) 3 (marks.map bv) (w2.alloc (.cells #[.int .u8 201, .int .u8 202, .int .u8 203] 5)) := src_lit (e' := 5) Try.underlying28 w2 marks
  obtain ⟨v4, w4, hr4, hO4, hG4, _⟩ := run_append_src (P := Try.prog) (t := 28) (tx := 28) (e := 5) Try.underlying28 info5 rfl 28 _ _ (b.map bv) (hO2.turn_no T3) _ 3 (marks.map bv) hsrc (by simp; omega) (by simp only [maxLen]; simp; omega)
  rw [← List.map_append] at hO4
  have hs2 := T2.size
  have hs3 := T3.size
  have hf4 : ∀ g, v4.ownBlock = some g → w.heap.size ≤ g := hG4.fresh hf2 (by omega)
  have T4 : Turn no w w4 := (T2.then_no T3).trans hG4.turn (fun k hk q => by have := hf2 k q; omega)
  have hlen : ((b ++ marks).map bv).length = b.length + 3 := by simp [marks]
  obtain ⟨g, c, hv4⟩ : ∃ g c, v4 = .slice (some ⟨g, 0, none⟩) (b.length + 3) c := by
    rcases hO4.shape with ⟨_, q⟩ | ⟨g, cap, cur, e, _⟩
    · have := congrArg List.length q
      rw [hlen] at this
      simp at this
    · exact ⟨g, cap, by rw [e, hlen]⟩
  subst hv4
  have FIN : Shut (Own w4 5 (.slice (some ⟨g, 0, none⟩) (b.length + 3) c) ((b ++ marks).map bv) ∧ w.heap.size ≤ g ∧ Turn no w w4) := ⟨hO4, hf4 g rfl, T4⟩
  have hr2' : ∀ ty, (Builtin.append_ #[28, 28] ty #[.slice (some ⟨w.heap.size, 0, none⟩) 0 (b.length + 3), .slice va b.length vc]).run Try.prog (w.alloc (.cells (madeCells #[.int .u8 0] (b.length + 3)) 5)) = .ok (.slice a2 b.length c2) w2 := fun ty => hr2
  have hr4' : ∀ ty, (Builtin.append_ #[28, 28] ty #[.slice a2 b.length c2, .slice (some ⟨w2.heap.size, 0, none⟩) 3 3]).run Try.prog (w2.alloc (.cells #[.int .u8 201, .int .u8 202, .int .u8 203] 5)) = .ok (.slice (some ⟨g, 0, none⟩) (b.length + 3) c) w4 := fun ty => hr4
  clear hO4 hO2 hG2 hG4 hf2 hf4 T0 T2 T3 T4 O0 hsrc hlen hb hs2 hs3 hr2 hr4
  have HR4 := shut hr4'
  clear hr4'
  generalize hN : b.length + 3 = N at *
  have HN := shut hN
  clear hN
  go_enter Try.func20, Try.ntmps20
  go_wp2_with (first | (at_builtin; refine wpList_append_run rfl _ _ (t := 28) (tx := 28) rfl _ _ rfl rfl (hr2' _) ?_; clear hr2') | (at_builtin; refine wpList_append_run rfl _ _ (t := 28) (tx := 28) rfl _ _ rfl rfl (HR4.out _) ?_))
  go_ret
  exact ⟨g, c, rfl, FIN.out⟩

set_option maxRecDepth 100000 in
set_option maxHeartbeats 2000000 in
theorem left83 (w : World) (g c : Nat) (b : List UInt8) (hl : b.length ≤ 140737488351232) (hf : Own w 5 (.slice (some ⟨g, 0, none⟩) (b.length + 3) c) ((b ++ marks).map bv)) (v : Value) (hb : Bs w v b) :
    Calls Try.prog 83 #[.slice (some ⟨g, 0, none⟩) (b.length + 3) c, v] w fun e w' => e = .returned (.bool true) ∧ Turn no w w' := by
  obtain ⟨va, vc, rfl⟩ := hb.slice
  have hn3 : b.length + 3 = (b ++ marks).length := by simp [marks]
  have c0 : w.cell? ⟨g, b.length, none⟩ = some (.int .u8 201) := hf.cell b.length _ (by simp [marks, bv])
  have c1 : w.cell? ⟨g, b.length + 1, none⟩ = some (.int .u8 202) := hf.cell (b.length + 1) _ (by simp [marks, bv])
  have c2 : w.cell? ⟨g, b.length + 2, none⟩ = some (.int .u8 203) := hf.cell (b.length + 2) _ (by simp [marks, bv])
  have hcap : b.length ≤ c := by
    rcases hf.shape with ⟨e, _⟩ | ⟨_, cap, _, e, _, h1, _⟩
    · cases e
    · simp at e h1
      have := e.2.2
      omega
  have hbt : ∀ n, Bs (w.drewN n) (.slice (some ⟨g, 0, none⟩) b.length c) b := fun n => by
    obtain ⟨a', c', e, _, hB⟩ := take_bs (hf.turn_no ((Turn.refl no w).drewN n)) b.length (by simp)
    simp at e
    obtain ⟨e1, _, e3⟩ := e
    rw [← e1, ← e3] at hB
    simpa using hB
  have cv1 := fun n => bytes_text (hbt n)
  have cv2 := fun n => bytes_text (hb.turn_no ((Turn.refl no w).drewN n))
  have hw3 : IntKind.i64.wrap ((b.length : Int) + 3) = (b.length : Int) + 3 := wrap_i64 (by omega) (by omega)
  have hw1 : IntKind.i64.wrap ((b.length : Int) + 1) = ((b.length + 1 : Nat) : Int) := by rw [wrap_i64 (by omega) (by omega)]; omega
  have hw2 : IntKind.i64.wrap ((b.length : Int) + 2) = ((b.length + 2 : Nat) : Int) := by rw [wrap_i64 (by omega) (by omega)]; omega
  have hx0 : (b.length : Int) < ((b.length + 3 : Nat) : Int) := by omega
  have hx1 : ((b.length + 1 : Nat) : Int) < ((b.length + 3 : Nat) : Int) := by omega
  have hx2 : ((b.length + 2 : Nat) : Int) < ((b.length + 3 : Nat) : Int) := by omega
  clear hf hb hn3
  go_enter Try.func83, Try.ntmps83
  go_wp2_with fail
  go_quiet (fail)
  have TD := shut ((Turn.refl no w).drewN nq)
  go_wp2_with fail
  go_ret
  exact ⟨rfl, TD.out⟩

set_option maxRecDepth 100000 in
set_option maxHeartbeats 2000000 in
theorem spoil26 (w : World) (g c : Nat) (xs : List UInt8) (hl : xs.length ≤ 140737488351240) (hf : Own w 5 (.slice (some ⟨g, 0, none⟩) xs.length c) (xs.map bv)) :
    Calls Try.prog 26 #[.slice (some ⟨g, 0, none⟩) xs.length c] w fun e w' => e = .returned (.tuple #[]) ∧ (∃ ys : List UInt8, ys.length = xs.length ∧ Own w' 5 (.slice (some ⟨g, 0, none⟩) xs.length c) (ys.map bv)) ∧ Turn (fun k => k = g) w w' := by
  have HF := shut hf
  clear hf
  go_enter Try.func26, Try.ntmps26
  go_wp2_with fail
  go_loopw [2] (fun x wr => ∃ (i : Nat) (ys : List UInt8), i ≤ xs.length ∧ x = .int .i64 i ∧ Shut (ys.length = xs.length) ∧ Shut (Own wr 5 (.slice (some ⟨g, 0, none⟩) xs.length c) (ys.map bv)) ∧ Shut (Turn (fun k => k = g) w wr)) (fun x _ => xs.length - (intOf x).toNat)
  case atStart => exact ⟨0, xs, Nat.zero_le _, rfl, rfl, HF, Turn.refl _ _⟩
  case round =>
    obtain ⟨i, ys, hi, rfl, HL, HO, HT⟩ := hrel
    by_cases hlt : i < xs.length
    · have hlt' : (i : Int) < (xs.length : Int) := by omega
      have hyl : i < ys.length := by have := HL.out; omega
      obtain ⟨y, hy⟩ : ∃ y, ys[i]? = some y := ⟨ys[i], List.getElem?_eq_getElem hyl⟩
      have cc : wr.cell? ⟨g, i, none⟩ = some (.int .u8 y.toNat) := HO.out.cell i _ (by simp [hy, bv])
      have ff := HO.out.frozen i
      have hx := xorB_eq y 90
      have h90 : ((90 : UInt8).toNat : Int) = 90 := rfl
      rw [h90] at hx
      have HO2 : Shut (Own (wr.setCell ⟨g, i, none⟩ (.int .u8 (xorB y 90).toNat)) 5 (.slice (some ⟨g, 0, none⟩) xs.length c) ((ys.set i (xorB y 90)).map bv)) := by
        have := HO.out.setAt i (bv (xorB y 90))
        rw [← List.map_set] at this
        exact this
      have HT2 : Shut (Turn (fun k => k = g) w (wr.setCell ⟨g, i, none⟩ (.int .u8 (xorB y 90).toNat))) := HT.out.setCell (p := ⟨g, i, none⟩) (fun _ => rfl) _
      have HL2 : Shut ((ys.set i (xorB y 90)).length = xs.length) := by show _ = _; rw [List.length_set]; exact HL.out
      clear hy hyl h90
      go_wp2_with fail
      go_roundw
      case rel => exact ⟨i + 1, _, by omega, by go_num, HL2, HO2, HT2⟩
      case measure => simp [intOf]; omega
    · have hlt' : ¬ (i : Int) < (xs.length : Int) := by omega
      go_wp2_with fail
      exact ⟨rfl, _, results_none rfl _ _ _, rfl, ⟨ys, HL.out, HO.out⟩, HT.out⟩

set_option maxRecDepth 100000 in
set_option maxHeartbeats 2000000 in
theorem sameNames33 (w : World) (v1 v2 : Value) (l : List Nm) (hl : l.length ≤ 65536) (h1 : Own w 9 v1 (l.map strV)) (h2 : Own w 9 v2 (l.map strV)) : Calls Try.prog 33 #[v1, v2] w fun e w' => e = .returned (.bool true) ∧ Turn no w w' := by
  have form : ∀ v, Own w 9 v (l.map strV) → ∃ a c, v = .slice a l.length c := fun v h => by
    rcases h.shape with ⟨e, q⟩ | ⟨g, cap, cur, e, _⟩
    · have : l = [] := by simpa using q
      exact ⟨none, 0, by rw [e, this]; rfl⟩
    · exact ⟨_, _, by simpa using e⟩
  obtain ⟨a1, c1, rfl⟩ := form v1 h1
  obtain ⟨a2, c2, rfl⟩ := form v2 h2
  have hat : ∀ a c, Own w 9 (.slice a l.length c) (l.map strV) → ∀ W, Turn no w W → ∀ i x, l[i]? = some x → ∃ g, a = some ⟨g, 0, none⟩ ∧ W.cell? ⟨g, i, none⟩ = some (strV x) := fun a c h W t i x hx => by
    have h' := h.turn_no t
    rcases h'.shape with ⟨e, q⟩ | ⟨g, cap, cur, e, _⟩
    · have : l = [] := by simpa using q
      rw [this] at hx; simp at hx
    · have e' : a = some ⟨g, 0, none⟩ := by simp at e; exact e.1
      subst e'
      exact ⟨g, rfl, h'.cell i _ (by simp [hx])⟩
  have HA1 := shut (hat a1 c1 h1)
  have HA2 := shut (hat a2 c2 h2)
  clear hat form h1 h2
  go_enter Try.func33, Try.ntmps33
  go_wp2_with fail
  go_loopw [5] (fun x wr => ∃ i : Nat, i ≤ l.length ∧ x = .int .i64 i ∧ Turn no w wr) (fun x _ => l.length - (intOf x).toNat)
  case atStart => exact ⟨0, Nat.zero_le _, rfl, Turn.refl _ _⟩
  case round =>
    obtain ⟨i, hi, rfl, T⟩ := hrel
    by_cases hlt : i < l.length
    · have hlt' : (i : Int) < (l.length : Int) := by omega
      obtain ⟨x, hx⟩ : ∃ x, l[i]? = some x := ⟨l[i], List.getElem?_eq_getElem hlt⟩
      obtain ⟨g1, rfl, d1⟩ := HA1.out wr T i x hx
      obtain ⟨g2, rfl, d2⟩ := HA2.out wr T i x hx
      unfold strV at d1 d2
      clear hx
      go_wp2_with fail
      go_quiet (fail)
      go_wp2_with fail
      go_roundw
      case rel => exact ⟨i + 1, by omega, by go_num, T.drewN _⟩
      case measure => simp [intOf]; omega
    · have hlt' : ¬ (i : Int) < (l.length : Int) := by omega
      go_wp2_with fail
      go_ret
      exact ⟨rfl, T⟩
end Go.Proofs.Ytcdogciacchigab
