/- The text of what a ledger holds beside its accounts: the document's. -/
import Derived.Test.YtlacfenenbblaaaGreatDoorP2
import Derived.Test.YtlacfenenbblaaaGreatDoorG3
namespace Go.Proofs.YtlacfenenbblaaaGreatDoor
open Go.RowKit
set_option linter.unusedVariables false

def rlB (m : Rl) : List UInt8 := leB m.ht 8 ++ leB m.ad 8 ++ leB m.born 8 ++ leB m.amt 8
theorem rlB_len (m : Rl) : (rlB m).length = 32 := by simp [rlB, leB_length]
def rowsB (r : List Rl) : List UInt8 := r.flatMap rlB
theorem rowsB_len : ∀ (r : List Rl), (rowsB r).length = r.length * 32
  | [] => rfl
  | m :: r => by
    have := rowsB_len r
    unfold rowsB at this ⊢
    rw [List.flatMap_cons, List.length_append, rlB_len, this, List.length_cons]
    omega
theorem rowsB_take {r : List Rl} {k : Nat} {m : Rl} (h : r[k]? = some m) : rowsB (r.take (k + 1)) = rowsB (r.take k) ++ rlB m := by
  rw [List.take_add_one, h]
  simp [rowsB]
/-- What is bound beside the accounts. -/
def restB (b s : Nat) (r : List Rl) : List UInt8 := leB r.length 8 ++ rowsB r ++ leB b 8 ++ leB s 8
theorem restB_len (b s : Nat) (r : List Rl) : (restB b s r).length = 24 + r.length * 32 := by
  simp [restB, leB_length, rowsB_len]
  omega
def rlA (m : Rl) : Array Value := #[.int .u64 m.ht, .int .u64 m.ad, .int .u64 m.born, .int .u64 m.amt]
theorem rowR (W0 : World) (g : Nat) (m : Rl) (R : Row W0 g (rlA m) 85) : ∀ W, Turn no W0 W → W.cell? ⟨g, 0, none⟩ = some (.int .u64 m.ht) ∧ W.cell? ⟨g, 1, none⟩ = some (.int .u64 m.ad) ∧ W.cell? ⟨g, 2, none⟩ = some (.int .u64 m.born) ∧ W.cell? ⟨g, 3, none⟩ = some (.int .u64 m.amt) := fun W t =>
  ⟨t.keep (R.cell 0 _ rfl) (fun q => q), t.keep (R.cell 1 _ rfl) (fun q => q), t.keep (R.cell 2 _ rfl) (fun q => q), t.keep (R.cell 3 _ rfl) (fun q => q)⟩
theorem Row.grew {w w1 : World} {v v' : Value} {xs : List Value} {g : Nat} {X : Array Value} (R : Row w g X 85) (O : Own w 5 v xs) (G : Grew w w1 v v') : Row w1 g X 85 := by
  refine R.turn G.turn (fun q => ?_)
  rcases O.shape with ⟨rfl, _⟩ | ⟨g1, c1, u1, rfl, o1, _⟩
  · cases q
  · have q1 : g1 = g := by simpa [Value.ownBlock] using q
    subst q1
    have := o1.symm.trans R
    simp at this
theorem Fr.post {w w1 w2 : World} {v : Value} {xs : List UInt8} (h : Fr w w1 v xs) (t : Turn no w1 w2) : Fr w w2 v xs := ⟨h.own.turn_no t, h.new, h.turn.then_no t⟩
set_option maxRecDepth 100000 in
set_option maxHeartbeats 16000000 in
theorem rrest29 (w : World) (va vr : Value) (r : List Rl) (hr : Rs w vr r) (hn : r.length ≤ 65536) (b s : Nat) (hb : b < 18446744073709551616) (hs : s < 18446744073709551616) : Calls Tryz.prog 13 #[.agg #[va, vr, .int .u64 b, .int .u64 s]] w fun e w' => ∃ v, e = .returned v ∧ Fr w w' v (restB b s r) := by
  obtain ⟨ad, cap, rfl, HA0⟩ := hr
  have HOK : Shut (∀ m ∈ r, m.ok) := HA0.ok
  obtain ⟨n, hln⟩ : ∃ n, Hid (r.length = n) := ⟨_, rfl⟩
  rw [show r.length = n from hln.out] at hn ⊢
  obtain ⟨w0, hw0⟩ : ∃ w0, w.alloc (.cells #[va, .slice ad n cap, .int .u64 b, .int .u64 s] 26) = w0 := ⟨_, rfl⟩
  have T0 : Turn no w w0 := by rw [← hw0]; exact (Turn.refl no w).alloc _
  have RL : Row w0 w.heap.size #[va, .slice ad n cap, .int .u64 b, .int .u64 s] 26 := by rw [← hw0]; exact Row.new w _ 26
  have HT := shut (HA0.turn_no T0)
  have HY : Shut (∀ W, Turn no w0 W → W.cell? ⟨w.heap.size, 1, none⟩ = some (.slice ad n cap) ∧ W.cell? ⟨w.heap.size, 2, none⟩ = some (.int .u64 b) ∧ W.cell? ⟨w.heap.size, 3, none⟩ = some (.int .u64 s)) := fun W t => ⟨t.keep (RL.cell 1 _ rfl) (fun q => q), t.keep (RL.cell 2 _ rfl) (fun q => q), t.keep (RL.cell 3 _ rfl) (fun q => q)⟩
  have HT0 := shut T0
  have HBS := shut (And.intro hb hs)
  have HE0 : Shut (restB b s r = (leB n 8 ++ rowsB r) ++ leB b 8 ++ leB s 8) := by show _ = _; unfold restB; rw [hln.out]
  rw [HE0.out]
  have hN1 : (n : Int) ≤ 65536 := by omega
  have K := ru64 w0 n (by omega)
  obtain ⟨y1, -, -⟩ := HY.out w0 (Turn.refl no w0)
  clear HA0 RL T0 hb hs
  go_enter Tryz.func13, Tryz.ntmps13
  go_upto_region 1 with fail
  try rw [hw0]
  clear hw0
  go_upto_region 2 with (go_at_call 37; refine K.mono ?_; rintro e w1 ⟨v1, rfl, F1⟩; obtain ⟨a1, l1, p1, rfl⟩ := F1.form)
  have F1 := shut F1
  clear K y1
  go_wp2_with fail
  go_loopw [3, 4] (fun vi x wr => ∃ (k : Nat), k ≤ n ∧ x = .int .i64 k ∧ Shut (Fr w0 wr vi (leB n 8 ++ rowsB (r.take k)))) (fun _ x _ => n - (intOf x).toNat)
  case atStart => exact ⟨0, by omega, rfl, by show Fr _ _ _ _; simpa [rowsB] using F1.out⟩
  case round =>
    obtain ⟨k, hk, rfl, HI⟩ := hrel
    obtain ⟨va0, vn0, vc0, rfl⟩ := HI.out.form
    have hlen : Shut ((leB n 8 ++ rowsB (r.take k)).length ≤ 8 + 65536 * 32) := by
      show _ ≤ _
      rw [List.length_append, leB_length, rowsB_len, List.length_take]
      omega
    obtain ⟨y1, y2, y3⟩ := HY.out wr HI.out.turn
    by_cases hlt : k < n
    · have hlt' : (k : Int) < (n : Int) := by omega
      obtain ⟨m, hm⟩ : ∃ m, r[k]? = some m := ⟨r[k]'(by rw [hln.out]; exact hlt), List.getElem?_eq_getElem _⟩
      have hmm := List.mem_of_getElem? hm
      obtain ⟨bb, off, rfl, c0, c1, c2, c3⟩ := (HT.out.turn_no HI.out.turn).cells k m hm
      have HM := shut (rowsB_take hm)
      have HMO := shut (HOK.out m hmm)
      obtain ⟨w3, hw3⟩ : ∃ w3, wr.alloc (.cells (rlA m) 85) = w3 := ⟨_, rfl⟩
      have T3 : Turn no wr w3 := by rw [← hw3]; exact (Turn.refl no wr).alloc _
      have R3 : Row w3 wr.heap.size (rlA m) 85 := by rw [← hw3]; exact Row.new wr _ 85
      have F3 := shut (HI.out.post T3)
      rw [show rlA m = #[.int .u64 m.ht, .int .u64 m.ad, .int .u64 m.born, .int .u64 m.amt] from rfl] at hw3
      clear hm hmm T3 y2 y3
      generalize hXB : leB n 8 ++ rowsB (r.take k) = XB at *
      have HXB := shut hXB
      clear hXB
      go_upto_region 6 with fail
      try rw [hw3]
      clear hw3 c0 c1 c2 c3 y1
      generalize wr.heap.size = g7 at *
      have R3 := shut R3
      obtain ⟨d0, -, -, -⟩ := rowR w3 g7 m R3.out w3 (Turn.refl no w3)
      have K := ru64 w3 m.ht HMO.out.1
      go_upto_region 7 with (first | (go_at_call 37; refine K.mono ?_; clear K; rintro e u4 ⟨y4, rfl, G4⟩; have hq := G4.own.bs; obtain ⟨b4, k4, q4, rfl⟩ := G4.form; (obtain ⟨v4, w4, hr4, O4, E4, -⟩ := run_append_src (P := Tryz.prog) (t := 48) (tx := 48) Tryz.underlying48 Tryz.info5 rfl 48 u4 _ _ (F3.out.own.turn_no G4.turn) _ _ _ (hq.src (tx := 48) Tryz.underlying48) (by have := hlen.out; simp [leB_length]; omega) (by have := hlen.out; simp [leB_length, maxLen]; omega))) | (guard_target =~ wpList _ _ _ ({ dst := some 27, .. } :: _) _ _; (refine wpList_append_run rfl (.tmp 23) (.tmp 26) rfl _ _ rfl rfl hr4 ?_); (obtain ⟨a4, l4, p4, rfl⟩ := O4.form)))
      have F4 := shut (F3.out.append G4.turn O4 E4)
      have R4 := shut ((R3.out.turn G4.turn (fun q => q)).grew (F3.out.own.turn_no G4.turn) E4)
      clear O4 E4 hq hr4 G4 d0
      obtain ⟨-, d0, -, -⟩ := rowR w4 g7 m R4.out w4 (Turn.refl no w4)
      have K := ru64 w4 m.ad HMO.out.2.1
      go_upto_region 8 with (first | (go_at_call 37; refine K.mono ?_; clear K; rintro e u5 ⟨y5, rfl, G5⟩; have hq := G5.own.bs; obtain ⟨b5, k5, q5, rfl⟩ := G5.form; (obtain ⟨v5, w5, hr5, O5, E5, -⟩ := run_append_src (P := Tryz.prog) (t := 48) (tx := 48) Tryz.underlying48 Tryz.info5 rfl 48 u5 _ _ (F4.out.own.turn_no G5.turn) _ _ _ (hq.src (tx := 48) Tryz.underlying48) (by have := hlen.out; simp [leB_length]; omega) (by have := hlen.out; simp [leB_length, maxLen]; omega))) | (guard_target =~ wpList _ _ _ ({ dst := some 32, .. } :: _) _ _; (refine wpList_append_run rfl (.tmp 28) (.tmp 31) rfl _ _ rfl rfl hr5 ?_); (obtain ⟨a5, l5, p5, rfl⟩ := O5.form)))
      have F5 := shut (F4.out.append G5.turn O5 E5)
      have R5 := shut ((R4.out.turn G5.turn (fun q => q)).grew (F4.out.own.turn_no G5.turn) E5)
      clear O5 E5 hq hr5 G5 d0
      obtain ⟨-, -, d0, -⟩ := rowR w5 g7 m R5.out w5 (Turn.refl no w5)
      have K := ru64 w5 m.born HMO.out.2.2.1
      go_upto_region 9 with (first | (go_at_call 37; refine K.mono ?_; clear K; rintro e u6 ⟨y6, rfl, G6⟩; have hq := G6.own.bs; obtain ⟨b6, k6, q6, rfl⟩ := G6.form; (obtain ⟨v6, w6, hr6, O6, E6, -⟩ := run_append_src (P := Tryz.prog) (t := 48) (tx := 48) Tryz.underlying48 Tryz.info5 rfl 48 u6 _ _ (F5.out.own.turn_no G6.turn) _ _ _ (hq.src (tx := 48) Tryz.underlying48) (by have := hlen.out; simp [leB_length]; omega) (by have := hlen.out; simp [leB_length, maxLen]; omega))) | (guard_target =~ wpList _ _ _ ({ dst := some 37, .. } :: _) _ _; (refine wpList_append_run rfl (.tmp 33) (.tmp 36) rfl _ _ rfl rfl hr6 ?_); (obtain ⟨a6, l6, p6, rfl⟩ := O6.form)))
      have F6 := shut (F5.out.append G6.turn O6 E6)
      have R6 := shut ((R5.out.turn G6.turn (fun q => q)).grew (F5.out.own.turn_no G6.turn) E6)
      clear O6 E6 hq hr6 G6 d0
      obtain ⟨-, -, -, d0⟩ := rowR w6 g7 m R6.out w6 (Turn.refl no w6)
      have K := ru64 w6 m.amt HMO.out.2.2.2
      go_wp2_with (first | (go_at_call 37; refine K.mono ?_; clear K; rintro e u7 ⟨y7, rfl, G7⟩; have hq := G7.own.bs; obtain ⟨b7, k7, q7, rfl⟩ := G7.form; (obtain ⟨v7, w7, hr7, O7, E7, -⟩ := run_append_src (P := Tryz.prog) (t := 48) (tx := 48) Tryz.underlying48 Tryz.info5 rfl 48 u7 _ _ (F6.out.own.turn_no G7.turn) _ _ _ (hq.src (tx := 48) Tryz.underlying48) (by have := hlen.out; simp [leB_length]; omega) (by have := hlen.out; simp [leB_length, maxLen]; omega))) | (guard_target =~ wpList _ _ _ ({ dst := some 42, .. } :: _) _ _; (refine wpList_append_run rfl (.tmp 38) (.tmp 41) rfl _ _ rfl rfl hr7 ?_); (obtain ⟨a7, l7, p7, rfl⟩ := O7.form)))
      have F7 := F6.out.append G7.turn O7 E7
      have HN : Shut (Fr w0 w7 (.slice a7 l7 p7) (leB n 8 ++ rowsB (r.take (k + 1)))) := by
        show Fr _ _ _ _
        rw [HM.out, ← List.append_assoc, HXB.out]
        simpa only [rlB, List.append_assoc] using F7
      clear F7 O7 E7 hq hr7 G7 d0 F3 F4 F5 F6 R3 R4 R5 R6 HI HM HMO HXB
      go_wp2_with fail
      go_roundw
      case rel => exact ⟨k + 1, by omega, by go_num, HN⟩
      case measure => simp [intOf]; omega
    · have hlt' : ¬ (k : Int) < (n : Int) := by omega
      have F3 : Shut (Fr w0 wr (.slice va0 vn0 vc0) (leB n 8 ++ rowsB r)) := by
        have e : r.take k = r := List.take_of_length_le (by rw [hln.out]; omega)
        have := HI.out
        rwa [e] at this
      have hlen : Shut ((leB n 8 ++ rowsB r).length ≤ 8 + 65536 * 32) := by
        show _ ≤ _
        rw [List.length_append, leB_length, rowsB_len, hln.out]
        omega
      clear HT HI y2 y3
      generalize hXB : leB n 8 ++ rowsB r = XB at *
      have HXB := shut hXB
      clear hXB
      obtain ⟨y1, y2, -⟩ := HY.out wr F3.out.turn
      have K := ru64 wr b HBS.out.1
      go_upto_region 11 with (first | (go_at_call 37; refine K.mono ?_; clear K; rintro e u4 ⟨y4, rfl, G4⟩; have hq := G4.own.bs; obtain ⟨b4, k4, q4, rfl⟩ := G4.form; (obtain ⟨v4, w4, hr4, O4, E4, -⟩ := run_append_src (P := Tryz.prog) (t := 48) (tx := 48) Tryz.underlying48 Tryz.info5 rfl 48 u4 _ _ (F3.out.own.turn_no G4.turn) _ _ _ (hq.src (tx := 48) Tryz.underlying48) (by have := hlen.out; simp [leB_length]; omega) (by have := hlen.out; simp [leB_length, maxLen]; omega))) | (guard_target =~ wpList _ _ _ ({ dst := some 47, .. } :: _) _ _; (refine wpList_append_run rfl (.tmp 43) (.tmp 46) rfl _ _ rfl rfl hr4 ?_); (obtain ⟨a4, l4, p4, rfl⟩ := O4.form)))
      have F4 := shut (F3.out.append G4.turn O4 E4)
      clear O4 E4 hq hr4 G4 y1 y2
      obtain ⟨-, -, y3⟩ := HY.out w4 F4.out.turn
      have K := ru64 w4 s HBS.out.2
      go_wp2_with (first | (go_at_call 37; refine K.mono ?_; clear K; rintro e u5 ⟨y5, rfl, G5⟩; have hq := G5.own.bs; obtain ⟨b5, k5, q5, rfl⟩ := G5.form; (obtain ⟨v5, w5, hr5, O5, E5, -⟩ := run_append_src (P := Tryz.prog) (t := 48) (tx := 48) Tryz.underlying48 Tryz.info5 rfl 48 u5 _ _ (F4.out.own.turn_no G5.turn) _ _ _ (hq.src (tx := 48) Tryz.underlying48) (by have := hlen.out; simp [leB_length]; omega) (by have := hlen.out; simp [leB_length, maxLen]; omega))) | (guard_target =~ wpList _ _ _ ({ dst := some 52, .. } :: _) _ _; (refine wpList_append_run rfl (.tmp 48) (.tmp 51) rfl _ _ rfl rfl hr5 ?_); (obtain ⟨a5, l5, p5, rfl⟩ := O5.form)))
      have F5 := F4.out.append G5.turn O5 E5
      go_ret
      exact ⟨_, rfl, by have q := F5.pre HT0.out; rw [← HXB.out] at q; exact q⟩
end Go.Proofs.YtlacfenenbblaaaGreatDoor

