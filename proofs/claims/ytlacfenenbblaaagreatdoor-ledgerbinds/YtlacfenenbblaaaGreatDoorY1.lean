/- An account's form, of both sides. -/
import Derived.Test.YtlacfenenbblaaaGreatDoorWm
import Derived.Test.YtlacfenenbblaaaGreatDoorCm
import Derived.Test.YtlacfenenbblaaaGreatDoorLa
import Derived.Test.YtlacfenenbblaaaGreatDoorDa
import Derived.Deep.Cut
import Derived.Deep.RegionHeld3
import Derived.Deep.MidRow
import Derived.Laws.Rows
namespace Go.Proofs.YtlacfenenbblaaaGreatDoor
open Go.RowKit
set_option linter.unusedVariables false

/-- An account's cells. -/
def acs (m : Ac) : List Value := [.int .u64 m.ad, .int .u64 m.bal, .int .u64 m.bond, .int .u64 m.nonce, .bool m.jail]
/-- An account's form. -/
def formB (m : Ac) : List UInt8 := leB m.ad 8 ++ leB m.bal 8 ++ leB m.bond 8 ++ leB m.nonce 8 ++ leB (jB m.jail) 1
theorem formB_len (m : Ac) : (formB m).length = 33 := by simp [formB, leB_length]
theorem Laid.cell {w W : World} {p : Nat} {v : Value} {bs : List UInt8} {e : Int} (L : Laid w p v bs e W) {b o : Nat} {u : Value} (hb : ¬ wfoot p v b) (hc : w.cell? ⟨b, o, none⟩ = some u) : W.cell? ⟨b, o, none⟩ = some u := by
  obtain ⟨v1, W1, t1, n1⟩ := L
  exact t1.keep hc hb
theorem stepU {w0 W : World} {p : Nat} {v : Value} {bs : List UInt8} (L : Laid w0 p v bs 0 W) (n : Nat) (hn : n < 18446744073709551616) (hle : bs.length + 10 ≤ 140737488355328) :
    Calls Tryz.prog 58 #[.pointer (some ⟨p, 0, none⟩), .int .u64 n] W fun e w' => e = .returned (.tuple #[]) ∧ Laid w0 p v (bs ++ leB n 8) 0 w' := by
  obtain ⟨v1, W1, t1, n1⟩ := L
  refine (wu64_made W p v1 bs W1 n hn hle).mono ?_
  rintro e w' ⟨rfl, v2, W2, t2, n2⟩
  exact ⟨rfl, v2, W2, near_turn t1 n1 t2, near_near t1.size n1 n2⟩
theorem stepB {w0 W : World} {p : Nat} {v : Value} {bs : List UInt8} (L : Laid w0 p v bs 0 W) (b : Bool) (hle : bs.length + 10 ≤ 140737488355328) :
    Calls Tryz.prog 81 #[.pointer (some ⟨p, 0, none⟩), .bool b] W fun e w' => e = .returned (.tuple #[]) ∧ Laid w0 p v (bs ++ leB (jB b) 1) 0 w' := by
  obtain ⟨v1, W1, t1, n1⟩ := L
  refine (wbool_made W p v1 bs W1 b hle).mono ?_
  rintro e w' ⟨rfl, v2, W2, t2, n2⟩
  exact ⟨rfl, v2, W2, near_turn t1 n1 t2, near_near t1.size n1 n2⟩
theorem stepO {w0 W : World} {p : Nat} {v : Value} {bs : List UInt8} (L : Laid w0 p v bs 0 W) (hle : bs.length ≤ 140737488355328) :
    Calls Tryz.prog 59 #[.pointer (some ⟨p, 0, none⟩)] W fun e w' => ∃ v', e = .returned (.tuple #[v', .int .i64 0]) ∧ Own w' 5 v' (bs.map bv) ∧ (∀ g, v'.ownBlock = some g → W.heap.size ≤ g) ∧ Turn (wfoot p v) w0 w' := by
  obtain ⟨v1, W1, t1, n1⟩ := L
  refine (out_made W p v1 bs W1 hle).mono ?_
  rintro e w' ⟨v', rfl, o, n, t⟩
  exact ⟨v', rfl, o, n, t1.then_no t⟩
set_option maxRecDepth 100000 in
set_option maxHeartbeats 4000000 in
theorem form31 (w : World) (m : Ac) (ho : m.ok) : Calls Tryz.prog 55 #[.agg (acs m).toArray] w fun e w' => ∃ v, e = .returned v ∧ Fr w w' v (formB m) := by
  obtain ⟨w0, hw0⟩ : ∃ w0, w.alloc (.cells (acs m).toArray 38) = w0 := ⟨_, rfl⟩
  have T0 : Turn no w w0 := by rw [← hw0]; exact (Turn.refl no w).alloc _
  have R0 : Row w0 w.heap.size (acs m).toArray 38 := by rw [← hw0]; exact Row.new w _ 38
  have x0 := R0.cell 0 _ (show (acs m).toArray[(0 : Nat)]? = some (.int .u64 m.ad) from rfl)
  have x1 := R0.cell 1 _ (show (acs m).toArray[(1 : Nat)]? = some (.int .u64 m.bal) from rfl)
  have x2 := R0.cell 2 _ (show (acs m).toArray[(2 : Nat)]? = some (.int .u64 m.bond) from rfl)
  have x3 := R0.cell 3 _ (show (acs m).toArray[(3 : Nat)]? = some (.int .u64 m.nonce) from rfl)
  have x4 := R0.cell 4 _ (show (acs m).toArray[(4 : Nat)]? = some (.bool m.jail) from rfl)
  have lp := R0.lt
  have HN := newWriter_any w0
  have HT0 := shut T0
  have HX0 := shut (And.intro x0 (And.intro x1 (And.intro x2 (And.intro x3 x4))))
  have HM : Shut m.ok := ho
  have HF : Shut (formB m = [] ++ leB m.ad 8 ++ leB m.bal 8 ++ leB m.bond 8 ++ leB m.nonce 8 ++ leB (jB m.jail) 1) := by show _ = _; simp [formB]
  have HB : Shut (([] ++ leB m.ad 8 ++ leB m.bal 8 ++ leB m.bond 8 ++ leB m.nonce 8 ++ leB (jB m.jail) 1 : List UInt8).length ≤ 100) := by show _ ≤ _; simp [leB_length]
  rw [HF.out]
  clear ho T0 R0 x0 x1 x2 x3 x4
  go_enter Tryz.func55, Tryz.ntmps55
  go_upto_region 1 with fail
  try rw [hw0]
  clear hw0
  go_upto_region 2 with (go_at_call 57; refine HN.mono ?_; clear HN; rintro e w1 ⟨rfl, W1, t1⟩)
  obtain ⟨p, hp⟩ : ∃ p, w0.heap.size = p := ⟨_, rfl⟩
  rw [hp] at W1 lp ⊢
  have HS : Shut (w.heap.size < p ∧ p ≤ w1.heap.size) := ⟨lp, by have := W1.lt; omega⟩
  have hp' := shut hp
  have L1 := Laid.refl W1
  have HC : Shut (∀ B W, Laid w1 p (.slice none 0 0) B 0 W → W.cell? ⟨w.heap.size, 0, none⟩ = some (.int .u64 m.ad) ∧ W.cell? ⟨w.heap.size, 1, none⟩ = some (.int .u64 m.bal) ∧ W.cell? ⟨w.heap.size, 2, none⟩ = some (.int .u64 m.bond) ∧ W.cell? ⟨w.heap.size, 3, none⟩ = some (.int .u64 m.nonce) ∧ W.cell? ⟨w.heap.size, 4, none⟩ = some (.bool m.jail)) := fun B W L => by
    have hb : ¬ wfoot p (.slice none 0 0) w.heap.size := by
      rintro (q | q)
      · have q2 : w.heap.size = p := q
        have := HS.out.1
        omega
      · cases q
    obtain ⟨x0, x1, x2, x3, x4⟩ := HX0.out
    exact ⟨L.cell hb (t1.keep x0 (fun q => q)), L.cell hb (t1.keep x1 (fun q => q)), L.cell hb (t1.keep x2 (fun q => q)), L.cell hb (t1.keep x3 (fun q => q)), L.cell hb (t1.keep x4 (fun q => q))⟩
  have HT1 := shut (HT0.out.then_no t1)
  clear t1 W1 lp hp HX0
  have LL := shut L1
  clear L1
  obtain ⟨c0, -⟩ := HC.out _ _ LL.out
  have K := stepU LL.out m.ad HM.out.1 (by simp)
  go_upto_region 3 with (go_at_call 58; refine K.mono ?_; rintro e w2 ⟨rfl, L2⟩)
  have L2 := shut L2
  clear K c0
  obtain ⟨-, c0, -⟩ := HC.out _ _ L2.out
  have K := stepU L2.out m.bal HM.out.2.1 (by simp [leB_length])
  go_upto_region 4 with (go_at_call 58; refine K.mono ?_; rintro e w3 ⟨rfl, L3⟩)
  have L3 := shut L3
  clear K c0
  obtain ⟨-, -, c0, -⟩ := HC.out _ _ L3.out
  have K := stepU L3.out m.bond HM.out.2.2.1 (by simp [leB_length])
  go_upto_region 5 with (go_at_call 58; refine K.mono ?_; rintro e w4 ⟨rfl, L4⟩)
  have L4 := shut L4
  clear K c0
  obtain ⟨-, -, -, c0, -⟩ := HC.out _ _ L4.out
  have K := stepU L4.out m.nonce HM.out.2.2.2 (by simp [leB_length])
  go_upto_region 6 with (go_at_call 58; refine K.mono ?_; rintro e w5 ⟨rfl, L5⟩)
  have L5 := shut L5
  clear K c0
  obtain ⟨-, -, -, -, c0⟩ := HC.out _ _ L5.out
  have K := stepB L5.out m.jail (by simp [leB_length])
  go_upto_region 7 with (go_at_call 81; refine K.mono ?_; rintro e w6 ⟨rfl, L6⟩)
  have L6 := shut L6
  clear K c0
  have K := stepO L6.out (Nat.le_trans HB.out (by omega))
  have hsz : Shut (w1.heap.size ≤ w6.heap.size) := by
    obtain ⟨_, _, t, _⟩ := L6.out
    exact t.size
  generalize hFB : ([] ++ leB m.ad 8 ++ leB m.bal 8 ++ leB m.bond 8 ++ leB m.nonce 8 ++ leB (jB m.jail) 1 : List UInt8) = FB at K
  have HFB := shut hFB
  clear hFB
  clear L6 L5 L4 L3 L2 LL HC
  go_wp2_with (go_at_call 59; refine K.mono ?_; clear K; rintro e w7 ⟨v7, rfl, o7, n7, t7⟩; obtain ⟨a7, l7, c7, rfl⟩ := o7.form)
  go_ret
  refine ⟨.slice a7 l7 c7, rfl, by have q7 := o7; rw [← HFB.out] at q7; simpa only [List.nil_append] using q7, fun g hg => ?_, HT1.out.trans t7 (fun i hi q => ?_)⟩
  · have := n7 g hg
    have := hsz.out
    have := HT1.out.size
    omega
  · rcases q with q | q
    · have q2 : i = p := q
      have := HS.out.1
      omega
    · cases q
set_option maxRecDepth 100000 in
set_option maxHeartbeats 8000000 in
theorem rform17 (w : World) (m : Ac) (ho : m.ok) : Calls Tryz.prog 11 #[.agg (acs m).toArray] w fun e w' => ∃ v, e = .returned v ∧ Fr w w' v (formB m) := by
  obtain ⟨w0, hw0⟩ : ∃ w0, w.alloc (.cells (acs m).toArray 38) = w0 := ⟨_, rfl⟩
  have T0 : Turn no w w0 := by rw [← hw0]; exact (Turn.refl no w).alloc _
  have R0 : Row w0 w.heap.size (acs m).toArray 38 := by rw [← hw0]; exact Row.new w _ 38
  have HC : Shut (∀ W, Turn no w0 W → W.cell? ⟨w.heap.size, 0, none⟩ = some (.int .u64 m.ad) ∧ W.cell? ⟨w.heap.size, 1, none⟩ = some (.int .u64 m.bal) ∧ W.cell? ⟨w.heap.size, 2, none⟩ = some (.int .u64 m.bond) ∧ W.cell? ⟨w.heap.size, 3, none⟩ = some (.int .u64 m.nonce) ∧ W.cell? ⟨w.heap.size, 4, none⟩ = some (.bool m.jail)) := fun W t =>
    ⟨t.keep (R0.cell 0 _ (show (acs m).toArray[(0 : Nat)]? = some (.int .u64 m.ad) from rfl)) (fun q => q), t.keep (R0.cell 1 _ (show (acs m).toArray[(1 : Nat)]? = some (.int .u64 m.bal) from rfl)) (fun q => q), t.keep (R0.cell 2 _ (show (acs m).toArray[(2 : Nat)]? = some (.int .u64 m.bond) from rfl)) (fun q => q), t.keep (R0.cell 3 _ (show (acs m).toArray[(3 : Nat)]? = some (.int .u64 m.nonce) from rfl)) (fun q => q), t.keep (R0.cell 4 _ (show (acs m).toArray[(4 : Nat)]? = some (.bool m.jail) from rfl)) (fun q => q)⟩
  have HT0 := shut T0
  have HM : Shut m.ok := ho
  obtain ⟨c0, -⟩ := HC.out w0 (Turn.refl no w0)
  have K := ru64 w0 m.ad HM.out.1
  clear ho T0 R0
  go_enter Tryz.func11, Tryz.ntmps11
  go_upto_region 1 with fail
  try rw [hw0]
  clear hw0
  go_upto_region 2 with (go_at_call 37; refine K.mono ?_; rintro e w1 ⟨v1, rfl, F1⟩; obtain ⟨a1, l1, p1, rfl⟩ := F1.form)
  have F1 := shut F1
  clear K c0
  obtain ⟨-, c0, -⟩ := HC.out w1 F1.out.turn
  have K := ru64 w1 m.bal HM.out.2.1
  go_upto_region 3 with (first | (go_at_call 37; refine K.mono ?_; clear K; rintro e u2 ⟨y2, rfl, G2⟩; have hq := G2.own.bs; obtain ⟨b2, k2, q2, rfl⟩ := G2.form; (obtain ⟨v2, w2, hr2, O2, E2, -⟩ := run_append_src (P := Tryz.prog) (t := 48) (tx := 48) Tryz.underlying48 Tryz.info5 rfl 48 u2 _ _ (F1.out.own.turn_no G2.turn) _ _ _ (hq.src (tx := 48) Tryz.underlying48) (by simp [leB_length]) (by simp [leB_length, maxLen]))) | (guard_target =~ wpList _ _ _ ({ dst := some 11, .. } :: _) _ _; (refine wpList_append_run rfl (.tmp 7) (.tmp 10) rfl _ _ rfl rfl hr2 ?_); (obtain ⟨a2, l2, p2, rfl⟩ := O2.form)))
  have F2 : Shut (Fr w0 w2 (.slice a2 l2 p2) ((leB m.ad 8) ++ leB m.bal 8)) := F1.out.append G2.turn O2 E2
  clear O2 E2 hq hr2 G2 c0
  obtain ⟨-, -, c0, -⟩ := HC.out w2 F2.out.turn
  have K := ru64 w2 m.bond HM.out.2.2.1
  go_upto_region 4 with (first | (go_at_call 37; refine K.mono ?_; clear K; rintro e u3 ⟨y3, rfl, G3⟩; have hq := G3.own.bs; obtain ⟨b3, k3, q3, rfl⟩ := G3.form; (obtain ⟨v3, w3, hr3, O3, E3, -⟩ := run_append_src (P := Tryz.prog) (t := 48) (tx := 48) Tryz.underlying48 Tryz.info5 rfl 48 u3 _ _ (F2.out.own.turn_no G3.turn) _ _ _ (hq.src (tx := 48) Tryz.underlying48) (by simp [leB_length]) (by simp [leB_length, maxLen]))) | (guard_target =~ wpList _ _ _ ({ dst := some 16, .. } :: _) _ _; (refine wpList_append_run rfl (.tmp 12) (.tmp 15) rfl _ _ rfl rfl hr3 ?_); (obtain ⟨a3, l3, p3, rfl⟩ := O3.form)))
  have F3 : Shut (Fr w0 w3 (.slice a3 l3 p3) (((leB m.ad 8) ++ leB m.bal 8) ++ leB m.bond 8)) := F2.out.append G3.turn O3 E3
  clear O3 E3 hq hr3 G3 c0
  obtain ⟨-, -, -, c0, -⟩ := HC.out w3 F3.out.turn
  have K := ru64 w3 m.nonce HM.out.2.2.2
  go_upto_region 5 with (first | (go_at_call 37; refine K.mono ?_; clear K; rintro e u4 ⟨y4, rfl, G4⟩; have hq := G4.own.bs; obtain ⟨b4, k4, q4, rfl⟩ := G4.form; (obtain ⟨v4, w4, hr4, O4, E4, -⟩ := run_append_src (P := Tryz.prog) (t := 48) (tx := 48) Tryz.underlying48 Tryz.info5 rfl 48 u4 _ _ (F3.out.own.turn_no G4.turn) _ _ _ (hq.src (tx := 48) Tryz.underlying48) (by simp [leB_length]) (by simp [leB_length, maxLen]))) | (guard_target =~ wpList _ _ _ ({ dst := some 21, .. } :: _) _ _; (refine wpList_append_run rfl (.tmp 17) (.tmp 20) rfl _ _ rfl rfl hr4 ?_); (obtain ⟨a4, l4, p4, rfl⟩ := O4.form)))
  have F4 : Shut (Fr w0 w4 (.slice a4 l4 p4) ((((leB m.ad 8) ++ leB m.bal 8) ++ leB m.bond 8) ++ leB m.nonce 8)) := F3.out.append G4.turn O4 E4
  clear O4 E4 hq hr4 G4 c0
  obtain ⟨-, -, -, -, c0⟩ := HC.out w4 F4.out.turn
  have K : Calls Tryz.prog 38 #[.bool m.jail] w4 fun e w' => ∃ v, e = .returned v ∧ Fr w4 w' v (leB (jB m.jail) 1) := by
    cases m.jail
    · exact rbool_f w4
    · exact rbool_t w4
  go_wp2_with (first | (go_at_call 38; refine K.mono ?_; clear K; rintro e u5 ⟨y5, rfl, G5⟩; have hq := G5.own.bs; obtain ⟨b5, k5, q5, rfl⟩ := G5.form; (obtain ⟨v5, w5, hr5, O5, E5, -⟩ := run_append_src (P := Tryz.prog) (t := 48) (tx := 48) Tryz.underlying48 Tryz.info5 rfl 48 u5 _ _ (F4.out.own.turn_no G5.turn) _ _ _ (hq.src (tx := 48) Tryz.underlying48) (by simp [leB_length]) (by simp [leB_length, maxLen]))) | (guard_target =~ wpList _ _ _ ({ dst := some 26, .. } :: _) _ _; (refine wpList_append_run rfl (.tmp 22) (.tmp 25) rfl _ _ rfl rfl hr5 ?_); (obtain ⟨a5, l5, p5, rfl⟩ := O5.form)))
  have F5 := F4.out.append G5.turn O5 E5
  go_ret
  exact ⟨_, rfl, by rw [show formB m = ((((leB m.ad 8) ++ leB m.bal 8) ++ leB m.bond 8) ++ leB m.nonce 8) ++ leB (jB m.jail) 1 by simp [formB]]; exact F5.pre HT0.out⟩
end Go.Proofs.YtlacfenenbblaaaGreatDoor


