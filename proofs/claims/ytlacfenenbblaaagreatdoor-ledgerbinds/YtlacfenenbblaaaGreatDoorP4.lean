/- The digest of what a ledger holds beside its accounts: the program's. -/
import Derived.Test.YtlacfenenbblaaaGreatDoorP3
import Derived.Test.YtlacfenenbblaaaGreatDoorJa
import Derived.Test.YtlacfenenbblaaaGreatDoorDa
namespace Go.Proofs.YtlacfenenbblaaaGreatDoor
open Go.RowKit
set_option linter.unusedVariables false

theorem Laid.post {w0 W W' : World} {p : Nat} {v : Value} {bs : List UInt8} (L : Laid w0 p v bs 0 W) (t : Turn no W W') : Laid w0 p v bs 0 W' := by
  obtain ⟨v1, W1, t1, n1⟩ := L
  exact ⟨v1, W1.turn_no t, t1.then_no t, n1⟩
/-- A row of another kind beside the Writer. -/
theorem stepUR {w0 W : World} {p : Nat} {v : Value} {bs : List UInt8} (L : Laid w0 p v bs 0 W) {g : Nat} {X : Array Value} (R : Row W g X 85) (n : Nat) (hn : n < 18446744073709551616) (hle : bs.length + 10 ≤ 140737488355328) :
    Calls Tryz.prog 58 #[.pointer (some ⟨p, 0, none⟩), .int .u64 n] W fun e w' => e = .returned (.tuple #[]) ∧ Laid w0 p v (bs ++ leB n 8) 0 w' ∧ Row w' g X 85 := by
  obtain ⟨v1, W1, t1, n1⟩ := L
  refine (wu64_made W p v1 bs W1 n hn hle).mono ?_
  rintro e w' ⟨rfl, v2, W2, t2, n2⟩
  refine ⟨rfl, ⟨v2, W2, near_turn t1 n1 t2, near_near t1.size n1 n2⟩, R.turn t2 ?_⟩
  rintro (q | q)
  · have q2 : g = p := q
    subst q2
    have := W1.blk.symm.trans R
    simp at this
  · rcases W1.own.shape with ⟨e1, _⟩ | ⟨g1, c1, u1, e1, o1, _⟩
    · rw [e1] at q; cases q
    · rw [e1] at q
      have q1 : g1 = g := by simpa [Value.ownBlock] using q
      subst q1
      have := o1.symm.trans R
      simp at this
set_option maxRecDepth 100000 in
set_option maxHeartbeats 16000000 in
theorem rest22 (w : World) (hl : Laid1 w) (h2 : 2 ≤ w.heap.size) (va vr : Value) (r : List Rl) (hr : Rs w vr r) (hn : r.length ≤ 65536) (b s : Nat) (hb : b < 18446744073709551616) (hs : s < 18446744073709551616) : Calls Tryz.prog 27 #[.agg #[va, vr, .int .u64 b, .int .u64 s]] w fun e w' => e = .returned (.agg (hv (restB b s r))) ∧ Turn no w w' := by
  have hE := restB_len b s r
  have HS : Shut (∀ W v, Turn no w W → Bs W v (restB b s r) → Calls Tryz.prog 60 #[v] W fun e w' => e = .returned (.agg (hv (restB b s r))) ∧ Turn no W w') := fun W v t q => sum19 W v _ q (hl.turn t (fun q => q)) (by have := t.size; omega) (by omega)
  have sD := hv_size (restB b s r)
  have oD := hv_one (restB b s r)
  have iD := hv_info (restB b s r)
  have hZ := hb32_size z32_len
  have hzv := zero35v
  obtain ⟨ad, cap, rfl, HA0⟩ := hr
  have HOK : Shut (∀ m ∈ r, m.ok) := HA0.ok
  obtain ⟨n, hln⟩ : ∃ n, Hid (r.length = n) := ⟨_, rfl⟩
  have HE0 : Shut (restB b s r = (leB n 8 ++ rowsB r) ++ leB b 8 ++ leB s 8) := by show _ = _; unfold restB; rw [hln.out]
  generalize hv (restB b s r) = D at *
  generalize restB b s r = RB at *
  rw [show r.length = n from hln.out] at hn ⊢
  obtain ⟨w0, hw0⟩ : ∃ w0, (w.alloc (.cells #[va, .slice ad n cap, .int .u64 b, .int .u64 s] 26)).alloc (.cells (hb32 z32) 29) = w0 := ⟨_, rfl⟩
  have T0 : Turn no w w0 := by rw [← hw0]; exact ((Turn.refl no w).alloc _).alloc _
  have RL : Row w0 w.heap.size #[va, .slice ad n cap, .int .u64 b, .int .u64 s] 26 := by rw [← hw0]; exact (Row.new w _ 26).alloc _
  have RZ : Row w0 (w.heap.size + 1) (hb32 z32) 29 := by rw [← hw0]; exact Row.newAt _ _ _ _ (by simp)
  generalize hb32 z32 = Z at *
  have HT := shut (HA0.turn_no T0)
  have y1 := RL.cell 1 _ rfl
  have y2 := RL.cell 2 _ rfl
  have y3 := RL.cell 3 _ rfl
  have HY0 := shut (And.intro y1 (And.intro y2 y3))
  have HT0 := shut T0
  have HBS := shut (And.intro hb hs)
  have hN1 : (n : Int) ≤ 65536 := by omega
  have HNW := newWriter_any w0
  have hRZ := RZ.lt
  clear HA0 RL T0 hb hs y1 y2 y3 hl
  go_enter Tryz.func27, Tryz.ntmps27
  go_upto_region 1 with fail
  try rw [hw0]
  clear hw0 hzv
  go_upto_region 2 with (go_at_call 57; refine HNW.mono ?_; clear HNW; rintro e w1 ⟨rfl, W1, t1⟩)
  obtain ⟨p, hp⟩ : ∃ p, w0.heap.size = p := ⟨_, rfl⟩
  rw [hp] at W1 hRZ ⊢
  have hwp : w.heap.size ≤ p := by rw [← hp]; exact HT0.out.size
  have hw1p : p ≤ w1.heap.size := by have := W1.lt; omega
  have HSZ := shut (And.intro hwp (And.intro hw1p hRZ))
  have L1 := shut (Laid.refl W1)
  have HC : Shut (∀ B W, Laid w1 p (.slice none 0 0) B 0 W → ∀ b o u, w0.cell? ⟨b, o, none⟩ = some u → W.cell? ⟨b, o, none⟩ = some u) := fun B W L b o u hu => by
    refine L.cell ?_ (t1.keep hu (fun q => q))
    rintro (q | q)
    · have q2 : b = p := q
      have h9 : b < w0.heap.size := World.block_lt_of_cell? w0 _ hu
      omega
    · cases q
  have HRZ : Shut (∀ B W, Laid w1 p (.slice none 0 0) B 0 W → Row W (w.heap.size + 1) Z 29) := fun B W L => by
    obtain ⟨_, _, t, _⟩ := L
    refine (RZ.turn t1 (fun q => q)).turn t ?_
    rintro (q | q)
    · have q2 : w.heap.size + 1 = p := q
      omega
    · cases q
  have HT1 := shut (HT0.out.then_no t1)
  have RZ1 := shut (RZ.turn t1 (fun q => q))
  clear t1 W1 hp RZ hwp hw1p hRZ
  have y1 := HC.out _ _ L1.out _ _ _ HY0.out.1
  have K := stepU L1.out n (by omega) (by simp)
  go_upto_region 3 with (go_at_call 58; refine K.mono ?_; clear K; rintro e w2 ⟨rfl, L2⟩)
  rw [List.nil_append] at L2
  have L2 := shut L2
  clear y1 L1
  have y1 := HC.out _ _ L2.out _ _ _ HY0.out.1
  go_wp2_with fail
  clear y1
  go_loopw [18] (fun x wr => ∃ (k : Nat), k ≤ n ∧ x = .int .i64 k ∧ Shut (Laid w1 p (.slice none 0 0) (leB n 8 ++ rowsB (r.take k)) 0 wr)) (fun x _ => n - (intOf x).toNat)
  case atStart => exact ⟨0, by omega, rfl, by show Laid _ _ _ _ _ _; simpa [rowsB] using L2.out⟩
  case round =>
    obtain ⟨k, hk, rfl, HI⟩ := hrel
    have hlen : Shut ((leB n 8 ++ rowsB (r.take k)).length ≤ 8 + 65536 * 32) := by
      show _ ≤ _
      rw [List.length_append, leB_length, rowsB_len, List.length_take]
      omega
    by_cases hlt : k < n
    · have hlt' : (k : Int) < (n : Int) := by omega
      obtain ⟨m, hm⟩ : ∃ m, r[k]? = some m := ⟨r[k]'(by rw [hln.out]; exact hlt), List.getElem?_eq_getElem _⟩
      have hmm := List.mem_of_getElem? hm
      obtain ⟨bb, off, rfl, c0, c1, c2, c3⟩ := HT.out.cells k m hm
      have c0 := HC.out _ _ HI.out _ _ _ c0
      have c1 := HC.out _ _ HI.out _ _ _ c1
      have c2 := HC.out _ _ HI.out _ _ _ c2
      have c3 := HC.out _ _ HI.out _ _ _ c3
      have HM := shut (rowsB_take hm)
      have HMO := shut (HOK.out m hmm)
      obtain ⟨w3, hw3⟩ : ∃ w3, wr.alloc (.cells (rlA m) 85) = w3 := ⟨_, rfl⟩
      have T3 : Turn no wr w3 := by rw [← hw3]; exact (Turn.refl no wr).alloc _
      have R3 : Row w3 wr.heap.size (rlA m) 85 := by rw [← hw3]; exact Row.new wr _ 85
      have F3 := shut (HI.out.post T3)
      rw [show rlA m = #[.int .u64 m.ht, .int .u64 m.ad, .int .u64 m.born, .int .u64 m.amt] from rfl] at hw3
      clear hm hmm T3
      generalize hXB : leB n 8 ++ rowsB (r.take k) = XB at *
      have HXB := shut hXB
      clear hXB
      go_upto_region 6 with fail
      try rw [hw3]
      clear hw3 c0 c1 c2 c3
      generalize wr.heap.size = g7 at *
      have R3 := shut R3
      obtain ⟨d0, -, -, -⟩ := rowR w3 g7 m R3.out w3 (Turn.refl no w3)
      have K := stepUR F3.out R3.out m.ht HMO.out.1 (by have := hlen.out; omega)
      go_upto_region 7 with (go_at_call 58; refine K.mono ?_; clear K; rintro e w4 ⟨rfl, F4, R4⟩)
      have F4 := shut F4
      have R4 := shut R4
      clear d0
      obtain ⟨-, d0, -, -⟩ := rowR w4 g7 m R4.out w4 (Turn.refl no w4)
      have K := stepUR F4.out R4.out m.ad HMO.out.2.1 (by have := hlen.out; simp [leB_length]; omega)
      go_upto_region 8 with (go_at_call 58; refine K.mono ?_; clear K; rintro e w5 ⟨rfl, F5, R5⟩)
      have F5 := shut F5
      have R5 := shut R5
      clear d0
      obtain ⟨-, -, d0, -⟩ := rowR w5 g7 m R5.out w5 (Turn.refl no w5)
      have K := stepUR F5.out R5.out m.born HMO.out.2.2.1 (by have := hlen.out; simp [leB_length]; omega)
      go_upto_region 9 with (go_at_call 58; refine K.mono ?_; clear K; rintro e w6 ⟨rfl, F6, R6⟩)
      have F6 := shut F6
      have R6 := shut R6
      clear d0
      obtain ⟨-, -, -, d0⟩ := rowR w6 g7 m R6.out w6 (Turn.refl no w6)
      have K := stepUR F6.out R6.out m.amt HMO.out.2.2.2 (by have := hlen.out; simp [leB_length]; omega)
      go_upto_region 10 with (go_at_call 58; refine K.mono ?_; clear K; rintro e w7 ⟨rfl, F7, -⟩)
      have HN : Shut (Laid w1 p (.slice none 0 0) (leB n 8 ++ rowsB (r.take (k + 1))) 0 w7) := by
        show Laid _ _ _ _ _ _
        rw [HM.out, ← List.append_assoc, HXB.out]
        simpa only [rlB, List.append_assoc] using F7
      clear F7 d0 F3 F4 F5 F6 R3 R4 R5 R6 HI HM HMO HXB
      go_wp2_with fail
      go_roundw
      case rel => exact ⟨k + 1, by omega, by go_num, HN⟩
      case measure => simp [intOf]; omega
    · have hlt' : ¬ (k : Int) < (n : Int) := by omega
      have F3 : Shut (Laid w1 p (.slice none 0 0) (leB n 8 ++ rowsB r) 0 wr) := by
        have e : r.take k = r := List.take_of_length_le (by rw [hln.out]; omega)
        have := HI.out
        rwa [e] at this
      have hlen : Shut ((leB n 8 ++ rowsB r).length ≤ 8 + 65536 * 32) := by
        show _ ≤ _
        rw [List.length_append, leB_length, rowsB_len, hln.out]
        omega
      clear HT HI L2
      generalize hXB : leB n 8 ++ rowsB r = XB at *
      have HXB := shut hXB
      clear hXB
      have y2 := HC.out _ _ F3.out _ _ _ HY0.out.2.1
      have K := stepU F3.out b HBS.out.1 (by have := hlen.out; omega)
      go_upto_region 12 with (go_at_call 58; refine K.mono ?_; clear K; rintro e w4 ⟨rfl, F4⟩)
      have F4 := shut F4
      clear y2
      have y3 := HC.out _ _ F4.out _ _ _ HY0.out.2.2
      have K := stepU F4.out s HBS.out.2 (by have := hlen.out; simp [leB_length]; omega)
      go_upto_region 13 with (go_at_call 58; refine K.mono ?_; clear K; rintro e w5 ⟨rfl, F5⟩)
      have F5 := shut F5
      clear y3
      have hs5 : Shut (w1.heap.size ≤ w5.heap.size) := by
        obtain ⟨_, _, t, _⟩ := F5.out
        exact t.size
      have K := stepO F5.out (by have := hlen.out; simp [leB_length]; omega)
      rw [show (XB ++ leB b 8 ++ leB s 8) = RB from HE0.out.symm] at K
      have HTR : Shut (∀ W, Turn (wfoot p (.slice none 0 0)) w1 W → Turn no w W ∧ Row W (w.heap.size + 1) Z 29) := fun W t => ⟨HT1.out.trans t (fun i hi q => by
        rcases q with q | q
        · have q2 : i = p := q
          have := HSZ.out.1
          omega
        · cases q), RZ1.out.turn t (by
        rintro (q | q)
        · have q2 : w.heap.size + 1 = p := q
          have := HSZ.out.2.2
          omega
        · cases q)⟩
      clear HC HRZ F3 F4
      go_wp2_with (first | (go_at_call 59; refine K.mono ?_; clear K; rintro e w6 ⟨v6, rfl, o6, n6, t6⟩; obtain ⟨a6, l6, c6, rfl⟩ := o6.form; obtain ⟨T6, RZ6⟩ := HTR.out w6 t6; have K2 := HS.out w6 _ T6 o6.bs) | (go_at_call 60; refine K2.mono ?_; clear K2; rintro e w7 ⟨rfl, t7⟩; have RZ7 := RZ6.turn t7 (fun q => q)) | (guard_target =~ wpList _ _ _ ({ dst := _, op := Op.store 29 _ _, .. } :: _) _ _; refine wpList_store_row rfl 29 (.tmp 2) (.tmp 53) rfl (w.heap.size + 1) D rfl rfl 29 Z RZ7 iD (by rw [hZ, sD]) oD ?_))
      refine bodyPost_ret (v := .agg D) ?_ rfl ⟨rfl, (T6.then_no t7).setRow _ _ (fun q => by omega)⟩
      exact results_cell_row (P := Tryz.prog) Tryz.results27 _ _ (w.heap.size + 1) 29 D (0, 0) _ rfl (setRow_heap _ _ _ _ _ _ RZ7) Tryz.underlying29 rfl iD
end Go.Proofs.YtlacfenenbblaaaGreatDoor

